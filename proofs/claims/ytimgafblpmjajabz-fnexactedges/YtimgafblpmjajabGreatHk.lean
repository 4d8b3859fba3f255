import Derived.Test.YtimgafblpmjajabGreatHf
import Derived.Test.YtimgafblpmjajabGreatHj
import Derived.Deep.OwnRows
import Derived.Deep.RegionWith
namespace Go.Proofs.YtimgafblpmjajabGreat
open Go.RowKit Go.Maps

theorem firstN_no {p : Nat → Bool} : ∀ {f i : Nat}, firstN p f i = i + f → ∀ j, i ≤ j → j < i + f → p j = false
  | 0, i, _, j, h1, h2 => absurd h2 (by omega)
  | f + 1, i, h, j, h1, h2 => by
    rw [firstN] at h
    split at h
    · omega
    · rename_i hp
      by_cases hj : j = i
      · subst hj; simpa using hp
      · exact firstN_no (f := f) (i := i + 1) (by omega) j (by omega) (by omega)
theorem wok_good {D : Wd} (h : (wok D).1 = 0) : wok D = (0, 0, 0) ∧ (∀ j, j < D.mods.length → badMd D.mods j = false) ∧ D.mods.length ≤ 60 := by
  unfold wok at h ⊢
  split at h
  · simp at h
  rename_i h1
  rw [if_neg h1]
  split at h
  · simp at h
  rename_i h2
  rw [if_neg h2]
  split at h
  · simp at h
  rename_i h3
  rw [if_neg h3]
  split at h
  · simp at h
  rename_i h4
  rw [if_neg h4]
  have h5 := firstN_le (badMd D.mods) D.mods.length 0
  have h6 := fun k (hk : k < D.mods.length) => firstN_no (p := badMd D.mods) (f := D.mods.length) (i := 0) (by omega) k (by omega) (by omega)
  refine ⟨?_, h6, by omega⟩
  split at h
  · rfl
  · simp at h

theorem Tryz.infoInts : (Tryz.prog.info? 24).map (fun i => (i.zero, i.size, i.bytes)) = some (some (.slice none 0 0), 1, 24) := by kernel_rfl
theorem made_rows (n : Nat) : madeCells #[Value.slice none 0 0] n = (List.replicate n (Value.slice none 0 0)).toArray := by
  apply Array.ext'
  rw [toList_madeCells_one]
/-- A graph without edges. -/
theorem Gst.start {lo mb N : Nat} {w2 W3 : World} {r m f : Value} {DM : DataW Unit} (hlo : lo ≤ w2.heap.size) (hm : w2.ownsMap Tryz.prog 106 (plainElem Tryz.prog 3) mb N DM)
    (hW3 : W3 = ((w2.alloc (.cells (madeCells #[Value.slice none 0 0] N) 24)).alloc (.cells #[r, m, f, .map (some mb), .slice none 0 0, .slice (some ⟨w2.heap.size, 0, none⟩) N N] 62)).drew) :
    Gst lo (w2.heap.size + 1) mb w2.heap.size W3 r m f (.slice none 0 0) (List.replicate N (.slice none 0 0)) [] [] N DM := by
  subst hW3
  refine ⟨?_, by omega, World.ownsRow_nil _ _ _ _, ⟨?_, hlo, ?_, ?_⟩, by simp, ?_⟩
  · have h := new_blk (w2.alloc (.cells (madeCells #[Value.slice none 0 0] N) 24)) (.cells #[r, m, f, .map (some mb), .slice none 0 0, .slice (some ⟨w2.heap.size, 0, none⟩) N N] 62)
    rw [World.size_alloc] at h; exact h
  · show ((w2.alloc _).alloc _).heap[w2.heap.size]? = _
    rw [old_blk _ _ (by simp), new_blk, made_rows]
  · intro j s hs
    have : s = .slice none 0 0 := by rw [List.getElem?_replicate] at hs; split at hs; exact (Option.some.inj hs).symm; cases hs
    subst this
    exact World.ownsRow_nil _ _ _ _
  · intro i j a b q ha _ _ hq
    have : a = .slice none 0 0 := by rw [List.getElem?_replicate] at ha; split at ha; exact (Option.some.inj ha).symm; cases ha
    subst this
    cases hq
  · exact (Kg.of_keep (fun b hb => ((old_blk _ _ (by simp; omega)).trans (old_blk w2 _ hb)))).map hm
theorem thereT_form (D : Wd) : ∀ T : List (List UInt8), thereT D T = -1 ∨ 0 ≤ thereT D T
  | [] => .inl rfl
  | n :: r => by
    rw [thereT]
    split
    · exact .inr (by omega)
    · exact thereT_form D r
theorem toOf_form (D : Wd) (f n : List UInt8) : toOf D f n = -1 ∨ 0 ≤ toOf D f n := thereT_form D _
/-- A graph of no world. -/
def GBad (B : Nat) (w : World) : Prop := w.heap[B]? = some (.cells #[.slice none 0 0, .slice none 0 0, .slice none 0 0, .map none, .slice none 0 0, .slice none 0 0] 62 (0, 0))

set_option maxHeartbeats 4000000 in
set_option maxRecDepth 100000 in
theorem graphOf_bad (v : Value) (D : Wd) (w : World) (h : Wds w v D) (hD : D.t ≤ 1048576) (hbad : ¬ (wok D).1 = 0) :
    Calls Tryz.prog 30 #[v] w fun e w' => ∃ B, e = .returned (.pointer (some ⟨B, 0, none⟩)) ∧ w.heap.size ≤ B ∧ GBad B w' ∧ Below w.heap.size w w' := by
  obtain ⟨a1, a2, a3, k1, k2, k3, rfl⟩ := h.agg'
  obtain ⟨W, hW⟩ : ∃ W, W = w.alloc (.cells #[.slice a1 D.roots.length k1, .slice a2 D.mods.length k2, .slice a3 D.faults.length k3] 32) := ⟨_, rfl⟩
  have hWB : Below w.heap.size w W := by rw [hW]; exact (Below.refl _ _).alloc (Nat.le_refl _) _
  have hok := implWorldOk_any _ D W (h.below hWB (Nat.le_refl _)) hD
  obtain ⟨rc, rm, rl, hrr⟩ : ∃ rc rm rl, wok D = (rc, rm, rl) := ⟨_, _, _, rfl⟩
  have hrc : (rc == 0) = false := by rw [hrr] at hbad; simpa using hbad
  have hwv : wrongV (wok D) = .agg #[.int .i64 rc, .int .i64 rm, .int .i64 rl] := by rw [hrr]; rfl
  rw [hwv] at hok
  have HW : Hid (W = w.alloc (.cells #[.slice a1 D.roots.length k1, .slice a2 D.mods.length k2, .slice a3 D.faults.length k3] 32)) := hW
  clear hW h hrr hwv hbad
  go_enter Tryz.func30, Tryz.ntmps30
  go_wp2_with fail
  rw [← HW.out]
  refine hok.mono ?_
  rintro e w1 ⟨rfl, hb1⟩
  go_wp2
  go_ret
  exact ⟨_, rfl, by have := hb1.size; have := hWB.size; omega, by unfold GBad; exact new_blk _ _, (hWB.trans (hb1.mono hWB.size)).alloc (by have := hb1.size; have := hWB.size; omega) _⟩

set_option maxHeartbeats 8000000 in
set_option maxRecDepth 100000 in
theorem graphOf_good (v : Value) (D : Wd) (w : World) (h : Wds w v D) (hD : D.t ≤ 1048576) (hgood : (wok D).1 = 0) :
    Calls Tryz.prog 30 #[v] w fun e w' => ∃ B mb g r m f ve S DM, v = .agg #[r, m, f] ∧ e = .returned (.pointer (some ⟨B, 0, none⟩)) ∧ Gst w.heap.size B mb g w' r m f ve S (edgesOf D) (edgesOf D) D.mods.length DM ∧ Shelved D.mods D.mods.length DM ∧ Placed D.mods D.mods.length DM ∧ Below w.heap.size w w' := by
  obtain ⟨a1, a2, a3, k1, k2, k3, rfl⟩ := h.agg'
  obtain ⟨W, hW⟩ : ∃ W, W = w.alloc (.cells #[.slice a1 D.roots.length k1, .slice a2 D.mods.length k2, .slice a3 D.faults.length k3] 32) := ⟨_, rfl⟩
  have hWB : Below w.heap.size w W := by rw [hW]; exact (Below.refl _ _).alloc (Nat.le_refl _) _
  have hWs : W.heap.size = w.heap.size + 1 := by rw [hW]; simp
  have hbxw : W.heap[w.heap.size]? = some (.cells #[.slice a1 D.roots.length k1, .slice a2 D.mods.length k2, .slice a3 D.faults.length k3] 32 (0, 0)) := by rw [hW]; exact new_blk _ _
  have hWd := h.below hWB (Nat.le_refl _)
  have hroots : Strs w (.slice a1 D.roots.length k1) D.roots := by
    obtain ⟨r, m, f, hv, h1, h2, h3⟩ := h
    have : r = .slice a1 D.roots.length k1 := by simp at hv; exact hv.1.symm
    rw [← this]; exact h1
  have hmods : Mds w (.slice a2 D.mods.length k2) D.mods := by
    obtain ⟨r, m, f, hv, h1, h2, h3⟩ := h
    have : m = .slice a2 D.mods.length k2 := by simp at hv; exact hv.2.1.symm
    rw [← this]; exact h2
  obtain ⟨hw0, hgm, hm60⟩ := wok_good hgood
  have hok := implWorldOk_any _ D W hWd hD
  have hwv : wrongV (wok D) = .agg #[.int .i64 0, .int .i64 0, .int .i64 0] := by rw [hw0]; rfl
  rw [hwv] at hok
  have hml : D.mods.length ≤ 1048576 := by omega
  have hrt : Pl.total D.roots ≤ 1048576 := by unfold Wd.t at hD; omega
  have hmt : mdsT D.mods ≤ 1048576 := by unfold Wd.t at hD; omega
  have HMS : Hid (∀ m ∈ D.mods, m.t ≤ 1048576) := fun m hm => by
    have h1 : m.t ≤ (D.mods.map Md.t).sum := mem_le_sum _ _ (List.mem_map.2 ⟨m, hm, rfl⟩)
    unfold mdsT at hmt; omega
  have HLE : Hid (lineN D.mods < 1048576) := by
    unfold Hid
    have := lineN_le D.mods
    unfold Wd.t at hD
    rcases Nat.eq_zero_or_pos D.mods.length with h0 | h0
    · rw [List.eq_nil_of_length_eq_zero h0]; decide
    · omega
  have HGM : Hid (∀ j, j < D.mods.length → badMd D.mods j = false) := hgm
  have HMD : Hid (Mds w (.slice a2 D.mods.length k2) D.mods) := hmods
  have HRT : Hid (Strs w (.slice a1 D.roots.length k1) D.roots ∧ Pl.total D.roots ≤ 1048576) := ⟨hroots, hrt⟩
  have hE : edgesOf D = modE D 0 D.mods := by unfold edgesOf; rw [if_pos hgood]
  have HW : Hid (W = w.alloc (.cells #[.slice a1 D.roots.length k1, .slice a2 D.mods.length k2, .slice a3 D.faults.length k3] 32)) := hW
  rw [hE]
  clear hW h hwv hgood hE hgm hw0 hWd hroots hmods hrt hmt hD
  go_enter Tryz.func30, Tryz.ntmps30
  go_wp2_with fail
  rw [← HW.out]
  refine hok.mono ?_
  rintro e w1 ⟨rfl, hb1⟩
  have hbx1 := (hb1.block _ (by omega)).trans hbxw
  have x0 : w1.cell? ⟨w.heap.size, 0, none⟩ = some (.slice a1 D.roots.length k1) := by simp [World.cell?, hbx1]
  have x1 : w1.cell? ⟨w.heap.size, 1, none⟩ = some (.slice a2 D.mods.length k2) := by simp [World.cell?, hbx1]
  have x2 : w1.cell? ⟨w.heap.size, 2, none⟩ = some (.slice a3 D.faults.length k3) := by simp [World.cell?, hbx1]
  have HSV : Hid (∀ V : World, Below W.heap.size W V → Calls Tryz.prog 51 #[.slice a2 D.mods.length k2] V fun e w' => e = .returned (.tuple #[.map (some V.heap.size), .int .i64 (D.mods.length : Nat)]) ∧ (∃ DM, w'.ownsMap Tryz.prog 106 (plainElem Tryz.prog 3) V.heap.size D.mods.length DM ∧ Shelved D.mods D.mods.length DM ∧ Placed D.mods D.mods.length DM) ∧ Below V.heap.size V w') := fun V hV => shelve_full _ D.mods V (HMD.out.below (hWB.trans (hV.mono hWB.size)) (Nat.le_refl _)) hml HMS.out HGM.out
  go_wp2_with fail
  refine (HSV.out _ hb1).mono ?_
  rintro e w2 ⟨rfl, ⟨DM, hmap, hsh, hpl⟩, hb2⟩
  have hB2 : Below W.heap.size W w2 := hb1.trans (hb2.mono hb1.size)
  have hbx2 := (hB2.block _ (by omega)).trans hbxw
  have y0 : w2.cell? ⟨w.heap.size, 0, none⟩ = some (.slice a1 D.roots.length k1) := by simp [World.cell?, hbx2]
  have y1 : w2.cell? ⟨w.heap.size, 1, none⟩ = some (.slice a2 D.mods.length k2) := by simp [World.cell?, hbx2]
  have y2 : w2.cell? ⟨w.heap.size, 2, none⟩ = some (.slice a3 D.faults.length k3) := by simp [World.cell?, hbx2]
  have HM : Hid (w2.ownsMap Tryz.prog 106 (plainElem Tryz.prog 3) w1.heap.size D.mods.length DM ∧ Shelved D.mods D.mods.length DM ∧ Placed D.mods D.mods.length DM) := ⟨hmap, hsh, hpl⟩
  have hmk := run_make_row' (P := Tryz.prog) 60 24 (.slice none 0 0) 24 Tryz.underlying60 Tryz.infoInts rfl .i64 .i64 D.mods.length (by omega) (by omega)
  have hl2 : w.heap.size < w2.heap.size := by have := hB2.size; omega
  have Y0 := fun o' => below_cell0 ((Below.refl w2.heap.size w2).alloc (Nat.le_refl _) o') hl2 y0
  have Y1 := fun o' => below_cell0 ((Below.refl w2.heap.size w2).alloc (Nat.le_refl _) o') hl2 y1
  have Y2 := fun o' => below_cell0 ((Below.refl w2.heap.size w2).alloc (Nat.le_refl _) o') hl2 y2
  have Z0 := fun o' o'' => below_cell0 ((Below.refl (w2.alloc o').heap.size (w2.alloc o')).alloc (Nat.le_refl _) o'') (by simp; omega) (Y0 o')
  have Z1 := fun o' o'' => below_cell0 ((Below.refl (w2.alloc o').heap.size (w2.alloc o')).alloc (Nat.le_refl _) o'') (by simp; omega) (Y1 o')
  have Z2 := fun o' o'' => below_cell0 ((Below.refl (w2.alloc o').heap.size (w2.alloc o')).alloc (Nat.le_refl _) o'') (by simp; omega) (Y2 o')
  clear hmap hsh hpl x0 x1 x2 hbx1
  go_wp2
  go_region_held3 (fun w' => w'.cell? ⟨w.heap.size, 0, none⟩ = some (.slice a1 D.roots.length k1) ∧ w'.cell? ⟨w.heap.size, 1, none⟩ = some (.slice a2 D.mods.length k2) ∧ w'.cell? ⟨w.heap.size, 2, none⟩ = some (.slice a3 D.faults.length k3)) (first | exact ⟨y0, y1, y2⟩ | exact ⟨Y0 _, Y1 _, Y2 _⟩ | exact ⟨Z0 _ _, Z1 _ _, Z2 _ _⟩) (first | fail)
  obtain ⟨W3, hW3⟩ : ∃ W3, W3 = ((w2.alloc (.cells (madeCells #[Value.slice none 0 0] D.mods.length) 24)).alloc (.cells #[.slice a1 D.roots.length k1, .slice a2 D.mods.length k2, .slice a3 D.faults.length k3, .map (some w1.heap.size), .slice none 0 0, .slice (some ⟨w2.heap.size, 0, none⟩) D.mods.length D.mods.length] 62)).drew := ⟨_, rfl⟩
  rw [← hW3]
  have hG3 := Gst.start (lo := w.heap.size) (by omega) HM.out.1 hW3
  have hB3 : Below W.heap.size W W3 := by rw [hW3]; exact ((hB2.alloc hB2.size _).alloc (by have := hB2.size; simp; omega) _).drew
  have hbx3 : W3.heap[w.heap.size]? = _ := (hB3.block _ (by omega)).trans hbxw
  have z1 : W3.cell? ⟨w.heap.size, 1, none⟩ = some (.slice a2 D.mods.length k2) := by simp [World.cell?, hbx3]
  clear hW3 Y0 Y1 Y2 Z0 Z1 Z2 y0 y1 y2 hmk hb2 hbx2
  obtain ⟨B, hBB⟩ : ∃ B, B = w2.heap.size + 1 := ⟨_, rfl⟩
  obtain ⟨g, hgg⟩ : ∃ g, g = w2.heap.size := ⟨_, rfl⟩
  obtain ⟨mb, hmbb⟩ : ∃ mb, mb = w1.heap.size := ⟨_, rfl⟩
  rw [← hBB, ← hgg, ← hmbb] at hG3
  rw [← hBB, ← hgg, ← hmbb]
  have hB30 : Below w.heap.size w W3 := hWB.trans (hB3.mono hWB.size)
  obtain ⟨am, capm, hvm, hcapm, hmaxm, hcm⟩ := HMD.out
  have HCM : Hid (∀ k, (hk : k < D.mods.length) → ∃ b o s, a2 = some ⟨b, o, none⟩ ∧ b < w.heap.size ∧
    w.cell? ⟨b, o + k * 2, none⟩ = some (strV D.mods[k].name) ∧ w.cell? ⟨b, o + k * 2 + 1, none⟩ = some s ∧ Lns w s D.mods[k].lines) := by
    cases hvm; exact hcm
  have hk2 : D.mods.length ≤ k2 := by cases hvm; exact hcapm
  have HM2 : Hid (Shelved D.mods D.mods.length DM ∧ Placed D.mods D.mods.length DM) := HM.out.2
  clear hBB hgg hmbb hcm hvm hmaxm hcapm HM HSV hB3 hB2 hb1 hbx3 hbxw HMD HW hok hWB hWs hl2 HGM
  go_wp2
  go_loopw [35] (fun i wr => ∃ (k : Nat) (ve : Value) (S : List Value), k ≤ D.mods.length ∧ i = .int .i64 k ∧ Gst w.heap.size B mb g wr (.slice a1 D.roots.length k1) (.slice a2 D.mods.length k2) (.slice a3 D.faults.length k3) ve S (modE D 0 (D.mods.take k)) (modE D 0 (D.mods.take k)) D.mods.length DM ∧ Below w.heap.size w wr) (fun i _ => D.mods.length - (intOf i).toNat)
  case atStart => exact ⟨0, _, _, Nat.zero_le _, rfl, by simpa [modE] using hG3, hB30⟩
  case round =>
    obtain ⟨k, ve, S, hk, rfl, hG, hB⟩ := hrel
    by_cases hlt : k < D.mods.length
    · obtain ⟨b, o, ls, rfl, hb, h0, h1, h2⟩ := HCM.out k hlt
      obtain ⟨la, lcap, rfl⟩ := h2.slice
      obtain ⟨hs1, hs2, hs3⟩ := Md.small (HMS.out _ (List.getElem_mem hlt))
      obtain ⟨ns, hns⟩ : ∃ ns : ByteArray, ns.data.toList = D.mods[k].name := ⟨⟨D.mods[k].name.toArray⟩, by simp⟩
      have hnv : strV D.mods[k].name = .string ns := by rw [← hns, strV_data]
      rw [hnv] at h0
      have hnsz : ns.size ≤ 1048576 := by rw [size_data, hns]; exact hs1
      have y0 := below_cell0 hB hb h0
      have y1 := below_cell0 hB hb h1
      obtain ⟨L, hL⟩ : ∃ L, L = D.mods[k].lines := ⟨_, rfl⟩
      have hEk : modE D 0 (D.mods.take (k + 1)) = modE D 0 (D.mods.take k) ++ lineE D k D.mods[k].name 0 D.mods[k].lines := by
        rw [List.take_succ_eq_append_getElem hlt, modE_snoc, List.length_take, Nat.min_eq_left (by omega), Nat.zero_add]
      have hEl : (modE D 0 (D.mods.take (k + 1))).length < 1048576 := by
        have e1 := modE_len D (D.mods.take (k + 1)) 0
        have e2 := lineN_mono D.mods (k + 1)
        have e3 := HLE.out
        omega
      rw [← hL, ← hns] at hEk
      rw [← hL] at h2 hs2 hs3 y1
      obtain ⟨E, hE⟩ : ∃ E, E = modE D 0 (D.mods.take k) := ⟨_, rfl⟩
      rw [← hE] at hG hEk
      obtain ⟨NM, hNM⟩ : ∃ NM, NM = ns.data.toList := ⟨_, rfl⟩
      rw [← hNM] at hEk
      have HEK : Hid (modE D 0 (D.mods.take (k + 1)) = E ++ lineE D k NM 0 L) := hEk
      have HNM : Hid (NM = ns.data.toList) := hNM
      have hEL2 : (E ++ lineE D k NM 0 L).length < 1048576 := by rw [← hEk]; exact hEl
      have hsplit : ∀ q, q ≤ L.length → (E ++ lineE D k NM 0 (L.take q)).length ≤ (E ++ lineE D k NM 0 L).length := fun q hq => by
        have : lineE D k NM 0 L = lineE D k NM 0 (L.take q) ++ lineE D k NM q (L.drop q) := by
          have h := lineE_app D k NM (L.take q) (L.drop q) 0
          rw [List.take_append_drop, List.length_take, Nat.min_eq_left hq, Nat.zero_add] at h
          exact h
        rw [this]; simp only [List.length_append]; omega
      have HSP : Hid (∀ q, q ≤ L.length → (E ++ lineE D k NM 0 (L.take q)).length < 1048576) := fun q hq => Nat.lt_of_le_of_lt (hsplit q hq) hEL2
      obtain ⟨al, capl, hvl, hcapl, hmaxl, hcl⟩ := h2
      have HCL : Hid (∀ q, (hq : q < L.length) → ∃ b o, la = some ⟨b, o, none⟩ ∧ b < w.heap.size ∧
        w.cell? ⟨b, o + q * 4, none⟩ = some (.int .i64 L[q].op) ∧ w.cell? ⟨b, o + q * 4 + 1, none⟩ = some (strV L[q].name) ∧ w.cell? ⟨b, o + q * 4 + 2, none⟩ = some (.int .i64 L[q].num) ∧ w.cell? ⟨b, o + q * 4 + 3, none⟩ = some (.int .i64 L[q].skip)) := by
        cases hvl; exact hcl
      have hlc : L.length ≤ lcap := by cases hvl; exact hcapl
      have HS3 : Hid (∀ l ∈ L, l.name.length ≤ 1048576) := hs3
      have hszB := hB.size
      clear h0 h1 hs1 hnv hns hL hEk hEl hE hNM hEL2 hsplit hvl hcapl hmaxl hcl hs3
      have HE0 : Hid (E ++ lineE D k NM 0 (L.take 0) = E) := by unfold Hid; simp [lineE]
      obtain ⟨wo, rfl⟩ : ∃ wo, wo = wr := ⟨_, rfl⟩
      go_wp2
      go_loopw [43] (fun j wi => ∃ (q : Nat) (ve : Value) (S : List Value), q ≤ L.length ∧ j = .int .i64 q ∧ Gst w.heap.size B mb g wi (.slice a1 D.roots.length k1) (.slice (some ⟨b, o, none⟩) D.mods.length k2) (.slice a3 D.faults.length k3) ve S (E ++ lineE D k NM 0 (L.take q)) (E ++ lineE D k NM 0 (L.take q)) D.mods.length DM ∧ Below w.heap.size w wi ∧ wo.heap.size < wi.heap.size ∧ wi.heap[wo.heap.size]? = some (.cells #[.string ns, .slice la L.length lcap] 49 (0, 0))) (fun j _ => L.length - (intOf j).toNat)
      case atStart => exact ⟨0, ve, S, Nat.zero_le _, rfl, by rw [HE0.out]; exact hG.alloc _, hB.alloc hszB _, by simp, new_blk _ _⟩
      case round =>
        obtain ⟨q, vq, Sq, hq, rfl, hGq, hBq, hzi, hbx⟩ := hrel
        by_cases hlq : q < L.length
        · obtain ⟨b', o', rfl, hb', l0, l1, l2, l3⟩ := HCL.out q hlq
          obtain ⟨ln, hln⟩ : ∃ ln : ByteArray, ln.data.toList = L[q].name := ⟨⟨L[q].name.toArray⟩, by simp⟩
          have hlv : strV L[q].name = .string ln := by rw [← hln, strV_data]
          rw [hlv] at l1
          have hlnsz : ln.size ≤ 1048576 := by rw [size_data, hln]; exact HS3.out _ (List.getElem_mem hlq)
          have m0 := below_cell0 hBq hb' l0
          have m1 := below_cell0 hBq hb' l1
          have m2 := below_cell0 hBq hb' l2
          have m3 := below_cell0 hBq hb' l3
          have hsn : E ++ lineE D k NM 0 (L.take (q + 1)) = (E ++ lineE D k NM 0 (L.take q)) ++ (if L[q].op = 3 ∨ L[q].op = 4 then [⟨(k : Int), (q : Int), toOf D NM L[q].name⟩] else []) := by
            rw [List.take_succ_eq_append_getElem hlq, lineE_snoc, List.length_take, Nat.min_eq_left (by omega), Nat.zero_add, List.append_assoc]
          rw [← hln] at hsn
          have hspq := HSP.out q (by omega)
          obtain ⟨F, hF⟩ : ∃ F, F = E ++ lineE D k NM 0 (L.take q) := ⟨_, rfl⟩
          rw [← hF] at hsn hGq hspq
          obtain ⟨op, hop⟩ : ∃ op, op = L[q].op := ⟨_, rfl⟩
          obtain ⟨nu, hnu⟩ : ∃ nu, nu = L[q].num := ⟨_, rfl⟩
          obtain ⟨sk, hsk⟩ : ∃ sk, sk = L[q].skip := ⟨_, rfl⟩
          rw [← hop] at hsn m0
          rw [← hnu] at m2
          rw [← hsk] at m3
          have HSN : Hid (E ++ lineE D k NM 0 (L.take (q + 1)) = F ++ (if op = 3 ∨ op = 4 then [⟨(k : Int), (q : Int), toOf D NM ln.data.toList⟩] else [])) := hsn
          have hszq := hBq.size
          clear l0 l1 l2 l3 hlv hln hsn hF hop hnu hsk
          obtain ⟨V, hV⟩ : ∃ V, V = wr.alloc (.cells #[.int .i64 op, .string ln, .int .i64 nu, .int .i64 sk] 51) := ⟨_, rfl⟩
          have hGV : Gst w.heap.size B mb g V (.slice a1 D.roots.length k1) (.slice (some ⟨b, o, none⟩) D.mods.length k2) (.slice a3 D.faults.length k3) vq Sq F F D.mods.length DM := by rw [hV]; exact hGq.alloc _
          have hBV : Below w.heap.size w V := by rw [hV]; exact hBq.alloc hszq _
          have hzV : wo.heap.size < V.heap.size := by rw [hV]; simp; omega
          have hbxV : V.heap[wo.heap.size]? = some (.cells #[.string ns, .slice (some ⟨b', o', none⟩) L.length lcap] 49 (0, 0)) := by rw [hV]; exact (old_blk _ _ hzi).trans hbx
          have HV : Hid (V = wr.alloc (.cells #[.int .i64 op, .string ln, .int .i64 nu, .int .i64 sk] 51)) := hV
          clear hV hGq hBq hzi hbx
          go_wp2_with fail
          rw [← HV.out]
          refine (stepOf_any op nu sk ln V).mono ?_
          rintro e w4 ⟨rfl, hb4⟩
          have hG4 := hGV.below hb4
          have hB4 : Below w.heap.size w w4 := hBV.trans (hb4.mono hBV.size)
          have hbx4 := (hb4.block _ hzV).trans hbxV
          have hz4 : wo.heap.size < w4.heap.size := Nat.lt_of_lt_of_le hzV hb4.size
          clear hGV hBV hbxV hzV hb4 m0 m1 m2 m3
          go_wp2_with fail
          refine (importedBy_any op nu sk ln w4).mono ?_
          rintro e w5 ⟨rfl, hb5⟩
          have hG5 := hG4.below hb5
          have hB5 : Below w.heap.size w w5 := hB4.trans (hb5.mono hB4.size)
          have hbx5 := (hb5.block _ hz4).trans hbx4
          have hz5 : wo.heap.size < w5.heap.size := Nat.lt_of_lt_of_le hz4 hb5.size
          clear hG4 hB4 hbx4 hz4 hb5
          by_cases hyes : op = 3 ∨ op = 4
          · rw [impV, if_pos hyes]
            have HF : Hid (E ++ lineE D k NM 0 (L.take (q + 1)) = F ++ [⟨(k : Int), (q : Int), toOf D NM ln.data.toList⟩]) := by unfold Hid; rw [HSN.out, if_pos hyes]
            have z0 : w5.cell? ⟨wo.heap.size, 0, none⟩ = some (.string ns) := by simp [World.cell?, hbx5]
            have hfd := find_any hG5 (HRT.out.1.below hB5 (Nat.le_refl _)) HM2.out.1 HM2.out.2 ns ln HRT.out.2 hlnsz
            rw [← HNM.out] at hfd
            have hT1 : toOf D NM ln.data.toList = -1 ∨ 0 ≤ toOf D NM ln.data.toList := toOf_form D _ _
            obtain ⟨tt, htt⟩ : ∃ tt, tt = toOf D NM ln.data.toList := ⟨_, rfl⟩
            rw [← htt] at hfd HF hT1
            clear hyes htt
            go_wp2_with fail
            refine hfd.mono ?_
            rintro e w6 ⟨rfl, hb6⟩
            have hG6 := hG5.below hb6
            have hB6 : Below w.heap.size w w6 := hB5.trans (hb6.mono hB5.size)
            have hbx6 := (hb6.block _ hz5).trans hbx5
            have hz6 : wo.heap.size < w6.heap.size := Nat.lt_of_lt_of_le hz5 hb6.size
            clear hG5 hB5 hbx5 hz5 hb6 z0 hfd
            go_wp2_with fail
            refine (gjoin_any hG6 (q : Int) tt k (by omega) hT1 hspq).mono ?_
            rintro e w7 ⟨rfl, ⟨v7, S7, hG7⟩, hb7, hk7⟩
            have hbx7 := (hk7 _ hz6 (fun cs t fr e => by rw [hbx6] at e; simp at e; rw [← e.2.1]; decide)).trans hbx6
            go_wp2
            go_roundw
            case rel => exact ⟨q + 1, v7, S7, by omega, by go_num, by rw [HF.out]; exact hG7, hB6.trans hb7, Nat.lt_of_lt_of_le hz6 hb7.size, hbx7⟩
            case measure => simp [intOf]; omega
          · rw [impV, if_neg hyes]
            have HF : Hid (E ++ lineE D k NM 0 (L.take (q + 1)) = F) := by unfold Hid; rw [HSN.out, if_neg hyes, List.append_nil]
            clear hyes
            go_wp2
            go_roundw
            case rel => exact ⟨q + 1, vq, Sq, by omega, by go_num, by rw [HF.out]; exact hG5, hB5, hz5, hbx5⟩
            case measure => simp [intOf]; omega
        · have HQ : Hid (L.take q = L) := List.take_of_length_le (by omega)
          rw [HQ.out, ← HEK.out] at hGq
          go_wp2
          go_roundw
          case rel => exact ⟨k + 1, vq, Sq, by omega, by go_num, hGq, hBq⟩
          case measure => simp [intOf]; omega
    · obtain rfl : k = D.mods.length := by omega
      rw [List.take_length] at hG
      go_wp2
      go_ret
      exact ⟨_, _, _, _, _, _, _, _, _, rfl, rfl, hG, HM2.out.1, HM2.out.2, hB⟩
end Go.Proofs.YtimgafblpmjajabGreat
