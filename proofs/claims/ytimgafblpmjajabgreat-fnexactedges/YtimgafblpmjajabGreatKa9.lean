import Derived.Test.YtimgafblpmjajabGreatKa8
namespace Go.Proofs.YtimgafblpmjajabGreat
open Go.RowKit Go.Maps

theorem look_nil (s : ByteArray) (W : World) : (Instr.lookup 59 (.map none) (.agg #[.string s]) true).run Tryz.prog W = .ok (.tuple #[.int .i64 0, .bool false]) W := by kernel_rfl

set_option maxHeartbeats 4000000 in
set_option maxRecDepth 100000 in
theorem find_bad {B : Nat} {w : World} (h : GBad B w) (fb nb : ByteArray) (hn : nb.size ≤ 1048576) :
    Calls Tryz.prog 37 #[.pointer (some ⟨B, 0, none⟩), .string fb, .string nb] w fun e w' => e = .returned (.int .i64 (-1)) ∧ Below w.heap.size w w' := by
  unfold GBad at h
  have hlt : B < w.heap.size := (Array.getElem?_eq_some_iff.1 h).1
  have c0 : w.cell? ⟨B, 0, none⟩ = some (.slice none 0 0) := by simp [World.cell?, h]
  have c3 : w.cell? ⟨B, 3, none⟩ = some (.map none) := by simp [World.cell?, h]
  have hr : Strs w (.slice none 0 0) [] := ⟨none, 0, rfl, by simp, by unfold maxLen; omega, fun k hk => by simp at hk⟩
  have htr := formsToTry_any (.slice none 0 0) [] fb nb w hr (by decide) hn
  have hT8 := Pl.tries_len [] fb.data.toList nb.data.toList
  obtain ⟨T, hT⟩ : ∃ T, T = Pl.tries [] fb.data.toList nb.data.toList := ⟨_, rfl⟩
  rw [← hT] at htr hT8
  clear hr hT h
  go_enter Tryz.func37, Tryz.ntmps37
  go_wp2_with fail
  refine htr.mono ?_
  rintro e w1 ⟨vt, rfl, hr, hb1⟩
  obtain ⟨at', capt, rfl, hcapt, hmx, hcell⟩ := row_shape49 hr
  have HC : Hid (∀ k, (hk : k < T.length) → ∃ g, at' = some ⟨g, 0, none⟩ ∧ w.heap.size ≤ g ∧ g < w1.heap.size ∧ w1.cell? ⟨g, k, none⟩ = some (strV T[k])) := hcell
  clear hcell hr hmx htr
  go_wp2
  go_loopw [20] (fun i wr => ∃ k : Nat, k ≤ T.length ∧ i = .int .i64 k ∧ Below w1.heap.size w1 wr) (fun i _ => T.length - (intOf i).toNat)
  case atStart => exact ⟨0, Nat.zero_le _, rfl, Below.refl _ _⟩
  case round =>
    obtain ⟨k, hk, rfl, hB⟩ := hrel
    have hBW : Below w.heap.size w wr := hb1.trans (hB.mono hb1.size)
    by_cases hlk : k < T.length
    · obtain ⟨gt, rfl, hg0, hg, hc⟩ := HC.out k hlk
      obtain ⟨q, hq⟩ : ∃ q : ByteArray, q.data.toList = T[k] := ⟨⟨T[k].toArray⟩, by simp⟩
      have hcq : wr.cell? ⟨gt, k, none⟩ = some (.string q) := by rw [hB.cell (p := ⟨gt, k, none⟩) hg, hc, ← hq, strV_data]
      have x3 := below_cell0 hBW hlt c3
      obtain ⟨V, hV⟩ : ∃ V, V = wr.alloc (.cells #[.string q] 106) := ⟨_, rfl⟩
      have z3 : V.cell? ⟨B, 3, none⟩ = some (.map none) := by rw [hV]; exact below_cell0 ((Below.refl wr.heap.size wr).alloc (Nat.le_refl _) _) (by have := hBW.size; omega) x3
      have z0 : V.cell? ⟨wr.heap.size, 0, none⟩ = some (.string q) := by rw [hV]; simp [go_sem]
      have HV : Hid (V = wr.alloc (.cells #[.string q] 106)) := hV
      have hVB : Below w1.heap.size w1 V := by rw [hV]; exact hB.alloc hB.size _
      have hlk2 := look_nil q V.drew
      clear hq hc hV
      go_wp2
      rw [← HV.out]
      go_region
      go_wp2
      go_roundw
      case rel => exact ⟨k + 1, by omega, by go_num, hVB.drew⟩
      case measure => simp [intOf]; omega
    · go_wp2
      go_ret
      exact ⟨rfl, hBW⟩

theorem Ntl.mono {lo lo' : Nat} {w : World} {v : Value} {L : List Nat} (h : Ntl lo w v L) (hl : lo ≤ lo') : Ntl lo' w v L := by
  obtain ⟨a, c, hv, hk, hc⟩ := h
  exact ⟨a, c, hv, hk, fun i hi => by obtain ⟨b, o, ha, hb, h0⟩ := hc i hi; exact ⟨b, o, ha, Nat.lt_of_lt_of_le hb hl, h0⟩⟩
theorem Grb.mono {lo lo' B g : Nat} {w : World} {r m f st ve : Value} {S : List Value} {E : List Eg} {N : Nat} (h : Grb lo B g w r m f st ve S E N) (hl : lo ≤ lo') : Grb lo' B g w r m f st ve S E N :=
  ⟨h.blk, Nat.lt_of_lt_of_le h.lowB hl, h.gblk, Nat.lt_of_lt_of_le h.lowg hl, h.len, fun j s hs => (h.row j s hs).mono hl⟩
theorem Nmd.mono {lo lo' : Nat} {w : World} {vm : Value} {M : List Md} (h : Nmd lo w vm M) (hl : lo ≤ lo') : Nmd lo' w vm M := by
  obtain ⟨a, km, hv, hk, hc⟩ := h
  exact ⟨a, km, hv, hk, fun k hk => by obtain ⟨b, o, ha, hb, h0⟩ := hc k hk; exact ⟨b, o, ha, Nat.lt_of_lt_of_le hb hl, h0⟩⟩

set_option maxHeartbeats 8000000 in
set_option maxRecDepth 100000 in
theorem order_ok : OrderOk := by
  intro v D n w h hD hn
  have hmm := @run_makeMap Tryz.prog
  have hmf : ∀ (fn : Fn) (first cap : Array Value) (w : World), (Instr.makeFunc fn first cap).run Tryz.prog w = .ok (.func fn first cap) w := fun _ _ _ _ => rfl
  obtain ⟨a1, a2, a3, k1, k2, k3, rfl⟩ := h.agg'
  obtain ⟨W, hW⟩ : ∃ W, W = w.alloc (.cells #[.slice a1 D.roots.length k1, .slice a2 D.mods.length k2, .slice a3 D.faults.length k3] 32) := ⟨_, rfl⟩
  have hWB : Below w.heap.size w W := by rw [hW]; exact (Below.refl _ _).alloc (Nat.le_refl _) _
  have hWd := h.below hWB (Nat.le_refl _)
  have HW : Hid (W = w.alloc (.cells #[.slice a1 D.roots.length k1, .slice a2 D.mods.length k2, .slice a3 D.faults.length k3] 32)) := hW
  clear hW h
  by_cases hg : (wok D).1 = 0
  · have hcall := graphOf_good _ D W hWd hD hg
    have hroots : Strs W (.slice a1 D.roots.length k1) D.roots := by
      obtain ⟨r, m, f, hv, h1, h2, h3⟩ := hWd
      have : r = .slice a1 D.roots.length k1 := by simp at hv; exact hv.1.symm
      rw [← this]; exact h1
    have hmods : Mds W (.slice a2 D.mods.length k2) D.mods := by
      obtain ⟨r, m, f, hv, h1, h2, h3⟩ := hWd
      have : m = .slice a2 D.mods.length k2 := by simp at hv; exact hv.2.1.symm
      rw [← this]; exact h2
    have hrt : Pl.total D.roots ≤ 1048576 := by unfold Wd.t at hD; omega
    have hmt : mdsT D.mods ≤ 1048576 := by unfold Wd.t at hD; omega
    have HMS : Hid (∀ m ∈ D.mods, m.name.length ≤ 1048576) := fun m hm => by
      have h1 : m.t ≤ (D.mods.map Md.t).sum := mem_le_sum _ _ (List.mem_map.2 ⟨m, hm, rfl⟩)
      exact (Md.small (m := m) (by unfold mdsT at hmt; omega)).1
    have hml := (wok_good hg).2.2
    have hEl := edgesOf_len D hD
    have hEt := edgesOf_to D
    have HNM : Hid (Nmd W.heap.size W (.slice a2 D.mods.length k2) D.mods) := by
      obtain ⟨a, cap, hv, hcap, hmax, hc⟩ := hmods
      cases hv
      exact ⟨a2, k2, rfl, hcap, fun k hk => by obtain ⟨b, o, s, ha, hb, h0, _⟩ := hc k hk; exact ⟨b, o, ha, hb, h0⟩⟩
    have HOR : Hid (orderOf D n.data.toList = (if 0 ≤ toOf D nmain n.data.toList then (vis (edgesOf D) (D.mods.length + 1) (toOf D nmain n.data.toList).toNat (List.replicate D.mods.length false, [])).2 else []).map (nameK D.mods)) := by unfold Hid orderOf orderK; rw [if_pos hg]
    have htn : toOf D nmain n.data.toList < (D.mods.length : Int) := thereT_lt D _
    have hT1 := toOf_form D nmain n.data.toList
    have HRT : Hid (Strs W (.slice a1 D.roots.length k1) D.roots ∧ Pl.total D.roots ≤ 1048576) := ⟨hroots, hrt⟩
    have HET : Hid (∀ e ∈ edgesOf D, e.to < (D.mods.length : Int)) := hEt
    clear hWd hg hD hroots hmods hrt hmt hEt
    go_enter Tryz.func16, Tryz.ntmps16
    go_wp2_with fail
    rw [← HW.out]
    refine hcall.mono ?_
    rintro e w1 ⟨B, mb, g, r, m, f, ve, S, DM, hagg, rfl, hG, hsh, hpl, hB⟩
    obtain ⟨rfl, rfl, rfl⟩ : r = .slice a1 D.roots.length k1 ∧ m = .slice a2 D.mods.length k2 ∧ f = .slice a3 D.faults.length k3 := by simp at hagg; exact ⟨hagg.1.symm, hagg.2.1.symm, hagg.2.2.symm⟩
    have hfd := find_any hG (HRT.out.1.below hB (Nat.le_refl _)) hsh hpl ⟨#[109, 97, 105, 110]⟩ n HRT.out.2 hn
    have HFD : Hid (Calls Tryz.prog 37 #[.pointer (some ⟨B, 0, none⟩), .string ⟨#[109, 97, 105, 110]⟩, .string n] w1 fun e w' => e = .returned (.int .i64 (toOf D nmain n.data.toList)) ∧ Below w1.heap.size w1 w') := hfd
    clear hfd hagg hsh hpl hcall
    obtain ⟨tt, htt⟩ : ∃ tt, tt = toOf D nmain n.data.toList := ⟨_, rfl⟩
    rw [← htt] at HFD HOR htn hT1
    clear htt
    go_wp2_with fail
    refine HFD.out.mono ?_
    rintro e w2 ⟨rfl, hb2⟩
    have hG2 := hG.below hb2
    have hB2 : Below W.heap.size W w2 := hB.trans (hb2.mono hB.size)
    rcases hT1 with rfl | hT1
    · have HZ : Hid (orderOf D n.data.toList = []) := by unfold Hid; rw [HOR.out, if_neg (by omega)]; rfl
      go_wp2
      go_ret
      exact ⟨_, rfl, by rw [HZ.out]; exact World.ownsRow_nil _ _ _ _, hWB.trans (hB2.mono hWB.size)⟩
    · obtain ⟨k, rfl⟩ : ∃ k : Nat, tt = (k : Int) := ⟨tt.toNat, by omega⟩
      have hkb : ((k : Int) == -1) = false := by rw [beq_eq_false_iff_ne]; omega
      have HO2 : Hid (orderOf D n.data.toList = (vis (edgesOf D) (D.mods.length + 1) k (List.replicate D.mods.length false, [])).2.map (nameK D.mods)) := by unfold Hid; rw [HOR.out, if_pos hT1, Int.toNat_natCast]
      go_wp2_with fail
      obtain ⟨V, hV⟩ : ∃ V, V = (w2.alloc (.cells #[.slice none 0 0] 76)).alloc (.map #[] 0) := ⟨_, rfl⟩
      have hBV : Below w2.heap.size w2 V := by rw [hV]; exact ((Below.refl _ _).alloc (Nat.le_refl _) _).alloc (by simp) _
      have hGV := hG2.grb.below hBV
      have hDV : Dst w2.heap.size w2.heap.size (w2.heap.size + 1) V (.slice none 0 0) (List.replicate D.mods.length false, []) := by
        rw [hV]
        refine ⟨(old_blk _ _ (by simp)).trans (new_blk _ _), Nat.le_refl _, World.ownsRow_nil _ _ _ _, ⟨0, .map [], ?_, mrk_start _, by simp [unmet_rep]⟩, by omega⟩
        have h := World.ownsMap_made (H := Unit) (w2.alloc (.cells #[.slice none 0 0] 76)) Tryz.prog 3 (plainElem Tryz.prog 108)
        rw [World.size_alloc] at h
        exact h
      have hdp := deepest_any HET.out hEl (by omega) (D.mods.length + 1) w2.heap.size w2.heap.size (w2.heap.size + 1) _ _ k V hGV hDV (vinv_start _) (by show (List.replicate D.mods.length false)[k]? = some false; rw [List.getElem?_replicate, if_pos (by omega)]) (by simp [unmet_rep])
      have hvi := (vis_inv HET.out (D.mods.length + 1) k _ 0 (by omega) (vinv_start D.mods.length)).1
      obtain ⟨s4, hs4⟩ : ∃ s4, s4 = vis (edgesOf D) (D.mods.length + 1) k (List.replicate D.mods.length false, []) := ⟨_, rfl⟩
      rw [← hs4] at hdp hvi HO2
      have HGV : Hid (Grb w2.heap.size B g V (.slice a1 D.roots.length k1) (.slice a2 D.mods.length k2) (.slice a3 D.faults.length k3) (.map (some mb)) ve S (edgesOf D) D.mods.length) := hGV
      have HBV : Hid (Below w2.heap.size w2 V ∧ Below W.heap.size W w2) := ⟨hBV, hB2⟩
      rw [← hV]
      clear hs4 hV hGV hBV hDV hG2 hB2 hG hB hb2 HFD hmm hmf
      refine hdp.mono ?_
      rintro e w3 ⟨rfl, ⟨vo, hD3⟩, hb3⟩
      have hG3 := HGV.out.below hb3
      have hVs := HBV.out.1.size
      have h3s := hb3.size
      have hB3 : Below W.heap.size W w3 := HBV.out.2.trans ((HBV.out.1.trans hb3).mono HBV.out.2.size)
      have hnl := Ntl.mono (ntl_own hD3.row (Nat.le_refl _)) (Nat.le_refl _)
      have c0 : w3.cell? ⟨w2.heap.size, 0, none⟩ = some vo := by have := hD3.blk; simp [World.cell?, this]
      have hnm := gnames_any (hG3.mono (lo' := w3.heap.size) (by omega)) (Nat.le_refl _) D.mods ((HNM.out.below hB3).mono hB3.size) HMS.out vo s4.2 hnl hvi.2.2 (by have := hvi.2.1; omega)
      have c1 : ∃ a c, vo = .slice a s4.2.length c := by obtain ⟨a, c, h, _, _⟩ := row_form hD3.row; exact ⟨a, c, h⟩
      obtain ⟨ao, co, rfl⟩ := c1
      clear hD3 hG3 hnl hdp
      go_wp2_with fail
      refine hnm.mono ?_
      rintro e w4 ⟨v4, rfl, h4, hb4⟩
      obtain ⟨a4, c4, rfl, _, _⟩ := row_form h4
      have HO4 : Hid (w4.ownsRow w.heap.size 9 1 (.slice a4 s4.2.length c4) (orderOf D n.data.toList).length ((orderOf D n.data.toList).map strV)) := by
        unfold Hid
        rw [HO2.out, List.length_map, List.map_map]
        exact own_mono h4 (by have := hWB.size; have := hB3.size; omega)
      clear h4
      go_wp2
      go_ret
      exact ⟨_, rfl, HO4.out, hWB.trans ((hB3.trans (hb4.mono hB3.size)).mono hWB.size)⟩
  · have hcall := graphOf_bad _ D W hWd hD hg
    have hE : orderOf D n.data.toList = [] := by unfold orderOf orderK; rw [if_neg hg]; rfl
    rw [hE]
    clear hWd hg hE
    go_enter Tryz.func16, Tryz.ntmps16
    go_wp2_with fail
    rw [← HW.out]
    refine hcall.mono ?_
    rintro e w1 ⟨B, rfl, _, hG, hB⟩
    have hfd := find_bad hG ⟨#[109, 97, 105, 110]⟩ n hn
    clear hG hcall
    go_wp2_with fail
    refine hfd.mono ?_
    rintro e w2 ⟨rfl, hb2⟩
    go_wp2
    go_ret
    exact ⟨_, rfl, World.ownsRow_nil _ _ _ _, hWB.trans ((hB.trans (hb2.mono hB.size)).mono hWB.size)⟩
end Go.Proofs.YtimgafblpmjajabGreat
