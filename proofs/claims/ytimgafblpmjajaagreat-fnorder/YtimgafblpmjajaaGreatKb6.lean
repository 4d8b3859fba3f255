import Derived.Deep.RegionHeld3
import Derived.Deep.LoopGhost
import Derived.Laws.Bits64b
import Derived.Deep.RegionWith
import Derived.Deep.RegionLaw
import Derived.Deep.AppendLies
import Derived.Test.YtimgafblpmjajaaGreatKb5
namespace Go.Proofs.YtimgafblpmjajaaGreat
open Go.RowKit Go.Maps

set_option maxHeartbeats 4000000 in
set_option maxRecDepth 100000 in
theorem ringFrom_any {B g : Nat} {w : World} {r m f st ve : Value} {S : List Value} {E : List Eg} {N k : Nat} (hG : Grb w.heap.size B g w r m f st ve S E N) (hE : ∀ e ∈ E, e.to < (N : Int)) (hEl : E.length ≤ 1048576) (hN : N ≤ 1000000) (hk : k < N) :
    Calls Tryz.prog 23 #[.pointer (some ⟨B, 0, none⟩), .int .i64 (k : Int)] w fun e w' => ∃ v', e = .returned v' ∧ w'.ownsRow w.heap.size 3 1 v' (ringK E N k).length ((ringK E N k).map numV) ∧ Below w.heap.size w w' := by
  have hmf : ∀ (fn : Fn) (first cap : Array Value) (w : World), (Instr.makeFunc fn first cap).run Tryz.prog w = .ok (.func fn first cap) w := fun _ _ _ _ => rfl
  obtain ⟨V, hV⟩ : ∃ V, V = w.alloc (.cells #[.int .i64 (k : Int), .slice none 0 0] 97) := ⟨_, rfl⟩
  have hBV : Below w.heap.size w V := by rw [hV]; exact (Below.refl _ _).alloc (Nat.le_refl _) _
  have hcV : V.heap[w.heap.size]? = some (.cells #[numV k, .slice none 0 0] 97 (0, 0)) := by rw [hV]; exact new_blk _ _
  have hnr := nearest_any (hG.below hBV) (Nat.le_refl _) hBV.size hcV hE hEl hN hk
  have HV : Hid (V = w.alloc (.cells #[.int .i64 (k : Int), .slice none 0 0] 97)) := hV
  clear hG hcV hV hE
  go_enter Tryz.func23, Tryz.ntmps23
  go_wp2_with fail
  rw [← HV.out]
  refine hnr.mono ?_
  rintro e w1 ⟨rfl, ⟨v1, hc1, ho1⟩, hb1⟩
  have c1 : w1.cell? ⟨w.heap.size, 1, none⟩ = some v1 := by simp [World.cell?, hc1]
  obtain ⟨a1, k1, rfl, _, _⟩ := row_form ho1
  have HO : Hid (w1.ownsRow w.heap.size 3 1 (.slice a1 (ringK E N k).length k1) (ringK E N k).length ((ringK E N k).map numV)) := ho1
  clear ho1 hc1 hnr
  go_wp2
  go_ret
  exact ⟨_, rfl, HO.out, hBV.trans hb1⟩

theorem ringK_no (N k : Nat) : ringK [] N k = [] := by
  unfold ringK
  have h : rout [] k (N + 1) 0 (List.replicate N (-1), [k]) = none := by
    rw [rout]
    simp only [List.getElem?_cons_zero, rin]
    exact rout_end (by simp)
  rw [h]; rfl
theorem bestUp_no (N : Nat) : ∀ n, bestUp [] N n = []
  | 0 => rfl
  | n + 1 => by
    rw [bestUp_succ, bestStep, ringK_no, if_neg (by simp)]; exact bestUp_no N n
set_option maxHeartbeats 1000000 in
set_option maxRecDepth 100000 in
theorem gnames_nil (pa : Option Addr) (w : World) :
    Calls Tryz.prog 21 #[.pointer pa, .slice none 0 0] w fun e w' => e = .returned (.slice none 0 0) ∧ w' = w := by
  go_enter Tryz.func21, Tryz.ntmps21
  go_wp2
  go_loopw [5, 10] (fun vo i wr => vo = .slice none 0 0 ∧ i = .int .i64 0 ∧ wr = w) (fun _ _ _ => 0)
  case atStart => exact ⟨rfl, rfl, rfl⟩
  case round =>
    obtain ⟨rfl, rfl, rfl⟩ := hrel
    go_wp2
    go_ret
    exact ⟨rfl, rfl⟩

set_option maxHeartbeats 8000000 in
set_option maxRecDepth 100000 in
theorem ring_ok : RingOk := by
  intro v D w h hD
  obtain ⟨a1, a2, a3, k1, k2, k3, rfl⟩ := h.agg'
  obtain ⟨W, hW⟩ : ∃ W, W = w.alloc (.cells #[.slice a1 D.roots.length k1, .slice a2 D.mods.length k2, .slice a3 D.faults.length k3] 27) := ⟨_, rfl⟩
  have hWB : Below w.heap.size w W := by rw [hW]; exact (Below.refl _ _).alloc (Nat.le_refl _) _
  have hWd := h.below hWB (Nat.le_refl _)
  have HW : Hid (W = w.alloc (.cells #[.slice a1 D.roots.length k1, .slice a2 D.mods.length k2, .slice a3 D.faults.length k3] 27)) := hW
  clear hW h
  by_cases hg : (wok D).1 = 0
  · have hcall := graphOf_good _ D W hWd hD hg
    have hmods : Mds W (.slice a2 D.mods.length k2) D.mods := by
      obtain ⟨r, m, f, hv, h1, h2, h3⟩ := hWd
      have : m = .slice a2 D.mods.length k2 := by simp at hv; exact hv.2.1.symm
      rw [← this]; exact h2
    have hmt : mdsT D.mods ≤ 1048576 := by unfold Wd.t at hD; omega
    have HMS : Hid (∀ m ∈ D.mods, m.name.length ≤ 1048576) := fun m hm => by
      have h1 : m.t ≤ (D.mods.map Md.t).sum := mem_le_sum _ _ (List.mem_map.2 ⟨m, hm, rfl⟩)
      exact (Md.small (m := m) (by unfold mdsT at hmt; omega)).1
    have hml := (wok_good hg).2.2
    have hEl := edgesOf_len D hD
    have hEt := edgesOf_to D
    have HNM : Hid (Nmd W.heap.size W (.slice a2 D.mods.length k2) D.mods) := by
      obtain ⟨a, cap, hv, hcap, hmax, hc⟩ := hmods
      cases hv
      exact ⟨a2, k2, rfl, hcap, fun k hk => by obtain ⟨b, o, s, ha, hb, h0, _⟩ := hc k hk; exact ⟨b, o, ha, hb, h0⟩⟩
    obtain ⟨E, hE⟩ : ∃ E, E = edgesOf D := ⟨_, rfl⟩
    have HRES : Hid (shortOf D = (bestUp E D.mods.length D.mods.length).map (nameK D.mods)) := by unfold Hid shortOf; rw [← hE]
    rw [← hE] at hcall hEl hEt
    have HBU : Hid (∀ n, n ≤ D.mods.length → (∀ y ∈ bestUp E D.mods.length n, y < D.mods.length) ∧ (bestUp E D.mods.length n).length ≤ D.mods.length) := bestUp_lt hEt
    have HET : Hid (∀ e ∈ E, e.to < (D.mods.length : Int)) := hEt
    clear hWd hg hD hmods hmt hEt hE
    go_enter Tryz.func10, Tryz.ntmps10
    go_wp2_with fail
    rw [← HW.out]
    refine hcall.mono ?_
    rintro e w1 ⟨B, mb, g, r, m, f, ve, S, DM, hagg, rfl, hG, hsh, hpl, hB⟩
    obtain ⟨rfl, rfl, rfl⟩ : r = .slice a1 D.roots.length k1 ∧ m = .slice a2 D.mods.length k2 ∧ f = .slice a3 D.faults.length k3 := by simp at hagg; exact ⟨hagg.1.symm, hagg.2.1.symm, hagg.2.2.symm⟩
    have c5 : w1.cell? ⟨B, 5, none⟩ = some (.slice (some ⟨g, 0, none⟩) D.mods.length D.mods.length) := hG.cells.2.2.2.2.2.1
    have HG1 : Hid (Grb w1.heap.size B g w1 (.slice a1 D.roots.length k1) (.slice a2 D.mods.length k2) (.slice a3 D.faults.length k3) (.map (some mb)) ve S E D.mods.length) := hG.grb
    clear hG hagg hsh hpl hcall
    have hl1 : W.heap.size ≤ w1.heap.size := hB.size
    go_wp2
    go_loopw [4, 14] (fun vb i wr => ∃ n : Nat, n ≤ D.mods.length ∧ i = .int .i64 n ∧ wr.ownsRow w1.heap.size 3 1 vb (bestUp E D.mods.length n).length ((bestUp E D.mods.length n).map numV) ∧ Below w1.heap.size w1 wr) (fun _ i _ => D.mods.length - (intOf i).toNat)
    case atStart => exact ⟨0, Nat.zero_le _, rfl, World.ownsRow_nil _ _ _ _, Below.refl _ _⟩
    case round =>
      obtain ⟨n, hn, rfl, hb, hBr⟩ := hrel
      have hsz := hBr.size
      obtain ⟨hb_lt, hb_len⟩ := HBU.out n hn
      have hst := bestUp_succ E D.mods.length n
      obtain ⟨b, hbe⟩ : ∃ b, b = bestUp E D.mods.length n := ⟨_, rfl⟩
      rw [← hbe] at hb hb_lt hb_len hst
      have HBE : Hid (b = bestUp E D.mods.length n) := hbe
      have HST : Hid (bestUp E D.mods.length (n + 1) = bestStep E D.mods.length b n) := hst
      have HBL : Hid (∀ y ∈ b, y < D.mods.length) := hb_lt
      clear hbe hst hb_lt
      obtain ⟨ab, cb, rfl, hcb, hgb⟩ := row_form hb
      by_cases hlt : n < D.mods.length
      · have hcall := ringFrom_any (k := n) ((HG1.out.below hBr).mono hsz) HET.out hEl (by omega) hlt
        obtain ⟨r, hr⟩ : ∃ r, r = ringK E D.mods.length n := ⟨_, rfl⟩
        have HS2 : Hid (bestStep E D.mods.length b n = if 0 < r.length ∧ (b.length = 0 ∨ r.length < b.length) then r else b) := by unfold Hid bestStep; rw [hr]
        have hrl : r.length ≤ D.mods.length := by rw [hr]; exact (ringK_lt HET.out hlt).2
        rw [← hr] at hcall
        clear hr
        go_wp2_with fail
        refine hcall.mono ?_
        rintro e w2 ⟨vr, rfl, rr2, hb2⟩
        obtain ⟨ar, cr, rfl, hcr, _⟩ := row_form rr2
        have hB2 : Below w1.heap.size w1 w2 := hBr.trans (hb2.mono hsz)
        have rr2' := own_mono rr2 hsz
        have bb2 := own_below hb hb2 (Nat.le_refl _)
        have HRW : Hid (w2.ownsRow w1.heap.size 3 1 (.slice ar r.length cr) r.length (r.map numV) ∧ w2.ownsRow w1.heap.size 3 1 (.slice ab b.length cb) b.length (b.map numV)) := ⟨rr2', bb2⟩
        clear hcall rr2 hb hb2 rr2' bb2
        by_cases hr0 : 0 < r.length
        · have hr0' : (0 : Int) < (r.length : Int) := by omega
          by_cases hb0 : b.length = 0
          · have HF : Hid (bestUp E D.mods.length (n + 1) = r) := by unfold Hid; rw [HST.out, HS2.out, if_pos ⟨hr0, .inl hb0⟩]
            have hbi : ((b.length : Int) == 0) = true := beq_iff_eq.2 (by omega)
            clear HS2 HST
            go_wp2
            go_roundw
            case rel => exact ⟨n + 1, by omega, by go_num, by rw [HF.out]; exact HRW.out.1, hB2⟩
            case measure => simp [intOf]; omega
          · have hbi : ((b.length : Int) == 0) = false := beq_eq_false_iff_ne.2 (by omega)
            by_cases hlb : r.length < b.length
            · have HF : Hid (bestUp E D.mods.length (n + 1) = r) := by unfold Hid; rw [HST.out, HS2.out, if_pos ⟨hr0, .inr hlb⟩]
              have hli : (r.length : Int) < (b.length : Int) := by omega
              clear HS2 HST
              go_wp2
              go_roundw
              case rel => exact ⟨n + 1, by omega, by go_num, by rw [HF.out]; exact HRW.out.1, hB2⟩
              case measure => simp [intOf]; omega
            · have HF : Hid (bestUp E D.mods.length (n + 1) = b) := by unfold Hid; rw [HST.out, HS2.out, if_neg (by omega)]
              have hli : ¬ (r.length : Int) < (b.length : Int) := by omega
              have hld : decide ((r.length : Int) < (b.length : Int)) = false := by simpa using hli
              clear HS2 HST
              go_wp2
              go_roundw
              case rel => exact ⟨n + 1, by omega, by go_num, by rw [HF.out]; exact HRW.out.2, hB2⟩
              case measure => simp [intOf]; omega
        · have HF : Hid (bestUp E D.mods.length (n + 1) = b) := by unfold Hid; rw [HST.out, HS2.out, if_neg (by omega)]
          have hr1 : ¬ (0 : Int) < (r.length : Int) := by omega
          have hrd : decide ((0 : Int) < (r.length : Int)) = false := by simpa using hr1
          clear HS2 HST
          go_wp2
          go_roundw
          case rel => exact ⟨n + 1, by omega, by go_num, by rw [HF.out]; exact HRW.out.2, hB2⟩
          case measure => simp [intOf]; omega
      · have hnN : n = D.mods.length := by omega
        have HR2 : Hid (shortOf D = b.map (nameK D.mods)) := by unfold Hid; rw [HBE.out, hnN]; exact HRES.out
        have hBW : Below W.heap.size W wr := hB.trans (hBr.mono hl1)
        have hnm := gnames_any ((HG1.out.below hBr).mono hsz) (Nat.le_refl _) D.mods ((HNM.out.below hBW).mono hBW.size) HMS.out _ b (ntl_own hb (Nat.le_refl _)) HBL.out (by omega)
        clear hnN HBE HST hb
        go_wp2_with fail
        refine hnm.mono ?_
        rintro e w4 ⟨v4, rfl, h4, hb4⟩
        obtain ⟨a4, c4, rfl, _, _⟩ := row_form h4
        have HO4 : Hid (w4.ownsRow w.heap.size 9 1 (.slice a4 b.length c4) (shortOf D).length ((shortOf D).map strV)) := by
          unfold Hid
          rw [HR2.out, List.length_map, List.map_map]
          exact own_mono h4 (by have := hWB.size; omega)
        clear h4
        go_wp2
        go_ret
        exact ⟨_, rfl, HO4.out, hWB.trans ((hBW.trans (hb4.mono hBW.size)).mono hWB.size)⟩
  · have hcall := graphOf_bad _ D W hWd hD hg
    have hE : shortOf D = [] := by
      have h1 : edgesOf D = [] := by unfold edgesOf; rw [if_neg hg]
      unfold shortOf; rw [h1, bestUp_no]; rfl
    rw [hE]
    clear hWd hg hE
    go_enter Tryz.func10, Tryz.ntmps10
    go_wp2_with fail
    rw [← HW.out]
    refine hcall.mono ?_
    rintro e w1 ⟨B, rfl, hWl, hG, hB⟩
    have c5 : w1.cell? ⟨B, 5, none⟩ = some (.slice none 0 0) := by unfold GBad at hG; simp [World.cell?, hG]
    clear hG
    go_wp2
    go_loopw [4, 14] (fun vb i wr => vb = .slice none 0 0 ∧ i = .int .i64 0 ∧ wr = w1) (fun _ _ _ => 0)
    case atStart => exact ⟨rfl, rfl, rfl⟩
    case round =>
      obtain ⟨rfl, rfl, rfl⟩ := hrel
      go_wp2_with fail
      refine (gnames_nil _ _).mono ?_
      rintro e w4 ⟨rfl, rfl⟩
      go_wp2
      go_ret
      exact ⟨_, rfl, World.ownsRow_nil _ _ _ _, hWB.trans (hB.mono hWB.size)⟩
end Go.Proofs.YtimgafblpmjajaaGreat
namespace Go.Proofs.YtimgafblpmjajaaGreat
open Go.RowKit Go.Maps

set_option maxHeartbeats 2000000 in
set_option maxRecDepth 100000 in
theorem edges_ok : EdgesOk := by
  intro v D w h hD
  obtain ⟨a1, a2, a3, k1, k2, k3, rfl⟩ := h.agg'
  obtain ⟨W, hW⟩ : ∃ W, W = w.alloc (.cells #[.slice a1 D.roots.length k1, .slice a2 D.mods.length k2, .slice a3 D.faults.length k3] 27) := ⟨_, rfl⟩
  have hWB : Below w.heap.size w W := by rw [hW]; exact (Below.refl _ _).alloc (Nat.le_refl _) _
  have hWd := h.below hWB (Nat.le_refl _)
  have HW : Hid (W = w.alloc (.cells #[.slice a1 D.roots.length k1, .slice a2 D.mods.length k2, .slice a3 D.faults.length k3] 27)) := hW
  clear hW h
  by_cases hg : (wok D).1 = 0
  · have hcall := graphOf_good _ D W hWd hD hg
    clear hWd hg
    go_enter Tryz.func5, Tryz.ntmps5
    go_wp2_with fail
    rw [← HW.out]
    refine hcall.mono ?_
    rintro e w1 ⟨B, mb, g, r, m, f, ve, S, DM, _, rfl, hG, _, _, hB⟩
    have c4 : w1.cell? ⟨B, 4, none⟩ = some ve := hG.cells.2.2.2.2.1
    obtain ⟨av, cv, rfl, _, _⟩ := row_form hG.edg
    have HE : Hid (w1.ownsRow w.heap.size 33 3 (.slice av (edgesOf D).length cv) (edgesOf D).length ((edgesOf D).flatMap egR)) := own_mono hG.edg hWB.size
    clear hG hcall
    go_wp2
    go_ret
    exact ⟨_, rfl, HE.out, hWB.trans (hB.mono hWB.size)⟩
  · have hcall := graphOf_bad _ D W hWd hD hg
    have hE : edgesOf D = [] := by unfold edgesOf; rw [if_neg hg]
    rw [hE]
    clear hWd hg hE
    go_enter Tryz.func5, Tryz.ntmps5
    go_wp2_with fail
    rw [← HW.out]
    refine hcall.mono ?_
    rintro e w1 ⟨B, rfl, _, hG, hB⟩
    have c4 : w1.cell? ⟨B, 4, none⟩ = some (.slice none 0 0) := by unfold GBad at hG; simp [World.cell?, hG]
    clear hG hcall
    go_wp2
    go_ret
    exact ⟨_, rfl, World.ownsRow_nil _ _ _ _, hWB.trans (hB.mono hWB.size)⟩
end Go.Proofs.YtimgafblpmjajaaGreat
namespace Go.Proofs.YtimgafblpmjajaaGreat
open Go.RowKit

set_option maxHeartbeats 2000000 in
set_option maxRecDepth 100000 in
theorem wTexts_same (va vb : Value) (L : List (List UInt8)) (w : World) (h1 : Strs w va L) (h2 : Strs w vb L) (hL : L.length ≤ 1048576) :
    Calls Tryz.prog 8 #[va, vb] w fun e w' => e = .returned (.bool true) ∧ Below w.heap.size w w' := by
  obtain ⟨a, ca, rfl, hca, hma, hc1⟩ := h1
  obtain ⟨b, cb, rfl, hcb, hmb, hc2⟩ := h2
  have H1 : Hid (∀ k, (hk : k < L.length) → ∃ g o, a = some ⟨g, o, none⟩ ∧ g < w.heap.size ∧ w.cell? ⟨g, o + k, none⟩ = some (strV L[k])) := hc1
  have H2 : Hid (∀ k, (hk : k < L.length) → ∃ g o, b = some ⟨g, o, none⟩ ∧ g < w.heap.size ∧ w.cell? ⟨g, o + k, none⟩ = some (strV L[k])) := hc2
  clear hc1 hc2 hma hmb
  go_enter Tryz.func8, Tryz.ntmps8
  go_wp2
  go_loopw [13] (fun i wr => ∃ n : Nat, n ≤ L.length ∧ i = .int .i64 n ∧ Below w.heap.size w wr) (fun i _ => L.length - (intOf i).toNat)
  case atStart => exact ⟨0, Nat.zero_le _, rfl, Below.refl _ _⟩
  case round =>
    obtain ⟨n, hn, rfl, hB⟩ := hrel
    by_cases hlt : n < L.length
    · obtain ⟨g1, o1, rfl, hg1, c1⟩ := H1.out n hlt
      obtain ⟨g2, o2, rfl, hg2, c2⟩ := H2.out n hlt
      obtain ⟨q, hq⟩ : ∃ q, strV L[n] = .string q := ⟨_, rfl⟩
      rw [hq] at c1 c2
      have d1 := below_cell0 hB hg1 c1
      have d2 := below_cell0 hB hg2 c2
      clear hq c1 c2
      go_wp2
      go_region
      go_wp2
      go_roundw
      case rel => exact ⟨n + 1, by omega, by go_num, hB.drew⟩
      case measure => simp [intOf]; omega
    · go_wp2
      go_ret
      exact ⟨rfl, hB⟩
end Go.Proofs.YtimgafblpmjajaaGreat
namespace Go.Proofs.YtimgafblpmjajaaGreat

open Go.RowKit

/-- An edge from a to b. -/
def Stp (E : List Eg) (a b : Nat) : Prop := ∃ e ∈ E, e.src = (a : Int) ∧ e.to = (b : Int)
/-- What can be reached from a. -/
def Rch (E : List Eg) (a b : Nat) : Prop := ∀ P : Nat → Prop, P a → (∀ x y, P x → Stp E x y → P y) → P b
theorem Rch.refl {E : List Eg} (a : Nat) : Rch E a a := fun _ h _ => h
theorem Rch.step {E : List Eg} {a b c : Nat} (h : Rch E a b) (hs : Stp E b c) : Rch E a c := fun P h0 h1 => h1 _ _ (h P h0 h1) hs
/-- There is no way back. -/
def Acyc (E : List Eg) : Prop := ∀ a b, Rch E a b → ¬ Stp E b a
/-- Each stands behind all that it leads to. -/
def Topo (E : List Eg) (L : List Nat) : Prop := ∀ A x B, L = A ++ x :: B → ∀ y, Stp E x y → y ∈ A
theorem Topo.snoc {E : List Eg} {L : List Nat} (h : Topo E L) {k : Nat} (hk : ∀ y, Stp E k y → y ∈ L) : Topo E (L ++ [k]) := by
  intro A x B hL y hy
  rcases List.eq_nil_or_concat B with rfl | ⟨B', b, rfl⟩
  · have := List.append_inj' hL (by simp)
    obtain ⟨rfl, h2⟩ := this
    simp at h2; subst h2
    exact hk y hy
  · have hL' : L ++ [k] = (A ++ x :: B') ++ [b] := by rw [hL]; simp
    have := List.append_inj' hL' (by simp)
    exact h A x B' this.1 y hy
structure DI (E : List Eg) (N : Nat) (G : Nat → Prop) (s : List Bool × List Nat) : Prop where
  len : s.1.length = N
  met : ∀ x ∈ s.2, s.1[x]? = some true
  all : ∀ x : Nat, s.1[x]? = some true → x ∈ s.2 ∨ G x
  topo : Topo E s.2
  nodup : s.2.Nodup
/-- What a visit leaves. -/
structure DP (E : List Eg) (N : Nat) (G : Nat → Prop) (s s' : List Bool × List Nat) : Prop where
  di : DI E N G s'
  ext : ∃ T, s'.2 = s.2 ++ T ∧ ∀ x ∈ T, s.1[x]? = some false
  mono : ∀ x : Nat, s.1[x]? = some true → s'.1[x]? = some true
  less : unmet s'.1 ≤ unmet s.1
theorem DP.rfl' {E : List Eg} {N : Nat} {G : Nat → Prop} {s : List Bool × List Nat} (h : DI E N G s) : DP E N G s s := ⟨h, ⟨[], by simp, by simp⟩, fun _ h => h, Nat.le_refl _⟩
theorem DP.trans {E : List Eg} {N : Nat} {G : Nat → Prop} {s s' s'' : List Bool × List Nat} (h : DI E N G s) (h1 : DP E N G s s') (h2 : DP E N G s' s'') : DP E N G s s'' := by
  obtain ⟨T, hT, hf⟩ := h1.ext
  obtain ⟨T', hT', hf'⟩ := h2.ext
  refine ⟨h2.di, ⟨T ++ T', by rw [hT', hT, List.append_assoc], fun x hx => ?_⟩, fun x hx => h2.mono x (h1.mono x hx), Nat.le_trans h2.less h1.less⟩
  rcases List.mem_append.1 hx with hx | hx
  · exact hf x hx
  · have := hf' x hx
    rcases hc : s.1[x]? with _ | b
    · have hl : x < s'.1.length := by
        rcases Nat.lt_or_ge x s'.1.length with hl | hl
        · exact hl
        · rw [List.getElem?_eq_none hl] at this; cases this
      rw [h1.di.len, ← h.len] at hl
      rw [List.getElem?_eq_getElem hl] at hc; cases hc
    · cases b with
      | false => rfl
      | true => rw [h1.mono x hc] at this; cases this
theorem fold_dp {E : List Eg} {N f k : Nat} {G : Nat → Prop} (hE : ∀ e ∈ E, e.to < (N : Int)) (hA : Acyc E) (hG : ∀ g, G g → Rch E g k)
    (ih : ∀ k s (G : Nat → Prop), k < N → (∀ g, G g → Rch E g k) → DI E N G s → unmet s.1 < f → DP E N G s (vis E f k s) ∧ (vis E f k s).1[k]? = some true) :
    ∀ (L : List Eg), (∀ e ∈ L, e ∈ E) → ∀ s, DI E N G s → unmet s.1 < f → DP E N G s (L.foldl (visStep E f k) s) ∧ ∀ e ∈ L, e.src = (k : Int) → 0 ≤ e.to → e.to.toNat ∈ (L.foldl (visStep E f k) s).2
  | [], _, s, h, _ => ⟨DP.rfl' h, fun e he => by simp at he⟩
  | e :: r, hL, s, h, hu => by
    rw [List.foldl_cons]
    have heE := hL e (by simp)
    have hs : DP E N G s (visStep E f k s e) ∧ (e.src = (k : Int) → 0 ≤ e.to → e.to.toNat ∈ (visStep E f k s e).2) := by
      unfold visStep
      split
      · rename_i hc
        have hto := hE e heE
        have hst : Stp E k e.to.toNat := ⟨e, heE, hc.1, by omega⟩
        obtain ⟨h1, h2⟩ := ih e.to.toNat s G (by omega) (fun g hg => (hG g hg).step hst) h hu
        refine ⟨h1, fun _ _ => ?_⟩
        rcases h1.di.all _ h2 with h3 | h3
        · exact h3
        · exact absurd hst (hA _ _ (hG _ h3))
      · rename_i hc
        exact ⟨DP.rfl' h, fun h1 h2 => absurd ⟨h1, h2⟩ hc⟩
    obtain ⟨i1, i2⟩ := fold_dp (G := G) hE hA hG ih r (fun x hx => hL x (by simp [hx])) _ hs.1.di (Nat.lt_of_le_of_lt hs.1.less hu)
    refine ⟨DP.trans h hs.1 i1, fun x hx h1 h2 => ?_⟩
    rcases List.mem_cons.1 hx with rfl | hx
    · obtain ⟨T, hT, _⟩ := i1.ext
      rw [hT]; exact List.mem_append_left _ (hs.2 h1 h2)
    · exact i2 x hx h1 h2
theorem vis_dp {E : List Eg} {N : Nat} (hE : ∀ e ∈ E, e.to < (N : Int)) (hA : Acyc E) : ∀ (f k : Nat) (s : List Bool × List Nat) (G : Nat → Prop), k < N → (∀ g, G g → Rch E g k) → DI E N G s → unmet s.1 < f → DP E N G s (vis E f k s) ∧ (vis E f k s).1[k]? = some true
  | 0, _, _, _, _, _, _, hu => absurd hu (by omega)
  | f + 1, k, s, G, hk, hG, h, hu => by
    have hkl : k < s.1.length := by rw [h.len]; exact hk
    by_cases hm : s.1[k]? = some false
    · have hu1 := unmet_set s.1 k hm
      have hks : k ∉ s.2 := fun hc => by have := h.met k hc; rw [hm] at this; cases this
      have h0 : DI E N (fun x => G x ∨ x = k) (s.1.set k true, s.2) := by
        refine ⟨by simp [h.len], fun x hx => ?_, fun x hx => ?_, h.topo, h.nodup⟩
        · have hne : k ≠ x := fun e => hks (e ▸ hx)
          simp only []; rw [List.getElem?_set_ne hne]; exact h.met x hx
        · by_cases hxk : k = x
          · exact .inr (.inr hxk.symm)
          · simp only [] at hx; rw [List.getElem?_set_ne hxk] at hx
            rcases h.all x hx with h1 | h1
            · exact .inl h1
            · exact .inr (.inl h1)
      obtain ⟨h1, h2⟩ := fold_dp (k := k) (G := fun x => G x ∨ x = k) hE hA (fun g hg => by
        rcases hg with hg | rfl
        · exact hG g hg
        · exact .refl _) (fun k s G hk hG hs hu => vis_dp hE hA f k s G hk hG hs hu) E (fun _ h => h) _ h0 (by simp only []; omega)
      rw [vis_eq E f k s hm]
      obtain ⟨F, hF⟩ : ∃ F, F = E.foldl (visStep E f k) (s.1.set k true, s.2) := ⟨_, rfl⟩
      rw [← hF] at h1 h2 ⊢
      obtain ⟨T, hT, hTf⟩ := h1.ext
      have hkT : k ∉ T := fun hc => by
        have := hTf k hc
        simp only [] at this
        rw [List.getElem?_set_self hkl] at this; cases this
      have hkF : k ∉ F.2 := by
        rw [hT]; intro hc
        rcases List.mem_append.1 hc with hc | hc
        · exact hks hc
        · exact hkT hc
      have hkm : F.1[k]? = some true := h1.mono k (by simp only []; rw [List.getElem?_set_self hkl])
      refine ⟨⟨⟨h1.di.len, fun x hx => ?_, fun x hx => ?_, ?_, ?_⟩, ⟨T ++ [k], by simp [hT], fun x hx => ?_⟩, fun x hx => ?_, ?_⟩, hkm⟩
      · simp only [List.mem_append, List.mem_singleton] at hx
        rcases hx with hx | rfl
        · exact h1.di.met x hx
        · exact hkm
      · rcases h1.di.all x hx with h3 | h3 | h3
        · exact .inl (List.mem_append_left _ h3)
        · exact .inr h3
        · exact .inl (by simp [h3])
      · refine h1.di.topo.snoc (fun y hy => ?_)
        obtain ⟨e, he, e1, e2⟩ := hy
        have := h2 e he e1 (by omega)
        rw [e2] at this; simpa using this
      · simp only []
        rw [List.nodup_append]
        exact ⟨h1.di.nodup, by simp, fun a ha b hb => by simp at hb; subst hb; exact fun e => hkF (e ▸ ha)⟩
      · rcases List.mem_append.1 hx with hx | hx
        · have hne : k ≠ x := fun e => hkT (e ▸ hx)
          have := hTf x hx
          simp only [] at this
          rw [List.getElem?_set_ne hne] at this; exact this
        · simp at hx; subst hx; exact hm
      · by_cases hxk : k = x
        · subst hxk; exact hkm
        · exact h1.mono x (by simp only []; rw [List.getElem?_set_ne hxk]; exact hx)
      · have := h1.less; simp only [] at this ⊢; omega
    · rw [vis_met E _ k s hm]
      refine ⟨DP.rfl' h, ?_⟩
      rw [List.getElem?_eq_getElem hkl] at hm ⊢
      cases hb : s.1[k] with
      | true => rfl
      | false => exact absurd (by rw [hb]) hm
theorem vis_topo {E : List Eg} {N k : Nat} (hE : ∀ e ∈ E, e.to < (N : Int)) (hA : Acyc E) (hk : k < N) : Topo E (vis E (N + 1) k (List.replicate N false, [])).2 ∧ (vis E (N + 1) k (List.replicate N false, [])).2.Nodup := by
  have h0 : DI E N (fun _ => False) (List.replicate N false, []) := by
    refine ⟨by simp, by simp, fun x hx => ?_, fun A x B h => by simp at h, by simp⟩
    simp only [List.getElem?_replicate] at hx
    split at hx <;> simp at hx
  obtain ⟨h1, _⟩ := vis_dp hE hA (N + 1) k _ _ hk (fun g hg => hg.elim) h0 (by simp [unmet_rep])
  exact ⟨h1.di.topo, h1.di.nodup⟩

/-- Whoever has a 'from' stands in the line. -/
def RJ (N : Nat) (s : List Int × List Nat) : Prop := s.1.length = N ∧ ∀ y, y < N → ¬ ((s.1[y]?).getD 0 < 0) → y ∈ s.2
theorem rin_cl {N k x : Nat} : ∀ (L : List Eg) (s : List Int × List Nat), (∀ e ∈ L, e.to < (N : Int)) → RJ N s → (rin k x L s).1 = false →
    RJ N (rin k x L s).2 ∧ (∃ T, (rin k x L s).2.2 = s.2 ++ T) ∧ ∀ e ∈ L, e.src = (x : Int) → 0 ≤ e.to → e.to ≠ (k : Int) ∧ e.to.toNat ∈ (rin k x L s).2.2
  | [], s, _, h, _ => ⟨h, ⟨[], by simp [rin]⟩, fun e he => by simp at he⟩
  | e :: r, s, hL, h, hf => by
    have hr : ∀ e ∈ r, e.to < (N : Int) := fun y hy => hL y (by simp [hy])
    have he := hL e (by simp)
    rw [rin] at hf ⊢
    by_cases hc : e.src = (x : Int) ∧ 0 ≤ e.to
    · rw [if_pos hc] at hf ⊢
      by_cases hk : e.to = (k : Int)
      · rw [if_pos hk] at hf; simp at hf
      · rw [if_neg hk] at hf ⊢
        by_cases hneg : (s.1[e.to.toNat]?).getD 0 < 0
        · rw [if_pos hneg] at hf ⊢
          have hJ : RJ N (s.1.set e.to.toNat (x : Int), s.2 ++ [e.to.toNat]) := by
            refine ⟨by simp [h.1], fun y hy hn => ?_⟩
            by_cases hy' : e.to.toNat = y
            · simp [hy']
            · simp only [] at hn; rw [List.getElem?_set_ne hy'] at hn
              exact List.mem_append_left _ (h.2 y hy hn)
          obtain ⟨i1, ⟨T, i2⟩, i3⟩ := rin_cl r _ hr hJ hf
          refine ⟨i1, ⟨e.to.toNat :: T, by rw [i2]; simp⟩, fun y hy h1 h2 => ?_⟩
          rcases List.mem_cons.1 hy with rfl | hy
          · exact ⟨hk, by rw [i2]; simp⟩
          · exact i3 y hy h1 h2
        · rw [if_neg hneg] at hf ⊢
          obtain ⟨i1, ⟨T, i2⟩, i3⟩ := rin_cl r s hr h hf
          refine ⟨i1, ⟨T, i2⟩, fun y hy h1 h2 => ?_⟩
          rcases List.mem_cons.1 hy with rfl | hy
          · exact ⟨hk, by rw [i2]; exact List.mem_append_left _ (h.2 _ (by omega) hneg)⟩
          · exact i3 y hy h1 h2
    · rw [if_neg hc] at hf ⊢
      obtain ⟨i1, ⟨T, i2⟩, i3⟩ := rin_cl r s hr h hf
      refine ⟨i1, ⟨T, i2⟩, fun y hy h1 h2 => ?_⟩
      rcases List.mem_cons.1 hy with rfl | hy
      · exact absurd ⟨h1, h2⟩ hc
      · exact i3 y hy h1 h2
/-- The search that finds no way back leaves a line that is closed. -/
theorem rout_cl {E : List Eg} {N k : Nat} (hE : ∀ e ∈ E, e.to < (N : Int)) : ∀ (f i : Nat) (s : List Int × List Nat), RI N k s → RJ N s → N < i + f →
    (∀ j x, j < i → s.2[j]? = some x → ∀ y, Stp E x y → y ≠ k ∧ y ∈ s.2) → rout E k f i s = none →
    ∃ C : List Nat, k ∈ C ∧ ∀ x ∈ C, ∀ y, Stp E x y → y ≠ k ∧ y ∈ C
  | 0, i, s, hI, hJ, hf, hp, _ => by
    refine ⟨s.2, List.mem_of_getElem? hI.head, fun x hx y hy => ?_⟩
    obtain ⟨j, hj, rfl⟩ := List.mem_iff_getElem.1 hx
    have := hI.room
    exact hp j _ (by omega) (List.getElem?_eq_getElem hj) y hy
  | f + 1, i, s, hI, hJ, hf, hp, h => by
    rw [rout] at h
    cases hx : s.2[i]? with
    | none =>
      refine ⟨s.2, List.mem_of_getElem? hI.head, fun x hx' y hy => ?_⟩
      obtain ⟨j, hj, rfl⟩ := List.mem_iff_getElem.1 hx'
      have : s.2.length ≤ i := List.getElem?_eq_none_iff.1 hx
      exact hp j _ (by omega) (List.getElem?_eq_getElem hj) y hy
    | some x =>
      rw [hx] at h
      simp only [] at h
      by_cases hr : (rin k x E s).1 = true
      · rw [if_pos hr] at h; cases h
      · rw [if_neg hr] at h
        have hr' : (rin k x E s).1 = false := by simpa using hr
        obtain ⟨h1, _⟩ := rin_inv (k := k) E s hE hI hx
        obtain ⟨j1, ⟨T, j2⟩, j3⟩ := rin_cl (k := k) (x := x) E s hE hJ hr'
        refine rout_cl hE f (i + 1) _ h1 j1 (by omega) (fun j z hj hz y hy => ?_) h
        have hil : i < s.2.length := by
          rcases Nat.lt_or_ge i s.2.length with hi | hi
          · exact hi
          · rw [List.getElem?_eq_none hi] at hx; cases hx
        rw [j2, List.getElem?_append_left (by omega)] at hz
        by_cases hji : j = i
        · subst hji
          rw [hx] at hz; cases hz
          obtain ⟨e, he, e1, e2⟩ := hy
          obtain ⟨k1, k2⟩ := j3 e he e1 (by omega)
          exact ⟨fun e => k1 (by rw [e2, e]), by rw [e2] at k2; simpa using k2⟩
        · obtain ⟨k1, k2⟩ := hp j z (by omega) hz y hy
          exact ⟨k1, by rw [j2]; exact List.mem_append_left _ k2⟩
theorem ringK_nil {E : List Eg} {N k : Nat} (hE : ∀ e ∈ E, e.to < (N : Int)) (hk : k < N) (h : ringK E N k = []) : ∀ b, Rch E k b → ¬ Stp E b k := by
  have hn : rout E k (N + 1) 0 (List.replicate N (-1), [k]) = none := by
    unfold ringK at h
    cases hr : rout E k (N + 1) 0 (List.replicate N (-1), [k]) with
    | none => rfl
    | some r => rw [hr] at h; simp [ringOut] at h
  obtain ⟨C, h1, h2⟩ := rout_cl hE (N + 1) 0 _ (RI.start N k hk) ⟨by simp, fun y hy hn => absurd (by simp [hy]) hn⟩ (by omega) (fun j x hj => absurd hj (by omega)) hn
  have hC : ∀ b, Rch E k b → b ∈ C := by
    intro b hb
    exact hb (fun x => x ∈ C) h1 (fun x y hx hs => (h2 x hx y hs).2)
  exact fun b hb hs => (h2 b (hC b hb) k hs).1 rfl
theorem bestUp_nil {E : List Eg} {N : Nat} : ∀ n, bestUp E N n = [] → ∀ k, k < n → ringK E N k = []
  | 0, _, k, hk => absurd hk (by omega)
  | n + 1, h, k, hk => by
    rw [bestUp_succ] at h
    unfold bestStep at h
    split at h
    · rename_i hc
      rw [h] at hc; simp at hc
    · rename_i hc
      rw [h] at hc
      by_cases hkn : k = n
      · subst hkn
        by_cases h0 : 0 < (ringK E N k).length
        · exact absurd ⟨h0, .inl rfl⟩ hc
        · exact List.length_eq_zero_iff.1 (by omega)
      · exact bestUp_nil n h k (by omega)
theorem acyc_of {E : List Eg} {N : Nat} (hE : ∀ e ∈ E, e.to < (N : Int)) (h : bestUp E N N = []) : Acyc E := by
  intro a b hr hs
  have ha : a < N := by
    obtain ⟨e, he, _, e2⟩ := hs
    have := hE e he; omega
  exact ringK_nil hE ha (bestUp_nil N h a ha) b hr hs
/-- Without rings each module stands behind what it leads to. -/
theorem order_topo (D : Wd) (n : List UInt8) (h : shortOf D = []) : Topo (edgesOf D) (orderK D n) ∧ (orderK D n).Nodup := by
  have hb : bestUp (edgesOf D) D.mods.length D.mods.length = [] := by
    unfold shortOf at h; simpa using h
  have hA := acyc_of (edgesOf_to D) hb
  unfold orderK
  split
  · split
    · have hlt : toOf D nmain n < (D.mods.length : Int) := thereT_lt D _
      exact vis_topo (edgesOf_to D) hA (by omega)
    · exact ⟨fun A x B h => by simp at h, by simp⟩
  · exact ⟨fun A x B h => by simp at h, by simp⟩
end Go.Proofs.YtimgafblpmjajaaGreat
namespace Go.Proofs.YtimgafblpmjajaaGreat

open Go.RowKit

theorem firstN_all {p : Nat → Bool} : ∀ {f i : Nat}, firstN p f i = i + f → ∀ j, i ≤ j → j < i + f → p j = false
  | 0, i, _, j, h1, h2 => absurd h2 (by omega)
  | f + 1, i, h, j, h1, h2 => by
    rw [firstN] at h
    split at h
    · omega
    · rename_i hp
      by_cases hj : j = i
      · subst hj; simpa using hp
      · exact firstN_all (f := f) (i := i + 1) (by omega) j (by omega) (by omega)
theorem firstN_le' (p : Nat → Bool) : ∀ (f i : Nat), firstN p f i ≤ i + f
  | 0, i => Nat.le_refl _
  | f + 1, i => by
    rw [firstN]
    split
    · omega
    · have := firstN_le' p f (i + 1); omega
/-- In a good world two modules have two names. -/
theorem names_inj {D : Wd} (h : (wok D).1 = 0) {i j : Nat} (hi : i < D.mods.length) (hj : j < D.mods.length) (he : D.mods[i].name = D.mods[j].name) : i = j := by
  have h4 : firstN (badMd D.mods) D.mods.length 0 = D.mods.length := by
    unfold wok at h
    split at h
    · simp at h
    split at h
    · simp at h
    split at h
    · simp at h
    split at h
    · simp at h
    · have := firstN_le' (badMd D.mods) D.mods.length 0; omega
  have hb := fun k (hk : k < D.mods.length) => firstN_all (p := badMd D.mods) (f := D.mods.length) (i := 0) (by omega) k (by omega) (by omega)
  have key : ∀ {a b : Nat} (ha : a < D.mods.length) (hb' : b < D.mods.length), a < b → D.mods[a].name ≠ D.mods[b].name := by
    intro a b ha hb' hab hc
    have := hb b hb'
    rw [badMd_at hb'] at this
    simp only [Bool.or_eq_false_iff] at this
    have h2 := List.any_eq_false.1 this.2 D.mods[a] (by
      rw [List.mem_take_iff_getElem]
      exact ⟨a, by omega, rfl⟩)
    simp [hc] at h2
  rcases Nat.lt_trichotomy i j with h1 | h1 | h1
  · exact absurd he (key hi hj h1)
  · exact h1
  · exact absurd he.symm (key hj hi h1)
theorem lineE_src (D : Wd) (i : Nat) (nm : List UInt8) : ∀ (L : List Ln) (k : Nat), ∀ e ∈ lineE D i nm k L, e.src = (i : Int)
  | [], _, e, h => by simp [lineE] at h
  | x :: r, k, e, h => by
    rw [lineE] at h
    rcases List.mem_append.1 h with h | h
    · split at h
      · simp at h; subst h; rfl
      · simp at h
    · exact lineE_src D i nm r (k + 1) e h
theorem modE_src (D : Wd) : ∀ (M : List Md) (i : Nat), ∀ e ∈ modE D i M, ∃ k : Nat, e.src = (k : Int) ∧ k < i + M.length
  | [], _, e, h => by simp [modE] at h
  | x :: r, i, e, h => by
    rw [modE] at h
    rcases List.mem_append.1 h with h | h
    · exact ⟨i, lineE_src D i _ _ _ e h, by simp⟩
    · obtain ⟨k, h1, h2⟩ := modE_src D r (i + 1) e h
      exact ⟨k, h1, by simp; omega⟩
theorem edgesOf_src (D : Wd) : ∀ e ∈ edgesOf D, ∃ k : Nat, e.src = (k : Int) ∧ k < D.mods.length := by
  unfold edgesOf
  split
  · intro e h
    obtain ⟨k, h1, h2⟩ := modE_src D D.mods 0 e h
    exact ⟨k, h1, by omega⟩
  · intro e h; simp at h
theorem edgesOf_good {D : Wd} {e : Eg} (h : e ∈ edgesOf D) : (wok D).1 = 0 := by
  unfold edgesOf at h
  split at h
  · assumption
  · simp at h
theorem orderK_lt (D : Wd) (n : List UInt8) : ∀ k ∈ orderK D n, k < D.mods.length := by
  unfold orderK
  split
  · split
    · have hlt : toOf D nmain n < (D.mods.length : Int) := thereT_lt D _
      exact (vis_inv (edgesOf_to D) _ _ _ 0 (by omega) (vinv_start _)).1.2.2
    · simp
  · simp
/-- The place of the last that is x, as a loop comes by it. -/
def lastI (x : List UInt8) : Nat → List (List UInt8) → Int → Int
  | _, [], a => a
  | i, s :: r, a => lastI x (i + 1) r (if s = x then (i : Int) else a)
theorem lastI_spec (x : List UInt8) : ∀ (L : List (List UInt8)) (i : Nat) (a : Int), (lastI x i L a = a ∧ x ∉ L) ∨ ∃ j : Nat, lastI x i L a = ((i + j : Nat) : Int) ∧ L[j]? = some x
  | [], i, a => .inl ⟨rfl, by simp⟩
  | s :: r, i, a => by
    rw [lastI]
    rcases lastI_spec x r (i + 1) (if s = x then (i : Int) else a) with ⟨h1, h2⟩ | ⟨j, h1, h2⟩
    · by_cases hs : s = x
      · refine .inr ⟨0, ?_, by simp [hs]⟩
        rw [h1, if_pos hs]; rfl
      · refine .inl ⟨by rw [h1, if_neg hs], ?_⟩
        intro hc
        rcases List.mem_cons.1 hc with h | h
        · exact hs h.symm
        · exact h2 h
    · exact .inr ⟨j + 1, by rw [h1]; congr 1; omega, by simpa using h2⟩
theorem lastI_drop (x : List UInt8) (L : List (List UInt8)) (i : Nat) (a : Int) (h : i < L.length) : lastI x i (L.drop i) a = lastI x (i + 1) (L.drop (i + 1)) (if L[i] = x then (i : Int) else a) := by
  rw [List.drop_eq_getElem_cons h, lastI]
theorem lastI_end (x : List UInt8) (L : List (List UInt8)) (i : Nat) (a : Int) (h : L.length ≤ i) : lastI x i (L.drop i) a = a := by
  rw [List.drop_eq_nil_of_le h, lastI]
theorem nameK_at {M : List Md} {k : Nat} (h : k < M.length) : nameK M k = M[k].name := by unfold nameK; rw [List.getElem?_eq_getElem h]; rfl
/-- The last loop of FnOrder says yes. -/
theorem order_pair (D : Wd) (n : List UInt8) (h : shortOf D = []) (e : Eg) (he : e ∈ edgesOf D) (h0 : 0 ≤ e.to) :
    ¬ (0 ≤ lastI (nameK D.mods e.src.toNat) 0 (orderOf D n) (-1) ∧ (lastI (nameK D.mods e.to.toNat) 0 (orderOf D n) (-1) < 0 ∨ lastI (nameK D.mods e.src.toNat) 0 (orderOf D n) (-1) < lastI (nameK D.mods e.to.toNat) 0 (orderOf D n) (-1))) := by
  obtain ⟨ht, hnd⟩ := order_topo D n h
  obtain ⟨k, hk, hkl⟩ := edgesOf_src D e he
  have htl := edgesOf_to D e he
  have hg := edgesOf_good he
  have hlt := orderK_lt D n
  have inj : ∀ {i j : Nat}, i < D.mods.length → j < D.mods.length → nameK D.mods i = nameK D.mods j → i = j := fun hi hj hn => names_inj hg hi hj (by rw [nameK_at hi, nameK_at hj] at hn; exact hn)
  have hst : Stp (edgesOf D) k e.to.toNat := ⟨e, he, hk, by omega⟩
  rw [hk, Int.toNat_natCast]
  have find : ∀ {x j : Nat}, x < D.mods.length → (orderOf D n)[j]? = some (nameK D.mods x) → (orderK D n)[j]? = some x := by
    intro x j hx hj
    unfold orderOf at hj
    rw [List.getElem?_map] at hj
    cases hq : (orderK D n)[j]? with
    | none => rw [hq] at hj; cases hj
    | some y =>
      rw [hq] at hj
      have : y = x := inj (hlt y (List.mem_of_getElem? hq)) hx (by simpa using hj)
      rw [this]
  rcases lastI_spec (nameK D.mods k) (orderOf D n) 0 (-1) with ⟨h1, _⟩ | ⟨a, h1, h2⟩
  · rw [h1]; rintro ⟨hc, _⟩; omega
  · have ha := find hkl h2
    have hal : a < (orderK D n).length := by
      rcases Nat.lt_or_ge a (orderK D n).length with hi | hi
      · exact hi
      · rw [List.getElem?_eq_none hi] at ha; cases ha
    have hae : (orderK D n)[a] = k := by rw [List.getElem?_eq_getElem hal] at ha; simpa using ha
    have hsp : orderK D n = (orderK D n).take a ++ k :: (orderK D n).drop (a + 1) := by
      rw [← hae, ← List.drop_eq_getElem_cons hal, List.take_append_drop]
    have hm := ht _ _ _ hsp _ hst
    obtain ⟨b', hb', hbe⟩ := List.mem_take_iff_getElem.1 hm
    have hb'l : b' < (orderK D n).length := by omega
    rw [h1]
    rcases lastI_spec (nameK D.mods e.to.toNat) (orderOf D n) 0 (-1) with ⟨_, h3⟩ | ⟨b, h3, h4⟩
    · refine absurd ?_ h3
      unfold orderOf
      exact List.mem_map.2 ⟨_, List.mem_of_mem_take hm, rfl⟩
    · have hb := find (by omega) h4
      have hbl : b < (orderK D n).length := by
        rcases Nat.lt_or_ge b (orderK D n).length with hi | hi
        · exact hi
        · rw [List.getElem?_eq_none hi] at hb; cases hb
      have hbe2 : (orderK D n)[b] = e.to.toNat := by rw [List.getElem?_eq_getElem hbl] at hb; simpa using hb
      have : b = b' := by
        have hp := List.pairwise_iff_getElem.1 hnd
        rcases Nat.lt_trichotomy b b' with hq | hq | hq
        · exact absurd (hbe2.trans hbe.symm) (hp b b' hbl hb'l hq)
        · exact hq
        · exact absurd (hbe.trans hbe2.symm) (hp b' b hb'l hbl hq)
      rw [h3]
      rintro ⟨_, hc⟩
      omega
end Go.Proofs.YtimgafblpmjajaaGreat
namespace Go.Proofs.YtimgafblpmjajaaGreat
open Go.RowKit

/-- What is asked of spec.Drawn. -/
def DrawnOk : Prop := ∀ (a : Option Addr) (len cap : Nat) (w : World), len ≤ cap → len ≤ 1048576 → (∀ i, i < len → ∃ b o z, a = some ⟨b, o, none⟩ ∧ b < w.heap.size ∧ 0 ≤ z ∧ z ≤ 255 ∧ w.cell? ⟨b, o + i, none⟩ = some (.int .u8 z)) →
  Calls Tryz.prog 4 #[.slice a len cap] w fun e w' => ∃ wv nb D, e = .returned (.tuple #[wv, .string nb]) ∧ Wds w' wv D ∧ D.t ≤ 1048576 ∧ nb.size ≤ 20 ∧ Below w.heap.size w w'

set_option linter.unusedSimpArgs false in
set_option maxHeartbeats 16000000 in
set_option maxRecDepth 100000 in
theorem lawOrder_of (HD : DrawnOk) (a : Option Addr) (len cap : Nat) (w : World) (hlc : len ≤ cap) (hl : len ≤ 1048576) (h : ∀ i, i < len → ∃ b o z, a = some ⟨b, o, none⟩ ∧ b < w.heap.size ∧ 0 ≤ z ∧ z ≤ 255 ∧ w.cell? ⟨b, o + i, none⟩ = some (.int .u8 z)) :
    Calls Tryz.prog 3 #[.slice a len cap] w fun e w' => e = .returned (.bool true) ∧ Below w.heap.size w w' := by
  have hdr := HD a len cap w hlc hl h
  clear h HD
  go_enter Tryz.func3, Tryz.ntmps3
  go_wp2_with fail
  refine hdr.mono ?_
  rintro e w1 ⟨wv, nb, D, rfl, hW, hD, hnb, hB1⟩
  obtain ⟨a1, a2, a3, k1, k2, k3, rfl⟩ := hW.agg'
  obtain ⟨V, hV⟩ : ∃ V, V = w1.alloc (.cells #[.slice a1 D.roots.length k1, .slice a2 D.mods.length k2, .slice a3 D.faults.length k3] 27) := ⟨_, rfl⟩
  have hVB : Below w1.heap.size w1 V := by rw [hV]; exact (Below.refl _ _).alloc (Nat.le_refl _) _
  have hVs : V.heap.size = w1.heap.size + 1 := by rw [hV]; simp
  have hbV : V.heap[w1.heap.size]? = some (.cells #[.slice a1 D.roots.length k1, .slice a2 D.mods.length k2, .slice a3 D.faults.length k3] 27 (0, 0)) := by rw [hV]; exact new_blk _ _
  have HV : Hid (V = w1.alloc (.cells #[.slice a1 D.roots.length k1, .slice a2 D.mods.length k2, .slice a3 D.faults.length k3] 27)) := hV
  have HWV : Hid (∀ U, Below V.heap.size V U → Wds U (.agg #[.slice a1 D.roots.length k1, .slice a2 D.mods.length k2, .slice a3 D.faults.length k3]) D) := fun U hU => (hW.below hVB (Nat.le_refl _)).below hU (Nat.le_refl _)
  have HBX : Hid (∀ U, Below V.heap.size V U → U.cell? ⟨w1.heap.size, 0, none⟩ = some (.slice a1 D.roots.length k1) ∧ U.cell? ⟨w1.heap.size, 1, none⟩ = some (.slice a2 D.mods.length k2) ∧ U.cell? ⟨w1.heap.size, 2, none⟩ = some (.slice a3 D.faults.length k3)) := fun U hU => by
    have h1 := (hU.block w1.heap.size (by omega)).trans hbV
    simp [World.cell?, h1]
  have hEl := edgesOf_len D hD
  have HDT : Hid (D.t ≤ 1048576) := hD
  have hE1 := edges_ok _ D V (HWV.out V (Below.refl _ _)) hD
  clear hV hW hbV hdr
  go_wp2_with fail
  rw [← HV.out]
  refine hE1.mono ?_
  rintro e w2 ⟨v2, rfl, r2, hb2⟩
  obtain ⟨al, cl, rfl, hcl, hgl⟩ := row_form r2
  have hS2 := specEdges_any _ D w2 (HWV.out w2 hb2) hD
  obtain ⟨x0, x1, x2⟩ := HBX.out w2 hb2
  clear hE1
  go_wp2_with fail
  refine hS2.mono ?_
  rintro e w3 ⟨v3, rfl, r3, hb3⟩
  obtain ⟨aw, cw, rfl, hcw, hgw⟩ := row_form r3
  have r2' := own_below r2 hb3 (Nat.le_refl _)
  have hB3 : Below V.heap.size V w3 := hb2.trans (hb3.mono hb2.size)
  obtain ⟨E, hE⟩ : ∃ E, E = edgesOf D := ⟨_, rfl⟩
  have HE : Hid (E = edgesOf D) := hE
  rw [← hE] at r2 r2' r3 hEl hcl hgl hcw hgw
  have hszV := hb2.size
  have hsz23 := hb3.size
  have HR : Hid (w3.ownsRow V.heap.size 33 3 (.slice al E.length cl) E.length (E.flatMap egR) ∧ w3.ownsRow w2.heap.size 33 3 (.slice aw E.length cw) E.length (E.flatMap egR) ∧ (∀ b, (Value.slice al E.length cl).ownBlock = some b → b < w2.heap.size)) := ⟨r2', r3, fun b hb => (r2.lt b hb).2⟩
  clear r2 r2' r3 hb2 hb3 x0 x1 x2 hS2
  rw [← hE]
  clear hE
  have HCE : Hid (∀ n, (hn : n < E.length) → ∃ g1 g2, al = some ⟨g1, 0, none⟩ ∧ aw = some ⟨g2, 0, none⟩ ∧ g1 < w3.heap.size ∧ g2 < w3.heap.size ∧ w3.cell? ⟨g1, n * 3, none⟩ = some (.int .i64 E[n].src) ∧ w3.cell? ⟨g1, n * 3 + 1, none⟩ = some (.int .i64 E[n].line) ∧ w3.cell? ⟨g1, n * 3 + 2, none⟩ = some (.int .i64 E[n].to) ∧
      w3.cell? ⟨g2, n * 3, none⟩ = some (.int .i64 E[n].src) ∧ w3.cell? ⟨g2, n * 3 + 1, none⟩ = some (.int .i64 E[n].line) ∧ w3.cell? ⟨g2, n * 3 + 2, none⟩ = some (.int .i64 E[n].to)) := fun n hn => by
    obtain ⟨g1, rfl⟩ := hgl (by omega)
    obtain ⟨g2, rfl⟩ := hgw (by omega)
    obtain ⟨i0, i1, i2⟩ := egR_get E n hn
    have c1 := HR.out.1.cellAt
    have c2 := HR.out.2.1.cellAt
    exact ⟨g1, g2, rfl, rfl, (HR.out.1.lt g1 rfl).2, (HR.out.2.1.lt g2 rfl).2, by rw [c1 _ (by omega)]; exact i0, by rw [c1 _ (by omega)]; exact i1, by rw [c1 _ (by omega)]; exact i2, by rw [c2 _ (by omega)]; exact i0, by rw [c2 _ (by omega)]; exact i1, by rw [c2 _ (by omega)]; exact i2⟩
  go_wp2
  go_loopw [40] (fun i wr => ∃ n : Nat, n ≤ E.length ∧ i = .int .i64 n ∧ Below w3.heap.size w3 wr) (fun i _ => E.length - (intOf i).toNat)
  case atStart => exact ⟨0, Nat.zero_le _, rfl, Below.refl _ _⟩
  case round =>
    obtain ⟨n, hn, rfl, hBr⟩ := hrel
    by_cases hlt : n < E.length
    · obtain ⟨g1, g2, rfl, rfl, hg1, hg2, m0, m1, m2, p0, p1, p2⟩ := HCE.out n hlt
      have m0 := below_cell0 hBr hg1 m0
      have m1 := below_cell0 hBr hg1 m1
      have m2 := below_cell0 hBr hg1 m2
      have p0 := below_cell0 hBr hg2 p0
      have p1 := below_cell0 hBr hg2 p1
      have p2 := below_cell0 hBr hg2 p2
      obtain ⟨s0, hs0⟩ : ∃ s0, s0 = E[n].src := ⟨_, rfl⟩
      obtain ⟨l0, hl0⟩ : ∃ l0, l0 = E[n].line := ⟨_, rfl⟩
      obtain ⟨t0, ht0⟩ : ∃ t0, t0 = E[n].to := ⟨_, rfl⟩
      rw [← hs0] at m0 p0
      rw [← hl0] at m1 p1
      rw [← ht0] at m2 p2
      clear hs0 hl0 ht0
      obtain ⟨U, hU⟩ : ∃ U, U = wr.alloc (.cells #[.int .i64 s0, .int .i64 l0, .int .i64 t0] 33) := ⟨_, rfl⟩
      have hUB : Below wr.heap.size wr U := by rw [hU]; exact (Below.refl _ _).alloc (Nat.le_refl _) _
      have hwrs := hBr.size
      have u0 : U.cell? ⟨wr.heap.size, 0, none⟩ = some (.int .i64 s0) := by rw [hU]; simp [go_sem]
      have u1 : U.cell? ⟨wr.heap.size, 1, none⟩ = some (.int .i64 l0) := by rw [hU]; simp [go_sem]
      have u2 : U.cell? ⟨wr.heap.size, 2, none⟩ = some (.int .i64 t0) := by rw [hU]; simp [go_sem]
      have q0 := below_cell0 hUB (by omega) p0
      have q1 := below_cell0 hUB (by omega) p1
      have q2 := below_cell0 hUB (by omega) p2
      have HU : Hid (U = wr.alloc (.cells #[.int .i64 s0, .int .i64 l0, .int .i64 t0] 33)) := hU
      clear hU p0 p1 p2
      go_wp2
      rw [← HU.out]
      go_region
      go_wp2
      go_roundw
      case rel => exact ⟨n + 1, by omega, by go_num, (hBr.trans (hUB.mono hwrs)).drew⟩
      case measure => simp [intOf]; omega
    · have hBV : Below V.heap.size V wr := hB3.trans (hBr.mono hB3.size)
      obtain ⟨x0, x1, x2⟩ := HBX.out wr hBV
      have hO1 := order_ok _ D nb wr (HWV.out wr hBV) HDT.out (by omega)
      go_wp2_with fail
      refine hO1.mono ?_
      rintro e w4 ⟨v4, rfl, r4, hb4⟩
      obtain ⟨ao, co, rfl, hco, hgo⟩ := row_form r4
      have hB4 : Below V.heap.size V w4 := hBV.trans (hb4.mono hBV.size)
      have hO2 := specOrder_any _ D nb w4 (HWV.out w4 hB4) HDT.out (by omega)
      obtain ⟨y0, y1, y2⟩ := HBX.out w4 hB4
      clear hO1 x0 x1 x2
      go_wp2_with fail
      refine hO2.mono ?_
      rintro e w5 ⟨v5, rfl, r5, hb5⟩
      obtain ⟨ap, cp, rfl, _, _⟩ := row_form r5
      have hB5 : Below V.heap.size V w5 := hB4.trans (hb5.mono hB4.size)
      have r4' := own_below r4 hb5 (Nat.le_refl _)
      have hOl := orderOf_len D nb.data.toList HDT.out
      have hT1 := wTexts_same _ _ (orderOf D nb.data.toList) w5 (Strs.of_row r4') (Strs.of_row r5) hOl
      have HRO : Hid (w5.ownsRow wr.heap.size 9 1 (.slice ao (orderOf D nb.data.toList).length co) (orderOf D nb.data.toList).length ((orderOf D nb.data.toList).map strV)) := r4'
      clear hO2 y0 y1 y2 r4 r5 r4'
      go_wp2_with fail
      refine hT1.mono ?_
      rintro e w6 ⟨rfl, hb6⟩
      have hB6 : Below V.heap.size V w6 := hB5.trans (hb6.mono hB5.size)
      obtain ⟨x0, x1, x2⟩ := HBX.out w6 hB6
      have hR1 := ring_ok _ D w6 (HWV.out w6 hB6) HDT.out
      clear hT1
      go_wp2_with fail
      refine hR1.mono ?_
      rintro e w7 ⟨v7, rfl, r7, hb7⟩
      obtain ⟨ar, cr, rfl, hcr, hgr⟩ := row_form r7
      have hB7 : Below V.heap.size V w7 := hB6.trans (hb7.mono hB6.size)
      have hR2 := specRing_any _ D w7 (HWV.out w7 hB7) HDT.out
      obtain ⟨y0, y1, y2⟩ := HBX.out w7 hB7
      clear hR1 x0 x1 x2
      go_wp2_with fail
      refine hR2.mono ?_
      rintro e w8 ⟨v8, rfl, r8, hb8⟩
      obtain ⟨aq, cq, rfl, _, _⟩ := row_form r8
      have hB8 : Below V.heap.size V w8 := hB7.trans (hb8.mono hB7.size)
      have r7' := own_below r7 hb8 (Nat.le_refl _)
      have hRl := shortOf_len D HDT.out
      have hT2 := wTexts_same _ _ (shortOf D) w8 (Strs.of_row r7') (Strs.of_row r8) hRl
      have HRR : Hid (w8.ownsRow w6.heap.size 9 1 (.slice ar (shortOf D).length cr) (shortOf D).length ((shortOf D).map strV)) := r7'
      clear hR2 y0 y1 y2 r7 r8 r7'
      go_wp2_with fail
      refine hT2.mono ?_
      rintro e w9 ⟨rfl, hb9⟩
      have hB9 : Below V.heap.size V w9 := hB8.trans (hb9.mono hB8.size)
      have HR9 := own_below HRR.out hb9 (Nat.le_refl _)
      have hs69 : w6.heap.size ≤ w9.heap.size := Nat.le_trans hb7.size (Nat.le_trans hb8.size hb9.size)
      have HK9 : Hid (w9.ownsRow V.heap.size 33 3 (.slice al E.length cl) E.length (E.flatMap egR) ∧ w9.ownsRow w2.heap.size 33 3 (.slice aw E.length cw) E.length (E.flatMap egR) ∧ w9.ownsRow wr.heap.size 9 1 (.slice ao (orderOf D nb.data.toList).length co) (orderOf D nb.data.toList).length ((orderOf D nb.data.toList).map strV) ∧ (∀ b, (Value.slice al E.length cl).ownBlock = some b → b < w2.heap.size) ∧ w2.heap.size ≤ w6.heap.size ∧ (∀ b, (Value.slice aw E.length cw).ownBlock = some b → b < w6.heap.size) ∧ (∀ b, (Value.slice ao (orderOf D nb.data.toList).length co).ownBlock = some b → b < w6.heap.size) ∧ w2.heap.size ≤ wr.heap.size) := by
        have z1 := hBr.size
        have z2 := hb4.size
        have z3 := hb5.size
        have z4 := hb6.size
        have z5 := hb7.size
        have z6 := hb8.size
        have h59 : Below w5.heap.size w5 w9 := ((hb6.trans (hb7.mono (by omega))).trans (hb8.mono (by omega))).trans (hb9.mono (by omega))
        have h39 : Below w3.heap.size w3 w9 := ((hBr.trans (hb4.mono (by omega))).trans (hb5.mono (by omega))).trans (h59.mono (by omega))
        exact ⟨own_below HR.out.1 h39 (Nat.le_refl _), own_below HR.out.2.1 h39 (Nat.le_refl _), own_below HRO.out h59 (Nat.le_refl _), HR.out.2.2, by omega, fun b hb => by have := (HR.out.2.1.lt b hb).2; omega, fun b hb => by have := (HRO.out.lt b hb).2; omega, by omega⟩
      obtain ⟨Rn, hRn⟩ : ∃ Rn, Rn = (shortOf D).length := ⟨_, rfl⟩
      have HRN : Hid (Rn = (shortOf D).length) := hRn
      rw [← hRn] at HR9 hRl hcr hgr
      rw [← hRn]
      clear hT2 HRR HRO hRn
      obtain ⟨wq, hwq⟩ : ∃ wq, wq = wr := ⟨_, rfl⟩
      go_wp2
      go_loopw [70] (fun i U => ∃ (m : Nat) (xs : List Value), m ≤ Rn ∧ i = .int .i64 m ∧ U.ownsRow w6.heap.size 9 1 (.slice ar Rn cr) Rn xs ∧ Below w6.heap.size w9 U) (fun i _ => Rn - (intOf i).toNat)
      case atStart => exact ⟨0, _, Nat.zero_le _, rfl, HR9, Below.refl _ _⟩
      case round =>
        obtain ⟨m, xs, hm, rfl, hro, hBU⟩ := hrel
        by_cases hltm : m < Rn
        · obtain ⟨gr, rfl⟩ := hgr (by omega)
          obtain ⟨u, hu⟩ := row_cell hro m (by omega)
          have hfz := hro.frozenAt m
          have hst := hro.stored m (.string ⟨#[111, 118, 101, 114]⟩)
          have hgb := (hro.lt gr rfl).1
          go_wp2
          go_roundw
          case rel => exact ⟨m + 1, _, by omega, by go_num, hst.1, hBU.setCell (p := ⟨gr, m, none⟩) hgb _⟩
          case measure => simp [intOf]; omega
        · clear hro
          obtain ⟨hk1, hk2, hk3, hk4, hk5, _⟩ := HK9.out
          have hlU := own_block (w' := wr) hk1 (fun b hb => hBU.block b (by have := hk4 b hb; omega))
          obtain ⟨U0, hU0⟩ : ∃ U0, U0 = wr := ⟨_, rfl⟩
          rw [← hU0] at hlU hBU
          rw [← hU0]
          clear hU0 hk1 hk2 hk3
          go_wp2
          go_loopw [79] (fun i U => ∃ (m : Nat) (xs : List Value), m ≤ E.length ∧ i = .int .i64 m ∧ U.ownsRow V.heap.size 33 3 (.slice al E.length cl) E.length xs ∧ U0.grownBy U (Value.slice al E.length cl).ownBlock) (fun i _ => E.length - (intOf i).toNat)
          case atStart => exact ⟨0, _, Nat.zero_le _, rfl, hlU, World.grownBy.refl _ _⟩
          case round =>
            obtain ⟨m, xs, hm, rfl, hro, hgU⟩ := hrel
            by_cases hltm : m < E.length
            · obtain ⟨gl, rfl⟩ := hgl (by omega)
              obtain ⟨u, hu⟩ := row_cell hro (m * 3 + 2) (by omega)
              have hfz := hro.frozenAt (m * 3 + 2)
              have hst := hro.stored (m * 3 + 2) (.int .i64 77)
              go_wp2
              go_roundw
              case rel => exact ⟨m + 1, _, by omega, by go_num, hst.1, hgU.trans hst.2⟩
              case measure => simp [intOf]; omega
            · have hBU2 : Below V.heap.size V wr := ((hB9.trans (hBU.mono (Nat.le_trans hszV hk5))).grown hgU (by have := hB9.size; have := hBU.size; omega) (fun b e' => (hlU.lt b e').1))
              have hwU : wr.ownsRow w2.heap.size 33 3 (.slice aw E.length cw) E.length (E.flatMap egR) ∧ wr.ownsRow wq.heap.size 9 1 (.slice ao (orderOf D nb.data.toList).length co) (orderOf D nb.data.toList).length ((orderOf D nb.data.toList).map strV) := by
                obtain ⟨_, k2', k3', k4', _, k6', k7', k8'⟩ := HK9.out
                rw [hwq]
                have a1 := own_block (w' := U0) k2' (fun b hb => hBU.block b (k6' b hb))
                have a2' := own_block (w' := U0) k3' (fun b hb => hBU.block b (k7' b hb))
                exact ⟨own_block a1 (fun b hb => hgU.block b (a1.lt b hb).2 (fun e => by have := k4' b e.symm; have := (a1.lt b hb).1; omega)), own_block a2' (fun b hb => hgU.block b (a2'.lt b hb).2 (fun e => by have := k4' b e.symm; have := (a2'.lt b hb).1; omega))⟩
              have HwU : Hid (wr.ownsRow w2.heap.size 33 3 (.slice aw E.length cw) E.length (E.flatMap egR) ∧ wr.ownsRow wq.heap.size 9 1 (.slice ao (orderOf D nb.data.toList).length co) (orderOf D nb.data.toList).length ((orderOf D nb.data.toList).map strV)) := hwU
              obtain ⟨x0, x1, x2⟩ := HBX.out wr hBU2
              have hE3 := edges_ok _ D wr (HWV.out wr hBU2) HDT.out
              rw [← HE.out] at hE3
              clear hwU hro hlU
              go_wp2_with fail
              refine hE3.mono ?_
              rintro e w10 ⟨v10, rfl, r10, hb10⟩
              obtain ⟨an, cn, rfl, hcn, hgn⟩ := row_form r10
              have hB10 : Below V.heap.size V w10 := hBU2.trans (hb10.mono hBU2.size)
              have hw10 := own_below HwU.out.1 hb10 (Nat.le_refl _)
              have ho10 := own_below HwU.out.2 hb10 (Nat.le_refl _)
              have HCF : Hid (∀ n, (hn : n < E.length) → ∃ g1 g2, an = some ⟨g1, 0, none⟩ ∧ aw = some ⟨g2, 0, none⟩ ∧ g1 < w10.heap.size ∧ g2 < w10.heap.size ∧ w10.cell? ⟨g1, n * 3, none⟩ = some (.int .i64 E[n].src) ∧ w10.cell? ⟨g1, n * 3 + 1, none⟩ = some (.int .i64 E[n].line) ∧ w10.cell? ⟨g1, n * 3 + 2, none⟩ = some (.int .i64 E[n].to) ∧
                  w10.cell? ⟨g2, n * 3, none⟩ = some (.int .i64 E[n].src) ∧ w10.cell? ⟨g2, n * 3 + 1, none⟩ = some (.int .i64 E[n].line) ∧ w10.cell? ⟨g2, n * 3 + 2, none⟩ = some (.int .i64 E[n].to)) := fun n hn => by
                obtain ⟨g1, rfl⟩ := hgn (by omega)
                obtain ⟨g2, rfl⟩ := hgw (by omega)
                obtain ⟨i0, i1, i2⟩ := egR_get E n hn
                have c1 := r10.cellAt
                have c2 := hw10.cellAt
                exact ⟨g1, g2, rfl, rfl, (r10.lt g1 rfl).2, (hw10.lt g2 rfl).2, by rw [c1 _ (by omega)]; exact i0, by rw [c1 _ (by omega)]; exact i1, by rw [c1 _ (by omega)]; exact i2, by rw [c2 _ (by omega)]; exact i0, by rw [c2 _ (by omega)]; exact i1, by rw [c2 _ (by omega)]; exact i2⟩
              have HN10 : Hid (w10.ownsRow wr.heap.size 33 3 (.slice an E.length cn) E.length (E.flatMap egR) ∧ w10.ownsRow wq.heap.size 9 1 (.slice ao (orderOf D nb.data.toList).length co) (orderOf D nb.data.toList).length ((orderOf D nb.data.toList).map strV)) := ⟨r10, ho10⟩
              clear hE3 x0 x1 x2 r10 hw10 ho10 HwU hltm
              obtain ⟨wu, hwu⟩ : ∃ wu, wu = wr := ⟨_, rfl⟩
              go_wp2
              go_loopw [96] (fun i wr => ∃ n : Nat, n ≤ E.length ∧ i = .int .i64 n ∧ Below w10.heap.size w10 wr) (fun i _ => E.length - (intOf i).toNat)
              case atStart => exact ⟨0, Nat.zero_le _, rfl, Below.refl _ _⟩
              case round =>
                obtain ⟨n, hn, rfl, hBr⟩ := hrel
                by_cases hlt : n < E.length
                · obtain ⟨g1, g2, rfl, rfl, hg1, hg2, m0, m1, m2, p0, p1, p2⟩ := HCF.out n hlt
                  have m0 := below_cell0 hBr hg1 m0
                  have m1 := below_cell0 hBr hg1 m1
                  have m2 := below_cell0 hBr hg1 m2
                  have p0 := below_cell0 hBr hg2 p0
                  have p1 := below_cell0 hBr hg2 p1
                  have p2 := below_cell0 hBr hg2 p2
                  obtain ⟨s0, hs0⟩ : ∃ s0, s0 = E[n].src := ⟨_, rfl⟩
                  obtain ⟨l0, hl0⟩ : ∃ l0, l0 = E[n].line := ⟨_, rfl⟩
                  obtain ⟨t0, ht0⟩ : ∃ t0, t0 = E[n].to := ⟨_, rfl⟩
                  rw [← hs0] at m0 p0
                  rw [← hl0] at m1 p1
                  rw [← ht0] at m2 p2
                  clear hs0 hl0 ht0
                  obtain ⟨U, hU⟩ : ∃ U, U = wr.alloc (.cells #[.int .i64 s0, .int .i64 l0, .int .i64 t0] 33) := ⟨_, rfl⟩
                  have hUB : Below wr.heap.size wr U := by rw [hU]; exact (Below.refl _ _).alloc (Nat.le_refl _) _
                  have hwrs := hBr.size
                  have u0 : U.cell? ⟨wr.heap.size, 0, none⟩ = some (.int .i64 s0) := by rw [hU]; simp [go_sem]
                  have u1 : U.cell? ⟨wr.heap.size, 1, none⟩ = some (.int .i64 l0) := by rw [hU]; simp [go_sem]
                  have u2 : U.cell? ⟨wr.heap.size, 2, none⟩ = some (.int .i64 t0) := by rw [hU]; simp [go_sem]
                  have q0 := below_cell0 hUB (by omega) p0
                  have q1 := below_cell0 hUB (by omega) p1
                  have q2 := below_cell0 hUB (by omega) p2
                  have HU : Hid (U = wr.alloc (.cells #[.int .i64 s0, .int .i64 l0, .int .i64 t0] 33)) := hU
                  clear hU p0 p1 p2
                  go_wp2
                  rw [← HU.out]
                  go_region
                  go_wp2
                  go_roundw
                  case rel => exact ⟨n + 1, by omega, by go_num, (hBr.trans (hUB.mono hwrs)).drew⟩
                  case measure => simp [intOf]; omega
                · have hBY : Below V.heap.size V wr := hB10.trans (hBr.mono hB10.size)
                  obtain ⟨x0, x1, x2⟩ := HBX.out wr hBY
                  have hBYd : Below V.heap.size V wr.drew := hBY.drew
                  have hR1 := ring_ok _ D wr.drew (HWV.out wr.drew hBYd) HDT.out
                  go_wp2
                  refine wp_region_held_drew (S := (fun w' => w'.cell? ⟨w1.heap.size, 0, none⟩ = some (.slice a1 D.roots.length k1) ∧ w'.cell? ⟨w1.heap.size, 1, none⟩ = some (.slice a2 D.mods.length k2) ∧ w'.cell? ⟨w1.heap.size, 2, none⟩ = some (.slice a3 D.faults.length k3))) (by kernel_rfl) ⟨x0, x1, x2⟩ (fun hHeld => ?_)
                  refine wpAnyH_take (i := 0) (v := ?_) rfl (by kernel_rfl) (by kernel_rfl) (by kernel_rfl) (fun _ _ _ h => h) (Or.inl ⟨by rfl, ?_⟩) (by assumption) ?_
                  case refine_2 => (intro w' hSw; go_simp; with_reducible rfl)
                  (simp only [List.getElem_toArray, List.getElem_cons_zero, List.getElem_cons_succ, Act.put, List.setIfInBounds_toArray, List.set_cons_zero, List.set_cons_succ])
                  refine wpAnyH_take (i := 2) (v := ?_) rfl (by kernel_rfl) (by kernel_rfl) (by kernel_rfl) (fun _ _ _ h => h) (Or.inl ⟨by rfl, ?_⟩) (by assumption) ?_
                  case refine_2 => (intro w' hSw; go_simp; with_reducible rfl)
                  (simp only [List.getElem_toArray, List.getElem_cons_zero, List.getElem_cons_succ, Act.put, List.setIfInBounds_toArray, List.set_cons_zero, List.set_cons_succ])
                  refine wpAnyH_ready (rs := [1]) (by kernel_rfl) (by simp) ?_
                  refine AllReadyH.cons rfl (fun K hK => ?_) AllReadyH.nil
                  go_simp
                  refine hR1.mono ?_
                  rintro e w11 ⟨v11, rfl, r11, hb11⟩
                  obtain ⟨ar2, cr2, rfl, _, _⟩ := row_form r11
                  have hB11 : Below V.heap.size V w11 := hBYd.trans (hb11.mono hBYd.size)
                  have hy := HBX.out w11 hB11
                  first | refine hK.out _ _ hy (fun hHeld => ?_) | (go_wp2_with fail; refine hK.out _ _ hy (fun hHeld => ?_))
                  clear hK K
                  (try simp only [List.getElem_toArray, List.getElem_cons_zero, List.getElem_cons_succ, Act.put, List.setIfInBounds_toArray, List.set_cons_zero, List.set_cons_succ])
                  refine wpAnyH_ready (rs := [3]) (by kernel_rfl) (by simp) ?_
                  refine AllReadyH.cons rfl (fun K hK => ?_) AllReadyH.nil
                  have hR2 := specRing_any _ D w11 (HWV.out w11 hB11) HDT.out
                  go_simp
                  refine hR2.mono ?_
                  rintro e w12 ⟨v12, rfl, r12, hb12⟩
                  obtain ⟨aq2, cq2, rfl, _, _⟩ := row_form r12
                  have hB12 : Below V.heap.size V w12 := hB11.trans (hb12.mono hB11.size)
                  have hy2 := HBX.out w12 hB12
                  first | refine hK.out _ _ hy2 (fun hHeld => ?_) | (go_wp2_with fail; refine hK.out _ _ hy2 (fun hHeld => ?_))
                  clear hK K
                  (try simp only [List.getElem_toArray, List.getElem_cons_zero, List.getElem_cons_succ, Act.put, List.setIfInBounds_toArray, List.set_cons_zero, List.set_cons_succ])
                  refine wpAnyH_ready (rs := [4]) (by kernel_rfl) (by simp) ?_
                  refine AllReadyH.cons rfl (fun K hK => ?_) AllReadyH.nil
                  have r11' := own_below r11 hb12 (Nat.le_refl _)
                  have hT3 := wTexts_same _ _ (shortOf D) w12 (Strs.of_row r11') (Strs.of_row r12) (by rw [← HRN.out]; exact hRl)
                  go_simp
                  refine hT3.mono ?_
                  rintro e w13 ⟨rfl, hb13⟩
                  have hB13 : Below V.heap.size V w13 := hB12.trans (hb13.mono hB12.size)
                  have hy3 := HBX.out w13 hB13
                  first | refine hK.out _ _ hy3 (fun hHeld => ?_) | (go_wp2_with fail; refine hK.out _ _ hy3 (fun hHeld => ?_))
                  clear hK K
                  (try simp only [List.getElem_toArray, List.getElem_cons_zero, List.getElem_cons_succ, Act.put, List.setIfInBounds_toArray, List.set_cons_zero, List.set_cons_succ])
                  refine wpAnyH_take (i := 5) (v := ?_) rfl (by kernel_rfl) (by kernel_rfl) (by kernel_rfl) (fun _ _ _ h => h) (Or.inl ⟨by rfl, ?_⟩) (by assumption) ?_
                  case refine_2 => (intro w' hSw; go_simp; with_reducible rfl)
                  (simp only [List.getElem_toArray, List.getElem_cons_zero, List.getElem_cons_succ, Act.put, List.setIfInBounds_toArray, List.set_cons_zero, List.set_cons_succ])
                  refine wpAnyH_done (by kernel_rfl) ?_ _
                  have hb113 : Below w10.heap.size w10 w13 := hBr.trans ((Below.trans (Below.trans (Below.refl _ _).drew (hb11.trans (hb12.mono hb11.size))) (hb13.mono (Nat.le_trans hb11.size hb12.size))).mono hBr.size)
                  clear hR1 hR2 hT3 r11 r12 r11' hy hy2 hy3 hHeld
                  have hBz : Below w.heap.size w w13 := hB1.trans ((hVB.trans (hB13.mono (by omega))).mono hB1.size)
                  by_cases hRp : 0 < Rn
                  · have hRp' : (0 : Int) < (Rn : Int) := by omega
                    go_wp2
                    go_ret
                    exact ⟨rfl, hBz⟩
                  · have hR0 : ¬ (0 : Int) < (Rn : Int) := by omega
                    have hRd : decide ((0 : Int) < (Rn : Int)) = false := by simpa using hR0
                    have HZ : Hid (shortOf D = []) := List.eq_nil_of_length_eq_zero (by rw [← HRN.out]; omega)
                    have HPR : Hid (∀ e ∈ E, 0 ≤ e.to → ¬ (0 ≤ lastI (nameK D.mods e.src.toNat) 0 (orderOf D nb.data.toList) (-1) ∧ (lastI (nameK D.mods e.to.toNat) 0 (orderOf D nb.data.toList) (-1) < 0 ∨ lastI (nameK D.mods e.src.toNat) 0 (orderOf D nb.data.toList) (-1) < lastI (nameK D.mods e.to.toNat) 0 (orderOf D nb.data.toList) (-1)))) := fun e he h0 => order_pair D _ HZ.out e (by rw [← HE.out]; exact he) h0
                    have HSR : Hid (∀ e ∈ E, ∃ k : Nat, e.src = (k : Int) ∧ k < D.mods.length) := by unfold Hid; rw [HE.out]; exact edgesOf_src D
                    have HTO : Hid (∀ e ∈ E, e.to < (D.mods.length : Int)) := by unfold Hid; rw [HE.out]; exact edgesOf_to D
                    have hk2' : D.mods.length ≤ k2 := by
                      obtain ⟨r, m, f, hv, h1, h2, h3⟩ := HWV.out V (Below.refl _ _)
                      obtain ⟨am, cm, hvm, hcm, _⟩ := h2
                      simp at hv
                      obtain ⟨_, hv2, _⟩ := hv
                      rw [hvm] at hv2
                      cases hv2
                      exact hcm
                    have HNMD : Hid (∀ U, Below V.heap.size V U → ∀ k (hk : k < D.mods.length), ∃ b o, a2 = some ⟨b, o, none⟩ ∧ U.cell? ⟨b, o + k * 2, none⟩ = some (strV (nameK D.mods k)) ∧ b < U.heap.size) := fun U hU k hk => by
                      obtain ⟨r, m, f, hv, h1, h2, h3⟩ := HWV.out U hU
                      obtain ⟨am, cm, hvm, _, _, hc⟩ := h2
                      simp at hv
                      obtain ⟨_, hv2, _⟩ := hv
                      rw [hvm] at hv2
                      cases hv2
                      obtain ⟨b, o, s, ha, hb, h0, _⟩ := hc k hk
                      exact ⟨b, o, ha, by rw [nameK_at hk]; exact h0, hb⟩
                    obtain ⟨O, hO⟩ : ∃ O, O = orderOf D nb.data.toList := ⟨_, rfl⟩
                    have hOl' := orderOf_len D nb.data.toList HDT.out
                    have HO10 : Hid (w10.ownsRow wq.heap.size 9 1 (.slice ao O.length co) O.length (O.map strV)) := by rw [hO]; exact HN10.out.2
                    have HL10 : Hid (w10.ownsRow wu.heap.size 33 3 (.slice an E.length cn) E.length (E.flatMap egR)) := by rw [hwu]; exact HN10.out.1
                    rw [← hO] at HPR hOl'
                    rw [← hO]
                    have hco' : O.length ≤ co := by obtain ⟨_, _, hvv, hcc, _⟩ := row_form HO10.out; cases hvv; exact hcc
                    have hgo' : 0 < O.length → ∃ g, ao = some ⟨g, 0, none⟩ := by obtain ⟨_, _, hvv, _, hgg⟩ := row_form HO10.out; cases hvv; exact hgg
                    clear hO HN10 HCF HCE HK9
                    have hszz : V.heap.size ≤ w10.heap.size := hB10.size
                    go_wp2
                    go_loopw [119] (fun i wr => ∃ n : Nat, n ≤ E.length ∧ i = .int .i64 n ∧ Below w10.heap.size w10 wr) (fun i _ => E.length - (intOf i).toNat)
                    case atStart => exact ⟨0, Nat.zero_le _, rfl, hb113⟩
                    case round =>
                      obtain ⟨n, hn, rfl, hBn⟩ := hrel
                      by_cases hltn : n < E.length
                      · obtain ⟨g1, rfl⟩ := hgn (by omega)
                        obtain ⟨i0, i1, i2⟩ := egR_get E n hltn
                        have hL := own_below HL10.out hBn (Nat.le_refl _)
                        have hLX : (E.flatMap egR).length = E.length * 3 := egR_len E
                        have m0 : wr.cell? ⟨g1, n * 3, none⟩ = some (.int .i64 E[n].src) := by rw [hL.cellAt _ (by omega)]; exact i0
                        have m1 : wr.cell? ⟨g1, n * 3 + 1, none⟩ = some (.int .i64 E[n].line) := by rw [hL.cellAt _ (by omega)]; exact i1
                        have m2 : wr.cell? ⟨g1, n * 3 + 2, none⟩ = some (.int .i64 E[n].to) := by rw [hL.cellAt _ (by omega)]; exact i2
                        have hEn := List.getElem_mem hltn
                        obtain ⟨kf, hkf, hkfl⟩ := HSR.out _ hEn
                        have htl := HTO.out _ hEn
                        have hpr := HPR.out _ hEn
                        obtain ⟨l0, hl0⟩ : ∃ l0, l0 = E[n].line := ⟨_, rfl⟩
                        obtain ⟨t0, ht0⟩ : ∃ t0, t0 = E[n].to := ⟨_, rfl⟩
                        rw [hkf] at m0 hpr
                        rw [← hl0] at m1
                        rw [← ht0] at m2 htl hpr
                        have hBVn : Below V.heap.size V wr := hB10.trans (hBn.mono hszz)
                        clear hl0 ht0 hkf i0 i1 i2 hL hEn
                        by_cases htneg : t0 < 0
                        · clear hpr
                          go_wp2
                          go_roundw
                          case rel => exact ⟨n + 1, by omega, by go_num, hBn.alloc hBn.size _⟩
                          case measure => simp [intOf]; omega
                        · obtain ⟨kt, rfl⟩ : ∃ kt : Nat, t0 = (kt : Int) := ⟨t0.toNat, by omega⟩
                          have hpr2 := hpr (by omega)
                          rw [Int.toNat_natCast, Int.toNat_natCast] at hpr2
                          have hktl : kt < D.mods.length := by omega
                          have HP2 : Hid (¬ (0 ≤ lastI (nameK D.mods kf) 0 O (-1) ∧ (lastI (nameK D.mods kt) 0 O (-1) < 0 ∨ lastI (nameK D.mods kf) 0 O (-1) < lastI (nameK D.mods kt) 0 O (-1)))) := hpr2
                          clear hpr hpr2
                          obtain ⟨U0, hU0⟩ : ∃ U0, U0 = wr.alloc (.cells #[.int .i64 (kf : Int), .int .i64 l0, .int .i64 (kt : Int)] 33) := ⟨_, rfl⟩
                          have HU0 : Hid (U0 = wr.alloc (.cells #[.int .i64 (kf : Int), .int .i64 l0, .int .i64 (kt : Int)] 33)) := hU0
                          have hwn := hBn.size
                          have hBU0 : Below V.heap.size V U0 := by rw [hU0]; exact hBVn.alloc hBVn.size _
                          have hB10U : Below w10.heap.size w10 U0 := by rw [hU0]; exact hBn.alloc hBn.size _
                          have hbU0 : U0.heap[wr.heap.size]? = some (.cells #[.int .i64 (kf : Int), .int .i64 l0, .int .i64 (kt : Int)] 33 (0, 0)) := by rw [hU0]; exact new_blk _ _
                          have hUs : wr.heap.size < U0.heap.size := by rw [hU0]; simp
                          have HOU : Hid (U0.ownsRow wq.heap.size 9 1 (.slice ao O.length co) O.length (O.map strV)) := own_below HO10.out hB10U (Nat.le_refl _)
                          have HBU : Hid (Below V.heap.size V U0 ∧ U0.heap[wr.heap.size]? = some (.cells #[.int .i64 (kf : Int), .int .i64 l0, .int .i64 (kt : Int)] 33 (0, 0))) := ⟨hBU0, hbU0⟩
                          obtain ⟨LA, hLA⟩ : ∃ LA, LA = lastI (nameK D.mods kf) 0 O (-1) := ⟨_, rfl⟩
                          obtain ⟨LB, hLB⟩ : ∃ LB, LB = lastI (nameK D.mods kt) 0 O (-1) := ⟨_, rfl⟩
                          have HLA : Hid (lastI (nameK D.mods kf) 0 (O.drop 0) (-1) = LA ∧ lastI (nameK D.mods kt) 0 (O.drop 0) (-1) = LB) := ⟨by rw [hLA]; rfl, by rw [hLB]; rfl⟩
                          rw [← hLA, ← hLB] at HP2
                          clear hLA hLB hU0 hbU0 hBU0
                          have htn0 : ¬ ((kt : Int) < 0) := by omega
                          have htnd : decide ((kt : Int) < 0) = false := by simp
                          go_wp2
                          rw [← HU0.out]
                          obtain ⟨wn, rfl⟩ : ∃ wn, wn = wr := ⟨_, rfl⟩
                          go_loopw [17, 18, 128] (fun va vb i U => ∃ (m : Nat) (A B : Int), m ≤ O.length ∧ i = .int .i64 m ∧ va = .int .i64 A ∧ vb = .int .i64 B ∧ lastI (nameK D.mods kf) m (O.drop m) A = LA ∧ lastI (nameK D.mods kt) m (O.drop m) B = LB ∧ Below U0.heap.size U0 U) (fun _ _ i _ => O.length - (intOf i).toNat)
                          case atStart => exact ⟨0, -1, -1, Nat.zero_le _, rfl, rfl, rfl, HLA.out.1, HLA.out.2, Below.refl _ _⟩
                          case round =>
                            obtain ⟨m, A, B, hm, rfl, rfl, rfl, hA, hB, hBm⟩ := hrel
                            have hBmV : Below V.heap.size V wr := HBU.out.1.trans (hBm.mono HBU.out.1.size)
                            by_cases hltm : m < O.length
                            · obtain ⟨go, rfl⟩ := hgo' (by omega)
                              have hOU := own_below HOU.out hBm (Nat.le_refl _)
                              have s0 : wr.cell? ⟨go, m, none⟩ = some (strV O[m]) := by rw [hOU.cellAt m (by simp; omega)]; simp [hltm]
                              obtain ⟨qs, hqs⟩ : ∃ q : ByteArray, q.data.toList = O[m] := ⟨⟨O[m].toArray⟩, by simp⟩
                              rw [← hqs, strV_data] at s0
                              have hbx := (hBm.block _ hUs).trans HBU.out.2
                              have e0 : wr.cell? ⟨wn.heap.size, 0, none⟩ = some (.int .i64 (kf : Int)) := by simp [World.cell?, hbx]
                              have e2 : wr.cell? ⟨wn.heap.size, 2, none⟩ = some (.int .i64 (kt : Int)) := by simp [World.cell?, hbx]
                              obtain ⟨x0, x1, x2⟩ := HBX.out wr hBmV
                              obtain ⟨b2, o2, rfl, nf, _⟩ := HNMD.out wr hBmV kf hkfl
                              obtain ⟨b3, o3, h3, nt, _⟩ := HNMD.out wr hBmV kt hktl
                              cases h3
                              obtain ⟨qf, hqf⟩ : ∃ q : ByteArray, q.data.toList = nameK D.mods kf := ⟨⟨(nameK D.mods kf).toArray⟩, by simp⟩
                              obtain ⟨qt, hqt⟩ : ∃ q : ByteArray, q.data.toList = nameK D.mods kt := ⟨⟨(nameK D.mods kt).toArray⟩, by simp⟩
                              rw [← hqf, strV_data] at nf
                              rw [← hqt, strV_data] at nt
                              rw [lastI_drop _ _ _ _ hltm] at hA hB
                              have HA : Hid (lastI (nameK D.mods kf) (m + 1) (O.drop (m + 1)) (if O[m] = nameK D.mods kf then (m : Int) else A) = LA) := hA
                              have HB : Hid (lastI (nameK D.mods kt) (m + 1) (O.drop (m + 1)) (if O[m] = nameK D.mods kt then (m : Int) else B) = LB) := hB
                              have HC1 : Hid ((qs.toList == qf.toList) = decide (O[m] = nameK D.mods kf)) := str_beq hqs hqf
                              have HC2 : Hid ((qs.toList == qt.toList) = decide (O[m] = nameK D.mods kt)) := str_beq hqs hqt
                              clear hA hB hqs hqf hqt hOU hbx x0 x2
                              by_cases h1 : O[m] = nameK D.mods kf
                              · have c1 : (qs.toList == qf.toList) = true := by rw [HC1.out]; simpa using h1
                                have HA1 := HA.out
                                rw [if_pos h1] at HA1
                                have HA2 : Hid (lastI (nameK D.mods kf) (m + 1) (O.drop (m + 1)) (m : Int) = LA) := HA1
                                by_cases h2 : O[m] = nameK D.mods kt
                                · have c2 : (qs.toList == qt.toList) = true := by rw [HC2.out]; simpa using h2
                                  have HB1 := HB.out
                                  rw [if_pos h2] at HB1
                                  have HB2 : Hid (lastI (nameK D.mods kt) (m + 1) (O.drop (m + 1)) (m : Int) = LB) := HB1
                                  clear HA1 HB1 h1 h2 HA HB HC1 HC2
                                  go_wp2
                                  go_roundw
                                  case rel => exact ⟨m + 1, _, _, by omega, by go_num, rfl, rfl, HA2.out, HB2.out, hBm⟩
                                  case measure => simp [intOf]; omega
                                · have c2 : (qs.toList == qt.toList) = false := by rw [HC2.out]; simpa using h2
                                  have HB1 := HB.out
                                  rw [if_neg h2] at HB1
                                  have HB2 : Hid (lastI (nameK D.mods kt) (m + 1) (O.drop (m + 1)) B = LB) := HB1
                                  clear HA1 HB1 h1 h2 HA HB HC1 HC2
                                  go_wp2
                                  go_roundw
                                  case rel => exact ⟨m + 1, _, _, by omega, by go_num, rfl, rfl, HA2.out, HB2.out, hBm⟩
                                  case measure => simp [intOf]; omega
                              · have c1 : (qs.toList == qf.toList) = false := by rw [HC1.out]; simpa using h1
                                have HA1 := HA.out
                                rw [if_neg h1] at HA1
                                have HA2 : Hid (lastI (nameK D.mods kf) (m + 1) (O.drop (m + 1)) A = LA) := HA1
                                by_cases h2 : O[m] = nameK D.mods kt
                                · have c2 : (qs.toList == qt.toList) = true := by rw [HC2.out]; simpa using h2
                                  have HB1 := HB.out
                                  rw [if_pos h2] at HB1
                                  have HB2 : Hid (lastI (nameK D.mods kt) (m + 1) (O.drop (m + 1)) (m : Int) = LB) := HB1
                                  clear HA1 HB1 h1 h2 HA HB HC1 HC2
                                  go_wp2
                                  go_roundw
                                  case rel => exact ⟨m + 1, _, _, by omega, by go_num, rfl, rfl, HA2.out, HB2.out, hBm⟩
                                  case measure => simp [intOf]; omega
                                · have c2 : (qs.toList == qt.toList) = false := by rw [HC2.out]; simpa using h2
                                  have HB1 := HB.out
                                  rw [if_neg h2] at HB1
                                  have HB2 : Hid (lastI (nameK D.mods kt) (m + 1) (O.drop (m + 1)) B = LB) := HB1
                                  clear HA1 HB1 h1 h2 HA HB HC1 HC2
                                  go_wp2
                                  go_roundw
                                  case rel => exact ⟨m + 1, _, _, by omega, by go_num, rfl, rfl, HA2.out, HB2.out, hBm⟩
                                  case measure => simp [intOf]; omega
                            · rw [lastI_end _ _ _ _ (by omega)] at hA hB
                              subst hA hB
                              have hp2 := HP2.out
                              have hBe : Below w10.heap.size w10 wr := hB10U.trans (hBm.mono hB10U.size)
                              by_cases hA0 : 0 ≤ A
                              · have hB0 : ¬ B < 0 := fun h => hp2 ⟨hA0, .inl h⟩
                                have hAB : ¬ A < B := fun h => hp2 ⟨hA0, .inr h⟩
                                clear hp2
                                go_wp2
                                go_roundw
                                case rel => exact ⟨n + 1, by omega, by go_num, hBe⟩
                                case measure => simp [intOf]; omega
                              · clear hp2
                                go_wp2
                                go_roundw
                                case rel => exact ⟨n + 1, by omega, by go_num, hBe⟩
                                case measure => simp [intOf]; omega
                      · go_wp2
                        go_ret
                        exact ⟨rfl, hB1.trans ((hVB.trans ((hB10.trans (hBn.mono hszz)).mono (by omega))).mono hB1.size)⟩
end Go.Proofs.YtimgafblpmjajaaGreat
namespace Go.Proofs.YtimgafblpmjajaaGreat

open Go.RowKit

/-- The bytes that choices are read from. -/
def Bytes (w : World) (C : Nat) (a : Option Addr) (len : Nat) : Prop :=
  ∀ i, i < len → ∃ b o z, a = some ⟨b, o, none⟩ ∧ b < C ∧ 0 ≤ z ∧ z ≤ 255 ∧ w.cell? ⟨b, o + i, none⟩ = some (.int .u8 z)
/-- The reader of choices lies in block C; it has read at most n. -/
def Cur (w : World) (C n : Nat) : Prop :=
  ∃ a len cap k sd, w.heap[C]? = some (.cells #[.slice a len cap, .int .i64 ((k : Nat) : Int), .int .u64 sd] 44 (0, 0)) ∧ k ≤ n ∧ len ≤ cap ∧ len ≤ 1048576 ∧ Bytes w C a len

theorem Bytes.kept {w w' : World} {C : Nat} {a : Option Addr} {len : Nat} (h : Bytes w C a len) (hg : w.grownBy w' (some C)) : Bytes w' C a len := fun i hi => by
  obtain ⟨b, o, z, ha, hlt, h0, h255, hc⟩ := h i hi
  refine ⟨b, o, z, ha, hlt, h0, h255, ?_⟩
  have hne : b ≠ C := by omega
  exact hg.cell (a := ⟨b, o + i, none⟩) hc (fun e => hne (by simpa using e))

theorem cells3D {w : World} {C : Nat} {u0 u1 u2 : Value} {t : TypeId} (h : w.heap[C]? = some (.cells #[u0, u1, u2] t (0, 0))) :
    w.cell? ⟨C, 0, none⟩ = some u0 ∧ w.cell? ⟨C, 1, none⟩ = some u1 ∧ w.cell? ⟨C, 2, none⟩ = some u2 ∧ w.frozen? ⟨C, 1, none⟩ = false ∧ w.frozen? ⟨C, 2, none⟩ = false := by
  simp [World.cell?, World.frozen?, h]

theorem set3_1 {w : World} {C : Nat} {u0 u1 u2 u : Value} {t : TypeId} (h : w.heap[C]? = some (.cells #[u0, u1, u2] t (0, 0))) : (w.setCell ⟨C, 1, none⟩ u).heap[C]? = some (.cells #[u0, u, u2] t (0, 0)) := by
  obtain ⟨hlt, hk⟩ := Array.getElem?_eq_some_iff.1 h
  show (w.heap.modify C _)[C]? = _
  rw [Array.getElem?_eq_getElem (by rw [Array.size_modify]; exact hlt), Array.getElem_modify_self, hk]
  rfl
theorem set3_2 {w : World} {C : Nat} {u0 u1 u2 u : Value} {t : TypeId} (h : w.heap[C]? = some (.cells #[u0, u1, u2] t (0, 0))) : (w.setCell ⟨C, 2, none⟩ u).heap[C]? = some (.cells #[u0, u1, u] t (0, 0)) := by
  obtain ⟨hlt, hk⟩ := Array.getElem?_eq_some_iff.1 h
  show (w.heap.modify C _)[C]? = _
  rw [Array.getElem?_eq_getElem (by rw [Array.size_modify]; exact hlt), Array.getElem_modify_self, hk]
  rfl
theorem grown_set (w : World) (a : Addr) (v : Value) : w.grownBy (w.setCell a v) (some a.block) :=
  ⟨rfl, rfl, rfl, by simp [World.setCell], fun k _ hk => Below.heap_setCell _ _ _ k (fun e => hk (by rw [e]))⟩
theorem grown_drewN (w : World) (n : Nat) (row : Option Nat) : w.grownBy (w.drewN n) row := ⟨rfl, rfl, rfl, Nat.le_refl _, fun _ _ _ => rfl⟩

theorem cur_step {w : World} {C n k len cap : Nat} {a : Option Addr} {sd : Int} (hh : w.heap[C]? = some (.cells #[.slice a len cap, .int .i64 ((k : Nat) : Int), .int .u64 sd] 44 (0, 0))) (hk : k ≤ n) (hlc : len ≤ cap) (hl20 : len ≤ 1048576) (hby : Bytes w C a len) (m : Nat) (sd' : Int) :
    Cur (((w.drewN m).setCell ⟨C, 1, none⟩ (.int .i64 ((k : Int) + 1))).setCell ⟨C, 2, none⟩ (.int .u64 sd')) C (n + 1) ∧ w.grownBy (((w.drewN m).setCell ⟨C, 1, none⟩ (.int .i64 ((k : Int) + 1))).setCell ⟨C, 2, none⟩ (.int .u64 sd')) (some C) ∧
    Cur (((w.drewN m).setCell ⟨C, 2, none⟩ (.int .u64 sd')).setCell ⟨C, 1, none⟩ (.int .i64 ((k : Int) + 1))) C (n + 1) ∧ w.grownBy (((w.drewN m).setCell ⟨C, 2, none⟩ (.int .u64 sd')).setCell ⟨C, 1, none⟩ (.int .i64 ((k : Int) + 1))) (some C) := by
  have hh' : (w.drewN m).heap[C]? = some (.cells #[.slice a len cap, .int .i64 ((k : Nat) : Int), .int .u64 sd] 44 (0, 0)) := hh
  have g1 := grown_trans (grown_trans (grown_drewN w m (some C)) (grown_set (w.drewN m) ⟨C, 1, none⟩ (.int .i64 ((k : Int) + 1)))) (grown_set _ ⟨C, 2, none⟩ (.int .u64 sd'))
  have g2 := grown_trans (grown_trans (grown_drewN w m (some C)) (grown_set (w.drewN m) ⟨C, 2, none⟩ (.int .u64 sd'))) (grown_set _ ⟨C, 1, none⟩ (.int .i64 ((k : Int) + 1)))
  refine ⟨⟨a, len, cap, k + 1, sd', ?_, by omega, hlc, hl20, hby.kept g1⟩, g1, ⟨a, len, cap, k + 1, sd', ?_, by omega, hlc, hl20, hby.kept g2⟩, g2⟩
  · have := set3_2 (u := .int .u64 sd') (set3_1 (u := .int .i64 ((k : Int) + 1)) hh')
    rw [this]; rfl
  · have := set3_1 (u := .int .i64 ((k : Int) + 1)) (set3_2 (u := .int .u64 sd') hh')
    rw [this]; rfl

theorem low8 (X : Int) : ∃ x : Nat, wrap64 (bits .and .u64 (IntKind.u64.wrap X / 1099511627776) 255) = (x : Int) ∧ x ≤ 255 := by
  have h0 : IntKind.u64.wrap X = X % 18446744073709551616 := by
    simp [IntKind.wrap, IntKind.bits, IntKind.signed]
  obtain ⟨Y, hY⟩ : ∃ Y : Nat, IntKind.u64.wrap X / 1099511627776 = (Y : Int) ∧ Y < 18446744073709551616 := by
    refine ⟨(IntKind.u64.wrap X / 1099511627776).toNat, ?_, ?_⟩
    · rw [h0]; omega
    · rw [h0]; omega
  rw [hY.1]
  have h := bits_and_u64_nat Y 255 hY.2 (by decide)
  rw [show ((255 : Nat) : Int) = 255 from rfl] at h
  rw [h]
  refine ⟨Y &&& 255, ?_, Nat.and_le_right⟩
  have hle : Y &&& 255 ≤ 255 := Nat.and_le_right
  generalize Y &&& 255 = q at *
  unfold wrap64
  omega

theorem Cur.alloc {w : World} {C n : Nat} (h : Cur w C n) (o : Obj) : Cur (w.alloc o) C n := by
  obtain ⟨a, len, cap, k, sd, hh, hk, hlc, hl20, hby⟩ := h
  have hC := (Array.getElem?_eq_some_iff.1 hh).1
  refine ⟨a, len, cap, k, sd, by rw [Below.heap_alloc _ _ _ hC]; exact hh, hk, hlc, hl20, fun i hi => ?_⟩
  obtain ⟨b, o', z, ha, hlt, h0, h255, hc⟩ := hby i hi
  exact ⟨b, o', z, ha, hlt, h0, h255, by rw [World.cell?_alloc_past _ _ _ (by omega)]; exact hc⟩
/-- A step that writes beyond C leaves the reader as it was. -/
theorem Cur.kept {w w' : World} {C n : Nat} {row : Option Nat} (h : Cur w C n) (hg : w.grownBy w' row) (hr : ∀ r, row = some r → C < r) : Cur w' C n := by
  obtain ⟨a, len, cap, k, sd, hh, hk, hlc, hl20, hby⟩ := h
  have hC := (Array.getElem?_eq_some_iff.1 hh).1
  refine ⟨a, len, cap, k, sd, by rw [hg.block C hC (fun e => by have := hr C e.symm; omega)]; exact hh, hk, hlc, hl20, fun i hi => ?_⟩
  obtain ⟨b, o', z, ha, hlt, h0, h255, hc⟩ := hby i hi
  exact ⟨b, o', z, ha, hlt, h0, h255, hg.cell (a := ⟨b, o' + i, none⟩) hc (fun e => by have h9 : C < b := hr b e.symm; omega)⟩
theorem Cur.lt {w : World} {C n : Nat} (h : Cur w C n) : C < w.heap.size := by
  obtain ⟨a, len, cap, k, sd, hh, _⟩ := h
  exact (Array.getElem?_eq_some_iff.1 hh).1
theorem Cur.mono {w : World} {C n n' : Nat} (h : Cur w C n) (hn : n ≤ n') : Cur w C n' := by
  obtain ⟨a, len, cap, k, sd, hh, hk, r⟩ := h
  exact ⟨a, len, cap, k, sd, hh, by omega, r⟩

set_option maxHeartbeats 1000000 in
set_option maxRecDepth 100000 in
theorem next_any (C n : Nat) (w : World) (h : Cur w C n) (hn : n ≤ 1099511627776) :
    Calls Tryz.prog 41 #[.pointer (some ⟨C, 0, none⟩)] w fun e w' => ∃ x : Nat, e = .returned (.int .i64 (x : Int)) ∧ x ≤ 255 ∧ Cur w' C (n + 1) ∧ w.grownBy w' (some C) := by
  obtain ⟨a, len, cap, k, sd, hh, hk, hlc, hl20, hby⟩ := h
  obtain ⟨c0, c1, c2, f1, f2⟩ := cells3D hh
  by_cases hlt : k < len
  · obtain ⟨b, o, z, rfl, hbl, h0, h255, hcz⟩ := hby k hlt
    have HB : Hid (Bytes w C (some ⟨b, o, none⟩) len) := hby
    have HH : Hid (w.heap[C]? = some (.cells #[.slice (some ⟨b, o, none⟩) len cap, .int .i64 ((k : Nat) : Int), .int .u64 sd] 44 (0, 0))) := hh
    clear hby hh
    go_enter Tryz.func41, Tryz.ntmps41
    go_wp2
    go_quiet (fail)
    revert nq
    intro m1
    go_wp2
    go_quiet (fail)
    go_wp2
    go_ret
    have hst := cur_step HH.out hk hlc hl20 HB.out (m1 + nq) (IntKind.u64.wrap (IntKind.u64.wrap (IntKind.u64.wrap (sd * 6364136223846793005) + z) + 1442695040888963407))
    exact ⟨z.toNat, ret_int (by omega), by omega, hst.1, hst.2.1⟩
  · have HB : Hid (Bytes w C a len) := hby
    have HH : Hid (w.heap[C]? = some (.cells #[.slice a len cap, .int .i64 ((k : Nat) : Int), .int .u64 sd] 44 (0, 0))) := hh
    clear hby hh
    go_enter Tryz.func41, Tryz.ntmps41
    go_wp2
    go_quiet (fail)
    go_wp2
    go_ret
    have hst := cur_step HH.out hk hlc hl20 HB.out nq (IntKind.u64.wrap (IntKind.u64.wrap (sd * 6364136223846793005) + 1442695040888963407))
    obtain ⟨x, hx, hx255⟩ := low8 (IntKind.u64.wrap (sd * 6364136223846793005) + 1442695040888963407)
    exact ⟨x, ret_int hx, hx255, hst.2.2.1, hst.2.2.2⟩

set_option maxHeartbeats 1000000 in
set_option maxRecDepth 100000 in
theorem pick_any (C n N : Nat) (w : World) (h : Cur w C n) (hn : n ≤ 1000000000) (h2 : 2 ≤ N) (hN : N ≤ 100000) :
    Calls Tryz.prog 25 #[.pointer (some ⟨C, 0, none⟩), .int .i64 (N : Int)] w fun e w' => ∃ x : Nat, e = .returned (.int .i64 (x : Int)) ∧ x < N ∧ Cur w' C (n + 2) ∧ w.grownBy w' (some C) := by
  by_cases h200 : 200 < N
  · go_enter Tryz.func25, Tryz.ntmps25
    go_wp2_with fail
    refine (next_any C n w h (by omega)).mono ?_
    rintro e w1 ⟨x1, rfl, hx1, hc1, hg1⟩
    go_wp2_with fail
    refine (next_any C (n + 1) w1 hc1 (by omega)).mono ?_
    rintro e w2 ⟨x2, rfl, hx2, hc2, hg2⟩
    go_wp2
    go_ret
    exact ⟨(x1 * 256 + x2) % N, ret_int (by simp), Nat.mod_lt _ (by omega), hc2, grown_trans hg1 hg2⟩
  · go_enter Tryz.func25, Tryz.ntmps25
    go_wp2_with fail
    refine (next_any C n w h (by omega)).mono ?_
    rintro e w1 ⟨x1, rfl, hx1, hc1, hg1⟩
    go_wp2
    go_ret
    exact ⟨x1 % N, ret_int (by simp), Nat.mod_lt _ (by omega), hc1.mono (by omega), hg1⟩

end Go.Proofs.YtimgafblpmjajaaGreat
namespace Go.Proofs.YtimgafblpmjajaaGreat

open Go.RowKit

/-- What drawing a text leaves: a text of at most N bytes; the reader has read at most n; nothing else has turned. -/
def Drew (C n N : Nat) (w : World) (e : Ending) (w' : World) : Prop := ∃ q : ByteArray, e = .returned (.string q) ∧ q.size ≤ N ∧ Cur w' C n ∧ w.grownBy w' (some C)

theorem grown_alloc_some (w : World) (o : Obj) (C : Nat) : w.grownBy (w.alloc o) (some C) := World.grownBy_alloc w o (some C)

set_option maxHeartbeats 1000000 in
set_option maxRecDepth 100000 in
theorem part_any (C n : Nat) (w : World) (h : Cur w C n) (hn : n ≤ 100000000) :
    Calls Tryz.prog 28 #[.pointer (some ⟨C, 0, none⟩)] w (Drew C (n + 2) 3 w) := by
  have hC := h.lt
  unfold Drew
  go_enter Tryz.func28, Tryz.ntmps28
  go_wp2_with fail
  refine (pick_any C n 6 _ (h.alloc _) (by omega) (by decide) (by decide)).mono ?_
  rintro e w1 ⟨x, rfl, hx, hc1, hg1⟩
  have hcell : ∃ q : ByteArray, q.size ≤ 3 ∧ w1.cell? ⟨w.heap.size, x, none⟩ = some (.string q) := by
    have hne : w.heap.size ≠ C := by omega
    have hk : ∀ i u, (w.alloc (.cells #[.string ⟨#[97]⟩, .string ⟨#[98]⟩, .string ⟨#[99]⟩, .string ⟨#[108, 105, 98]⟩, .string ⟨#[120, 45, 49]⟩, .string ⟨#[95]⟩] 9)).cell? ⟨w.heap.size, i, none⟩ = some u → w1.cell? ⟨w.heap.size, i, none⟩ = some u := fun i u hu => hg1.cell hu (fun e => hne (by simpa using e))
    match x, hx with
    | 0, _ => exact ⟨⟨#[97]⟩, by decide, hk 0 _ (by simp)⟩
    | 1, _ => exact ⟨⟨#[98]⟩, by decide, hk 1 _ (by simp)⟩
    | 2, _ => exact ⟨⟨#[99]⟩, by decide, hk 2 _ (by simp)⟩
    | 3, _ => exact ⟨⟨#[108, 105, 98]⟩, by decide, hk 3 _ (by simp)⟩
    | 4, _ => exact ⟨⟨#[120, 45, 49]⟩, by decide, hk 4 _ (by simp)⟩
    | 5, _ => exact ⟨⟨#[95]⟩, by decide, hk 5 _ (by simp)⟩
  obtain ⟨q, hq, hcq⟩ := hcell
  go_wp2
  go_ret
  exact ⟨q, rfl, hq, hc1, grown_trans (grown_alloc_some w _ C) hg1⟩

set_option maxHeartbeats 1000000 in
set_option maxRecDepth 100000 in
theorem name_any (C n : Nat) (w : World) (h : Cur w C n) (hn : n ≤ 10000000) :
    Calls Tryz.prog 26 #[.pointer (some ⟨C, 0, none⟩)] w (Drew C (n + 10) 11 w) := by
  unfold Drew
  go_enter Tryz.func26, Tryz.ntmps26
  go_wp2_with fail
  refine (part_any C n _ h (by omega)).mono ?_
  rintro e w1 ⟨q, rfl, hq, hc1, hg1⟩
  go_wp2_with fail
  refine (pick_any C (n + 2) 3 _ hc1 (by omega) (by decide) (by decide)).mono ?_
  rintro e w2 ⟨x, rfl, hx, hc2, hg2⟩
  have hg12 := grown_trans hg1 hg2
  clear hg1 hg2 hc1
  go_wp2
  go_loopw [3, 4] (fun o i wr => ∃ (j : Nat) (b : ByteArray), j ≤ 2 ∧ i = .int .i64 j ∧ o = .string b ∧ b.size + 4 * j ≤ 11 ∧ Cur wr C (n + 4 + 2 * (2 - j)) ∧ w.grownBy wr (some C)) (fun _ i _ => (intOf i).toNat)
  case atStart => exact ⟨x, q, by omega, rfl, rfl, by omega, hc2.mono (by omega), hg12⟩
  case round =>
    obtain ⟨j, b, hj, rfl, rfl, hb, hc, hg⟩ := hrel
    by_cases hpos : 0 < j
    · have hj1 : (j : Int) ≤ 2 := by omega
      go_wp2_with (go_at_call 28; refine (part_any C _ _ hc (by omega)).mono ?_; rintro e w3 ⟨q3, rfl, hq3, hc3, hg3⟩; have hs3 : (⟨#[47]⟩ ++ q3 : ByteArray).size = 1 + q3.size := ByteArray.size_append; have hs4 : (b ++ (⟨#[47]⟩ ++ q3) : ByteArray).size = b.size + (⟨#[47]⟩ ++ q3 : ByteArray).size := ByteArray.size_append)
      go_roundw
      case rel => exact ⟨j - 1, _, by omega, by go_num, rfl, by omega, hc3.mono (by omega), grown_trans hg hg3⟩
      case measure => simp [intOf]; omega
    · go_wp2
      go_ret
      exact ⟨b, rfl, by omega, hc.mono (by omega), hg⟩

/-- A literal list laid ahead of a draw. -/
theorem lit_cell {w3 w4 : World} {C : Nat} {cs : Array Value} {t : TypeId} (hC : C < w3.heap.size) (hg : (w3.alloc (.cells cs t)).grownBy w4 (some C)) (z : Nat) (u : Value) (hz : cs[z]? = some u) : w4.cell? ⟨w3.heap.size, z, none⟩ = some u := by
  have hne : w3.heap.size ≠ C := by omega
  refine hg.cell (a := ⟨w3.heap.size, z, none⟩) ?_ (fun e => hne (by simpa using e))
  rw [World.cell?_alloc_at _ _ _ _ rfl]
  exact hz

/-- For a loop's measure. -/
def strLen : Value → Nat
  | .string b => b.size
  | _ => 0

theorem app_size (a b : ByteArray) : (a ++ b).size = a.size + b.size := ByteArray.size_append

set_option maxHeartbeats 2000000 in
set_option maxRecDepth 100000 in
theorem ask_any (C n : Nat) (w : World) (h : Cur w C n) (hn : n ≤ 1000000) :
    Calls Tryz.prog 29 #[.pointer (some ⟨C, 0, none⟩), .slice none 0 0] w (Drew C (n + 16) 20 w) := by
  unfold Drew
  go_enter Tryz.func29, Tryz.ntmps29
  go_wp2_with fail
  refine (name_any C n _ h (by omega)).mono ?_
  rintro e w1 ⟨q, rfl, hq, hc1, hg1⟩
  go_wp2_with fail
  refine (pick_any C (n + 10) 9 _ hc1 (by omega) (by decide) (by decide)).mono ?_
  rintro e w2 ⟨x, rfl, hx, hc2, hg2⟩
  have hg12 := grown_trans hg1 hg2
  clear hg1 hg2 hc1
  have hC := hc2.lt
  match x, hx with
  | 0, _ =>
    go_wp2_with (go_at_call 28; refine (part_any C _ _ hc2 (by omega)).mono ?_; rintro e w3 ⟨q3, rfl, hq3, hc3, hg3⟩; have hs3 : (⟨#[46, 47]⟩ ++ q3 : ByteArray).size = 2 + q3.size := app_size _ _)
    go_ret
    exact ⟨_, rfl, by rw [hs3]; omega, hc3.mono (by omega), grown_trans hg12 hg3⟩
  | 1, _ =>
    go_wp2_with (go_at_call 28; refine (part_any C _ _ hc2 (by omega)).mono ?_; rintro e w3 ⟨q3, rfl, hq3, hc3, hg3⟩; have hs3 : (⟨#[46, 46, 47]⟩ ++ q3 : ByteArray).size = 3 + q3.size := app_size _ _)
    go_ret
    exact ⟨_, rfl, by rw [hs3]; omega, hc3.mono (by omega), grown_trans hg12 hg3⟩
  | 2, _ =>
    go_wp2_with (go_at_call 28; refine (part_any C _ _ hc2 (by omega)).mono ?_; rintro e w3 ⟨q3, rfl, hq3, hc3, hg3⟩)
    go_ret
    exact ⟨q3, rfl, by omega, hc3.mono (by omega), grown_trans hg12 hg3⟩
  | 3, _ =>
    have hs3 : (⟨#[46, 47, 46, 46, 47]⟩ ++ q : ByteArray).size = 5 + q.size := app_size _ _
    go_wp2
    go_ret
    exact ⟨_, rfl, by rw [hs3]; omega, hc2.mono (by omega), hg12⟩
  | 4, _ =>
    go_wp2_with fail
    refine (pick_any C (n + 12) 3 _ hc2 (by omega) (by decide) (by decide)).mono ?_
    rintro e w3 ⟨y, rfl, hy, hc3, hg3⟩
    by_cases hy0 : y = 0
    · subst hy0
      have hC3 := hc3.lt
      go_wp2_with fail
      refine (pick_any C (n + 14) 12 _ (hc3.alloc _) (by omega) (by decide) (by decide)).mono ?_
      rintro e w4 ⟨z, rfl, hz, hc4, hg4⟩
      have hcell : ∃ t : ByteArray, t.size ≤ 10 ∧ w4.cell? ⟨w3.heap.size, z, none⟩ = some (.string t) := by
        have hk := lit_cell hC3 hg4 z
        match z, hz with
        | 0, _ => exact ⟨_, by decide, hk _ rfl⟩
        | 1, _ => exact ⟨_, by decide, hk _ rfl⟩
        | 2, _ => exact ⟨_, by decide, hk _ rfl⟩
        | 3, _ => exact ⟨_, by decide, hk _ rfl⟩
        | 4, _ => exact ⟨_, by decide, hk _ rfl⟩
        | 5, _ => exact ⟨_, by decide, hk _ rfl⟩
        | 6, _ => exact ⟨_, by decide, hk _ rfl⟩
        | 7, _ => exact ⟨_, by decide, hk _ rfl⟩
        | 8, _ => exact ⟨_, by decide, hk _ rfl⟩
        | 9, _ => exact ⟨_, by decide, hk _ rfl⟩
        | 10, _ => exact ⟨_, by decide, hk _ rfl⟩
        | 11, _ => exact ⟨_, by decide, hk _ rfl⟩
      obtain ⟨t, htz, hct⟩ := hcell
      go_wp2
      go_ret
      exact ⟨t, rfl, by omega, hc4.mono (by omega), grown_trans hg12 (grown_trans hg3 (grown_trans (grown_alloc_some w3 _ C) hg4))⟩
    · have hyb : ((y : Int) == 0) = false := by rw [beq_eq_false_iff_ne]; omega
      go_wp2
      go_ret
      exact ⟨q, rfl, by omega, hc3.mono (by omega), grown_trans hg12 hg3⟩
  | x + 5, hx =>
    have b0 : (((x + 5 : Nat) : Int) == 0) = false := by rw [beq_eq_false_iff_ne]; omega
    have b1 : (((x + 5 : Nat) : Int) == 1) = false := by rw [beq_eq_false_iff_ne]; omega
    have b2 : (((x + 5 : Nat) : Int) == 2) = false := by rw [beq_eq_false_iff_ne]; omega
    have b3 : (((x + 5 : Nat) : Int) == 3) = false := by rw [beq_eq_false_iff_ne]; omega
    have b4 : (((x + 5 : Nat) : Int) == 4) = false := by rw [beq_eq_false_iff_ne]; omega
    go_wp2
    go_ret
    exact ⟨q, rfl, by omega, hc2.mono (by omega), hg12⟩

end Go.Proofs.YtimgafblpmjajaaGreat
namespace Go.Proofs.YtimgafblpmjajaaGreat
open Go.RowKit

/-- A step of the reader leaves a row beyond it as it was. -/
theorem row_draw {w w' : World} {C : Nat} {t : TypeId} {sz : Nat} {v : Value} {n : Nat} {xs : List Value} (h : w.ownsRow (C + 1) t sz v n xs) (hg : w.grownBy w' (some C)) : w'.ownsRow (C + 1) t sz v n xs := by
  refine h.kept hg ?_
  rcases hv : v.ownBlock with _ | b
  · exact .inl rfl
  · refine .inr (fun e => ?_)
    have := (h.lt b hv).1
    cases e; omega

set_option maxHeartbeats 1000000 in
set_option maxRecDepth 100000 in
theorem pick1_any (C n N : Nat) (w : World) (h : Cur w C n) (hn : n ≤ 1000000000) (h1 : 1 ≤ N) (hN : N ≤ 100000) :
    Calls Tryz.prog 25 #[.pointer (some ⟨C, 0, none⟩), .int .i64 (N : Int)] w fun e w' => ∃ x : Nat, e = .returned (.int .i64 (x : Int)) ∧ x < N ∧ Cur w' C (n + 2) ∧ w.grownBy w' (some C) := by
  by_cases h2 : 2 ≤ N
  · exact pick_any C n N w h hn h2 hN
  · obtain rfl : N = 1 := by omega
    go_enter Tryz.func25, Tryz.ntmps25
    go_wp2
    go_ret
    exact ⟨0, rfl, by omega, h.mono (by omega), grown_drewN w 0 _⟩

set_option maxHeartbeats 4000000 in
set_option maxRecDepth 100000 in
theorem askN_any (C n : Nat) (v : Value) (L : List (List UInt8)) (w : World) (h : Cur w C n) (hn : n ≤ 1000000) (hv : w.ownsRow (C + 1) 9 1 v L.length (L.map strV)) (hL : ∀ l ∈ L, l.length ≤ 11) (hLl : L.length ≤ 1000) :
    Calls Tryz.prog 29 #[.pointer (some ⟨C, 0, none⟩), v] w (Drew C (n + 20) 20 w) := by
  unfold Drew
  have HV : Hid (w.ownsRow (C + 1) 9 1 v L.length (L.map strV)) := hv
  have HLL : Hid (∀ l ∈ L, l.length ≤ 11) := hL
  obtain ⟨a, cap, rfl, hcap, hmax, -⟩ := row_shape hv
  clear hv hL
  by_cases hL0 : 0 < L.length
  · have hL0' : (0 : Int) < (L.length : Int) := by omega
    go_enter Tryz.func29, Tryz.ntmps29
    go_wp2_with fail
    refine (name_any C n _ h (by omega)).mono ?_
    rintro e w1 ⟨q1, rfl, hq1, hc1, hg1⟩
    go_wp2_with fail
    refine (pick_any C (n + 10) 5 _ hc1 (by omega) (by decide) (by decide)).mono ?_
    rintro e w2 ⟨u, rfl, hu, hcu, hgu⟩
    have hg1u := grown_trans hg1 hgu
    clear hg1 hgu hc1
    by_cases hu0 : 0 < u
    · have hu0' : (0 : Int) < (u : Int) := by omega
      go_wp2_with fail
      refine (pick1_any C (n + 12) L.length _ hcu (by omega) (by omega) (by omega)).mono ?_
      rintro e w3 ⟨z, rfl, hz, hcz, hgz⟩
      have hg3 := grown_trans hg1u hgz
      have hrow := row_draw HV.out hg3
      obtain ⟨a', cap', hv', _, _, hcell⟩ := row_shape hrow
      cases hv'
      obtain ⟨g, rfl, hgC, hgs, hgc⟩ := hcell z hz
      obtain ⟨q, hqv⟩ : ∃ q : ByteArray, q.data.toList = L[z] := ⟨⟨L[z].toArray⟩, by simp⟩
      have hq : q.size ≤ 11 := by
        have := HLL.out L[z] (List.getElem_mem hz)
        rw [← hqv] at this; simpa using this
      rw [← hqv, strV_data] at hgc
      have hzi : (z : Int) < (L.length : Int) := by omega
      clear hcell hrow hg1u hgz hcu hqv
      go_wp2_with fail
      refine (pick_any C (n + 14) 9 _ hcz (by omega) (by decide) (by decide)).mono ?_
      rintro e w4 ⟨x, rfl, hx, hc2, hg4⟩
      have hg12 := grown_trans hg3 hg4
      clear hg3 hg4 hcz
      have hC := hc2.lt
      match x, hx with
      | 0, _ =>
        go_wp2_with (go_at_call 28; refine (part_any C _ _ hc2 (by omega)).mono ?_; rintro e w3 ⟨q3, rfl, hq3, hc3, hg3⟩; have hs3 : (⟨#[46, 47]⟩ ++ q3 : ByteArray).size = 2 + q3.size := app_size _ _)
        go_ret
        exact ⟨_, rfl, by rw [hs3]; omega, hc3.mono (by omega), grown_trans hg12 hg3⟩
      | 1, _ =>
        go_wp2_with (go_at_call 28; refine (part_any C _ _ hc2 (by omega)).mono ?_; rintro e w3 ⟨q3, rfl, hq3, hc3, hg3⟩; have hs3 : (⟨#[46, 46, 47]⟩ ++ q3 : ByteArray).size = 3 + q3.size := app_size _ _)
        go_ret
        exact ⟨_, rfl, by rw [hs3]; omega, hc3.mono (by omega), grown_trans hg12 hg3⟩
      | 2, _ =>
        go_wp2_with (go_at_call 28; refine (part_any C _ _ hc2 (by omega)).mono ?_; rintro e w3 ⟨q3, rfl, hq3, hc3, hg3⟩)
        go_ret
        exact ⟨q3, rfl, by omega, hc3.mono (by omega), grown_trans hg12 hg3⟩
      | 3, _ =>
        have hs3 : (⟨#[46, 47, 46, 46, 47]⟩ ++ q : ByteArray).size = 5 + q.size := app_size _ _
        go_wp2
        go_ret
        exact ⟨_, rfl, by rw [hs3]; omega, hc2.mono (by omega), hg12⟩
      | 4, _ =>
        go_wp2_with fail
        refine (pick_any C (n + 16) 3 _ hc2 (by omega) (by decide) (by decide)).mono ?_
        rintro e w3 ⟨y, rfl, hy, hc3, hg3⟩
        by_cases hy0 : y = 0
        · subst hy0
          have hC3 := hc3.lt
          go_wp2_with fail
          refine (pick_any C (n + 18) 12 _ (hc3.alloc _) (by omega) (by decide) (by decide)).mono ?_
          rintro e w4 ⟨z, rfl, hz, hc4, hg4⟩
          have hcell : ∃ t : ByteArray, t.size ≤ 10 ∧ w4.cell? ⟨w3.heap.size, z, none⟩ = some (.string t) := by
            have hk := lit_cell hC3 hg4 z
            match z, hz with
            | 0, _ => exact ⟨_, by decide, hk _ rfl⟩
            | 1, _ => exact ⟨_, by decide, hk _ rfl⟩
            | 2, _ => exact ⟨_, by decide, hk _ rfl⟩
            | 3, _ => exact ⟨_, by decide, hk _ rfl⟩
            | 4, _ => exact ⟨_, by decide, hk _ rfl⟩
            | 5, _ => exact ⟨_, by decide, hk _ rfl⟩
            | 6, _ => exact ⟨_, by decide, hk _ rfl⟩
            | 7, _ => exact ⟨_, by decide, hk _ rfl⟩
            | 8, _ => exact ⟨_, by decide, hk _ rfl⟩
            | 9, _ => exact ⟨_, by decide, hk _ rfl⟩
            | 10, _ => exact ⟨_, by decide, hk _ rfl⟩
            | 11, _ => exact ⟨_, by decide, hk _ rfl⟩
          obtain ⟨t, htz, hct⟩ := hcell
          go_wp2
          go_ret
          exact ⟨t, rfl, by omega, hc4.mono (by omega), grown_trans hg12 (grown_trans hg3 (grown_trans (grown_alloc_some w3 _ C) hg4))⟩
        · have hyb : ((y : Int) == 0) = false := by rw [beq_eq_false_iff_ne]; omega
          go_wp2
          go_ret
          exact ⟨q, rfl, by omega, hc3.mono (by omega), grown_trans hg12 hg3⟩
      | x + 5, hx =>
        have b0 : (((x + 5 : Nat) : Int) == 0) = false := by rw [beq_eq_false_iff_ne]; omega
        have b1 : (((x + 5 : Nat) : Int) == 1) = false := by rw [beq_eq_false_iff_ne]; omega
        have b2 : (((x + 5 : Nat) : Int) == 2) = false := by rw [beq_eq_false_iff_ne]; omega
        have b3 : (((x + 5 : Nat) : Int) == 3) = false := by rw [beq_eq_false_iff_ne]; omega
        have b4 : (((x + 5 : Nat) : Int) == 4) = false := by rw [beq_eq_false_iff_ne]; omega
        go_wp2
        go_ret
        exact ⟨q, rfl, by omega, hc2.mono (by omega), hg12⟩

    · obtain rfl : u = 0 := by omega
      obtain ⟨q, rfl⟩ : ∃ q, q = q1 := ⟨_, rfl⟩
      have hq := hq1
      go_wp2_with fail
      refine (pick_any C (n + 14) 9 _ (hcu.mono (by omega)) (by omega) (by decide) (by decide)).mono ?_
      rintro e w4 ⟨x, rfl, hx, hc2, hg4⟩
      have hg12 := grown_trans hg1u hg4
      clear hg1u hg4 hcu
      have hC := hc2.lt
      match x, hx with
      | 0, _ =>
        go_wp2_with (go_at_call 28; refine (part_any C _ _ hc2 (by omega)).mono ?_; rintro e w3 ⟨q3, rfl, hq3, hc3, hg3⟩; have hs3 : (⟨#[46, 47]⟩ ++ q3 : ByteArray).size = 2 + q3.size := app_size _ _)
        go_ret
        exact ⟨_, rfl, by rw [hs3]; omega, hc3.mono (by omega), grown_trans hg12 hg3⟩
      | 1, _ =>
        go_wp2_with (go_at_call 28; refine (part_any C _ _ hc2 (by omega)).mono ?_; rintro e w3 ⟨q3, rfl, hq3, hc3, hg3⟩; have hs3 : (⟨#[46, 46, 47]⟩ ++ q3 : ByteArray).size = 3 + q3.size := app_size _ _)
        go_ret
        exact ⟨_, rfl, by rw [hs3]; omega, hc3.mono (by omega), grown_trans hg12 hg3⟩
      | 2, _ =>
        go_wp2_with (go_at_call 28; refine (part_any C _ _ hc2 (by omega)).mono ?_; rintro e w3 ⟨q3, rfl, hq3, hc3, hg3⟩)
        go_ret
        exact ⟨q3, rfl, by omega, hc3.mono (by omega), grown_trans hg12 hg3⟩
      | 3, _ =>
        have hs3 : (⟨#[46, 47, 46, 46, 47]⟩ ++ q : ByteArray).size = 5 + q.size := app_size _ _
        go_wp2
        go_ret
        exact ⟨_, rfl, by rw [hs3]; omega, hc2.mono (by omega), hg12⟩
      | 4, _ =>
        go_wp2_with fail
        refine (pick_any C (n + 16) 3 _ hc2 (by omega) (by decide) (by decide)).mono ?_
        rintro e w3 ⟨y, rfl, hy, hc3, hg3⟩
        by_cases hy0 : y = 0
        · subst hy0
          have hC3 := hc3.lt
          go_wp2_with fail
          refine (pick_any C (n + 18) 12 _ (hc3.alloc _) (by omega) (by decide) (by decide)).mono ?_
          rintro e w4 ⟨z, rfl, hz, hc4, hg4⟩
          have hcell : ∃ t : ByteArray, t.size ≤ 10 ∧ w4.cell? ⟨w3.heap.size, z, none⟩ = some (.string t) := by
            have hk := lit_cell hC3 hg4 z
            match z, hz with
            | 0, _ => exact ⟨_, by decide, hk _ rfl⟩
            | 1, _ => exact ⟨_, by decide, hk _ rfl⟩
            | 2, _ => exact ⟨_, by decide, hk _ rfl⟩
            | 3, _ => exact ⟨_, by decide, hk _ rfl⟩
            | 4, _ => exact ⟨_, by decide, hk _ rfl⟩
            | 5, _ => exact ⟨_, by decide, hk _ rfl⟩
            | 6, _ => exact ⟨_, by decide, hk _ rfl⟩
            | 7, _ => exact ⟨_, by decide, hk _ rfl⟩
            | 8, _ => exact ⟨_, by decide, hk _ rfl⟩
            | 9, _ => exact ⟨_, by decide, hk _ rfl⟩
            | 10, _ => exact ⟨_, by decide, hk _ rfl⟩
            | 11, _ => exact ⟨_, by decide, hk _ rfl⟩
          obtain ⟨t, htz, hct⟩ := hcell
          go_wp2
          go_ret
          exact ⟨t, rfl, by omega, hc4.mono (by omega), grown_trans hg12 (grown_trans hg3 (grown_trans (grown_alloc_some w3 _ C) hg4))⟩
        · have hyb : ((y : Int) == 0) = false := by rw [beq_eq_false_iff_ne]; omega
          go_wp2
          go_ret
          exact ⟨q, rfl, by omega, hc3.mono (by omega), grown_trans hg12 hg3⟩
      | x + 5, hx =>
        have b0 : (((x + 5 : Nat) : Int) == 0) = false := by rw [beq_eq_false_iff_ne]; omega
        have b1 : (((x + 5 : Nat) : Int) == 1) = false := by rw [beq_eq_false_iff_ne]; omega
        have b2 : (((x + 5 : Nat) : Int) == 2) = false := by rw [beq_eq_false_iff_ne]; omega
        have b3 : (((x + 5 : Nat) : Int) == 3) = false := by rw [beq_eq_false_iff_ne]; omega
        have b4 : (((x + 5 : Nat) : Int) == 4) = false := by rw [beq_eq_false_iff_ne]; omega
        go_wp2
        go_ret
        exact ⟨q, rfl, by omega, hc2.mono (by omega), hg12⟩

  · have hL0' : ¬ (0 : Int) < (L.length : Int) := by omega
    have hL0d : decide ((0 : Int) < (L.length : Int)) = false := by simpa using hL0'
    go_enter Tryz.func29, Tryz.ntmps29
    go_wp2_with fail
    refine (name_any C n _ h (by omega)).mono ?_
    rintro e w1 ⟨q, rfl, hq, hc1, hg1⟩
    go_wp2_with fail
    refine (pick_any C (n + 14) 9 _ (hc1.mono (by omega)) (by omega) (by decide) (by decide)).mono ?_
    rintro e w2 ⟨x, rfl, hx, hc2, hg2⟩
    have hg12 := grown_trans hg1 hg2
    clear hg1 hg2 hc1
    have hC := hc2.lt
    match x, hx with
    | 0, _ =>
      go_wp2_with (go_at_call 28; refine (part_any C _ _ hc2 (by omega)).mono ?_; rintro e w3 ⟨q3, rfl, hq3, hc3, hg3⟩; have hs3 : (⟨#[46, 47]⟩ ++ q3 : ByteArray).size = 2 + q3.size := app_size _ _)
      go_ret
      exact ⟨_, rfl, by rw [hs3]; omega, hc3.mono (by omega), grown_trans hg12 hg3⟩
    | 1, _ =>
      go_wp2_with (go_at_call 28; refine (part_any C _ _ hc2 (by omega)).mono ?_; rintro e w3 ⟨q3, rfl, hq3, hc3, hg3⟩; have hs3 : (⟨#[46, 46, 47]⟩ ++ q3 : ByteArray).size = 3 + q3.size := app_size _ _)
      go_ret
      exact ⟨_, rfl, by rw [hs3]; omega, hc3.mono (by omega), grown_trans hg12 hg3⟩
    | 2, _ =>
      go_wp2_with (go_at_call 28; refine (part_any C _ _ hc2 (by omega)).mono ?_; rintro e w3 ⟨q3, rfl, hq3, hc3, hg3⟩)
      go_ret
      exact ⟨q3, rfl, by omega, hc3.mono (by omega), grown_trans hg12 hg3⟩
    | 3, _ =>
      have hs3 : (⟨#[46, 47, 46, 46, 47]⟩ ++ q : ByteArray).size = 5 + q.size := app_size _ _
      go_wp2
      go_ret
      exact ⟨_, rfl, by rw [hs3]; omega, hc2.mono (by omega), hg12⟩
    | 4, _ =>
      go_wp2_with fail
      refine (pick_any C (n + 16) 3 _ hc2 (by omega) (by decide) (by decide)).mono ?_
      rintro e w3 ⟨y, rfl, hy, hc3, hg3⟩
      by_cases hy0 : y = 0
      · subst hy0
        have hC3 := hc3.lt
        go_wp2_with fail
        refine (pick_any C (n + 18) 12 _ (hc3.alloc _) (by omega) (by decide) (by decide)).mono ?_
        rintro e w4 ⟨z, rfl, hz, hc4, hg4⟩
        have hcell : ∃ t : ByteArray, t.size ≤ 10 ∧ w4.cell? ⟨w3.heap.size, z, none⟩ = some (.string t) := by
          have hk := lit_cell hC3 hg4 z
          match z, hz with
          | 0, _ => exact ⟨_, by decide, hk _ rfl⟩
          | 1, _ => exact ⟨_, by decide, hk _ rfl⟩
          | 2, _ => exact ⟨_, by decide, hk _ rfl⟩
          | 3, _ => exact ⟨_, by decide, hk _ rfl⟩
          | 4, _ => exact ⟨_, by decide, hk _ rfl⟩
          | 5, _ => exact ⟨_, by decide, hk _ rfl⟩
          | 6, _ => exact ⟨_, by decide, hk _ rfl⟩
          | 7, _ => exact ⟨_, by decide, hk _ rfl⟩
          | 8, _ => exact ⟨_, by decide, hk _ rfl⟩
          | 9, _ => exact ⟨_, by decide, hk _ rfl⟩
          | 10, _ => exact ⟨_, by decide, hk _ rfl⟩
          | 11, _ => exact ⟨_, by decide, hk _ rfl⟩
        obtain ⟨t, htz, hct⟩ := hcell
        go_wp2
        go_ret
        exact ⟨t, rfl, by omega, hc4.mono (by omega), grown_trans hg12 (grown_trans hg3 (grown_trans (grown_alloc_some w3 _ C) hg4))⟩
      · have hyb : ((y : Int) == 0) = false := by rw [beq_eq_false_iff_ne]; omega
        go_wp2
        go_ret
        exact ⟨q, rfl, by omega, hc3.mono (by omega), grown_trans hg12 hg3⟩
    | x + 5, hx =>
      have b0 : (((x + 5 : Nat) : Int) == 0) = false := by rw [beq_eq_false_iff_ne]; omega
      have b1 : (((x + 5 : Nat) : Int) == 1) = false := by rw [beq_eq_false_iff_ne]; omega
      have b2 : (((x + 5 : Nat) : Int) == 2) = false := by rw [beq_eq_false_iff_ne]; omega
      have b3 : (((x + 5 : Nat) : Int) == 3) = false := by rw [beq_eq_false_iff_ne]; omega
      have b4 : (((x + 5 : Nat) : Int) == 4) = false := by rw [beq_eq_false_iff_ne]; omega
      go_wp2
      go_ret
      exact ⟨q, rfl, by omega, hc2.mono (by omega), hg12⟩

end Go.Proofs.YtimgafblpmjajaaGreat
namespace Go.Proofs.YtimgafblpmjajaaGreat
open Go.RowKit

theorem grown_drewD (w : World) (row : Option Nat) : w.grownBy w.drew row := ⟨rfl, rfl, rfl, Nat.le_refl _, fun _ _ _ => rfl⟩
/-- The names of modules that lie in a row. -/
def NmX (M : List Md) (X : List Value) : Prop := ∀ j (hj : j < M.length), X[j * 2]? = some (strV M[j].name)
/-- The row's name at a place, read behind a draw. -/
theorem nm_cell {w w' : World} {C : Nat} {a : Option Addr} {c : Nat} {M : List Md} {X : List Value} (h : w.ownsRow (C + 1) 39 2 (.slice a M.length c) M.length X) (hN : NmX M X) (hg : w.grownBy w' (some C)) {z : Nat} (hz : z < M.length) :
    ∃ g, a = some ⟨g, 0, none⟩ ∧ C < g ∧ w'.cell? ⟨g, z * 2, none⟩ = some (strV M[z].name) := by
  have h' := row_draw h hg
  rcases h'.2 with ⟨hv, hn⟩ | ⟨g, cap, cur, hv, hg1, hh, hc, hm, _⟩
  · omega
  · cases hv
    refine ⟨g, rfl, hg1, ?_⟩
    rw [h'.cellAt _ (by have := h'.1; omega)]
    exact hN z hz
set_option maxHeartbeats 4000000 in
set_option maxRecDepth 100000 in
theorem main_any (C n : Nat) (vr vf : Value) (a : Option Addr) (c : Nat) (M : List Md) (X : List Value) (w : World) (h : Cur w C n) (hn : n ≤ 900000) (hM : w.ownsRow (C + 1) 39 2 (.slice a M.length c) M.length X) (hX : NmX M X) (hL : ∀ m ∈ M, m.name.length ≤ 11) (hMl : M.length ≤ 1000)
    (hvr : ∃ a n c, vr = .slice a n c) (hvf : ∃ a n c, vf = .slice a n c) :
    Calls Tryz.prog 13 #[.pointer (some ⟨C, 0, none⟩), .agg #[vr, .slice a M.length c, vf]] w (Drew C (n + 30) 20 w) := by
  unfold Drew
  obtain ⟨ar, nr, cr, rfl⟩ := hvr
  obtain ⟨af, nf, cf, rfl⟩ := hvf
  have HM : Hid (w.ownsRow (C + 1) 39 2 (.slice a M.length c) M.length X ∧ NmX M X) := ⟨hM, hX⟩
  have HL : Hid (∀ m ∈ M, m.name.length ≤ 11) := hL
  clear hM hX hL
  obtain ⟨W, hW⟩ : ∃ W, W = w.alloc (.cells #[.slice ar nr cr, .slice a M.length c, .slice af nf cf] 27) := ⟨_, rfl⟩
  have hWC : Cur W C n := by rw [hW]; exact h.alloc _
  have hWg : w.grownBy W (some C) := by rw [hW]; exact grown_alloc_some _ _ _
  have hCw := h.lt
  have HC1 : Hid (∀ w', W.grownBy w' (some C) → w'.cell? ⟨w.heap.size, 1, none⟩ = some (.slice a M.length c)) := by
    intro w' hg
    have hne : w.heap.size ≠ C := by omega
    refine hg.cell (a := ⟨w.heap.size, 1, none⟩) ?_ (fun e => hne (by simpa using e))
    rw [hW, World.cell?_alloc_at _ _ _ _ rfl]; rfl
  have HW : Hid (W = w.alloc (.cells #[.slice ar nr cr, .slice a M.length c, .slice af nf cf] 27)) := hW
  have c0 := HC1.out W (grown_drewN W 0 _)
  clear hW
  by_cases hM0 : 0 < M.length
  · have hM0' : (0 : Int) < (M.length : Int) := by omega
    have HN : Hid (∀ (z : Nat) (w' : World), z < M.length → w.grownBy w' (some C) → ∃ g q, a = some ⟨g, 0, none⟩ ∧ w'.cell? ⟨g, z * 2, none⟩ = some (.string q) ∧ q.size ≤ 11) := by
      intro z w' hz hg
      obtain ⟨g, ha, _, hgc⟩ := nm_cell HM.out.1 HM.out.2 hg hz
      obtain ⟨q, hqv⟩ : ∃ q : ByteArray, q.data.toList = M[z].name := ⟨⟨M[z].name.toArray⟩, by simp⟩
      rw [← hqv, strV_data] at hgc
      refine ⟨g, q, ha, hgc, ?_⟩
      have := HL.out M[z] (List.getElem_mem hz)
      rw [← hqv] at this; simpa using this
    go_enter Tryz.func13, Tryz.ntmps13
    go_wp2_with fail
    rw [← HW.out]
    refine (pick_any C n 3 _ hWC (by omega) (by decide) (by decide)).mono ?_
    rintro e w1 ⟨x, rfl, hx, hc1, hg1⟩
    have hG1 := grown_trans hWg hg1
    have c1 := HC1.out w1 hg1
    by_cases hx0 : x = 0
    · subst hx0
      obtain ⟨g, q, rfl, hgc, hq⟩ := HN.out 0 w1 hM0 hG1
      clear HC1 HM
      go_wp2
      go_ret
      exact ⟨q, rfl, by omega, hc1.mono (by omega), hG1⟩
    · have hxb : ((x : Int) == 0) = false := by rw [beq_eq_false_iff_ne]; omega
      go_wp2_with fail
      refine (pick_any C (n + 2) 6 _ hc1 (by omega) (by decide) (by decide)).mono ?_
      rintro e w2 ⟨y, rfl, hy, hc2, hg2⟩
      have hG2 := grown_trans hG1 hg2
      have c2 := HC1.out w2 (grown_trans hg1 hg2)
      by_cases hy0 : 0 < y
      · have hy0' : (0 : Int) < (y : Int) := by omega
        have hcd : Cur w2.drew C (n + 4) := hc2
        have hgd : w.grownBy w2.drew (some C) := grown_trans hG2 (grown_drewD _ _)
        have hgd' : W.grownBy w2.drew (some C) := grown_trans (grown_trans hg1 hg2) (grown_drewD _ _)
        have HP : Hid (Calls Tryz.prog 25 #[.pointer (some ⟨C, 0, none⟩), .int .i64 (M.length : Int)] w2.drew fun e w3 => ∃ (z : Nat) (g : Nat) (q : ByteArray), e = .returned (.int .i64 (z : Int)) ∧ (z : Int) < (M.length : Int) ∧ a = some ⟨g, 0, none⟩ ∧ w3.cell? ⟨g, z * 2, none⟩ = some (.string q) ∧ q.size ≤ 11 ∧ w3.cell? ⟨w.heap.size, 1, none⟩ = some (.slice a M.length c) ∧ Cur w3 C (n + 30) ∧ w.grownBy w3 (some C)) := by
          refine (pick1_any C (n + 4) M.length _ hcd (by omega) (by omega) (by omega)).mono ?_
          rintro e w3 ⟨z, rfl, hz, hc3, hg3⟩
          obtain ⟨g, q, ha, hgc, hq⟩ := HN.out z w3 hz (grown_trans hgd hg3)
          exact ⟨z, g, q, rfl, by omega, ha, hgc, hq, HC1.out w3 (grown_trans hgd' hg3), hc3.mono (by omega), grown_trans hgd hg3⟩
        have c2d : w2.drew.cell? ⟨w.heap.size, 1, none⟩ = some (.slice a M.length c) := c2
        obtain ⟨ga, rfl⟩ : ∃ ga, a = some ⟨ga, 0, none⟩ := by obtain ⟨g, _, ha, _⟩ := HN.out 0 w2 hM0 hG2; exact ⟨g, ha⟩
        clear HC1 HM HN hcd hgd hgd'
        go_wp2
        go_region_with (go_at_call 25; refine HP.out.mono ?_; rintro e w3 ⟨z, g, q, rfl, hz', hga, hgc, hq, c3, hc3, hg3⟩; cases hga)
        all_goals
          go_wp2
          go_ret
          exact ⟨q, rfl, by omega, hc3, hg3⟩
      · obtain rfl : y = 0 := by omega
        go_wp2_with fail
        refine (ask_any C (n + 4) _ hc2 (by omega)).mono ?_
        rintro e w3 ⟨q, rfl, hq, hc3, hg3⟩
        go_wp2
        go_ret
        exact ⟨q, rfl, by omega, hc3.mono (by omega), grown_trans hG2 hg3⟩
  · have hM0' : ¬ (0 : Int) < (M.length : Int) := by omega
    have hM0d : decide ((0 : Int) < (M.length : Int)) = false := by simpa using hM0'
    go_enter Tryz.func13, Tryz.ntmps13
    go_wp2_with fail
    rw [← HW.out]
    refine (ask_any C n _ hWC (by omega)).mono ?_
    rintro e w3 ⟨q, rfl, hq, hc3, hg3⟩
    go_wp2
    go_ret
    exact ⟨q, rfl, by omega, hc3.mono (by omega), grown_trans hWg hg3⟩
end Go.Proofs.YtimgafblpmjajaaGreat
namespace Go.Proofs.YtimgafblpmjajaaGreat
open Go.RowKit

theorem new2' (w : World) (a b : Value) (t : TypeId) : ∀ j u, [a, b][j]? = some u → (w.alloc (.cells #[a, b] t)).cell? ((⟨w.heap.size, 0, none⟩ : Addr).add j) = some u := by
  intro j u h
  match j with
  | 0 => simp at h; subst h; simp [Addr.add]
  | 1 => simp at h; subst h; simp [Addr.add]
  | j + 2 => simp at h
theorem own_draw {w w' : World} {C base : Nat} {t : TypeId} {sz : Nat} {v : Value} {n : Nat} {xs : List Value} (h : w.ownsRow base t sz v n xs) (hg : w.grownBy w' (some C)) (hC : C < base) : w'.ownsRow base t sz v n xs := by
  refine h.kept hg ?_
  rcases hv : v.ownBlock with _ | b
  · exact .inl rfl
  · refine .inr (fun e => ?_)
    have := (h.lt b hv).1
    cases e; omega
theorem Mrow.draw {base C : Nat} {w w' : World} {v : Value} {M : List Md} {X : List Value} (h : Mrow base w v M X) (hg : w.grownBy w' (some C)) (hC : C < base) : Mrow base w' v M X :=
  ⟨own_draw h.1 hg hC, fun j hj => by obtain ⟨ls, h1, h2, h3⟩ := h.2 j hj; exact ⟨ls, h1, h2, own_draw h3 hg hC⟩⟩
/-- A step that writes a row of another kind. -/
theorem own_other {w w' : World} {base base' : Nat} {t t' : TypeId} {sz sz' : Nat} {v v' : Value} {n n' : Nat} {xs xs' : List Value} (h : w.ownsRow base t sz v n xs) (h' : w.ownsRow base' t' sz' v' n' xs') (hne : t ≠ t') (hg : w.grownBy w' v'.ownBlock) : w'.ownsRow base t sz v n xs := by
  refine h.kept hg ?_
  rcases h.2 with ⟨hv, hn⟩ | ⟨g, cap, cur, hv, hg1, hh, _⟩
  · subst hv; exact .inl rfl
  · refine .inr (fun e => ?_)
    exact blk_ne hh h' hne (by rw [← e, hv]; rfl)
theorem Mrow.other {base base' : Nat} {w w' : World} {t' : TypeId} {sz' : Nat} {v v' : Value} {n' : Nat} {xs' : List Value} {M : List Md} {X : List Value} (h : Mrow base w v M X) (h' : w.ownsRow base' t' sz' v' n' xs') (h1 : 39 ≠ t') (h2 : 56 ≠ t') (hg : w.grownBy w' v'.ownBlock) : Mrow base w' v M X :=
  ⟨own_other h.1 h' h1 hg, fun j hj => by obtain ⟨ls, a, b, c⟩ := h.2 j hj; exact ⟨ls, a, b, own_other c h' h2 hg⟩⟩
theorem Mrow.alloc {base : Nat} {w : World} {v : Value} {M : List Md} {X : List Value} (h : Mrow base w v M X) (o : Obj) : Mrow base (w.alloc o) v M X :=
  ⟨h.1.alloc o, fun j hj => by obtain ⟨ls, a, b, c⟩ := h.2 j hj; exact ⟨ls, a, b, c.alloc o⟩⟩
/-- A module without lines behind a row of them. -/
theorem Mrow.snoc {base : Nat} {w w' : World} {v v' : Value} {M : List Md} {X : List Value} (h : Mrow base w v M X) (nm : List UInt8) (h' : w'.ownsRow base 39 2 v' (M.length + 1) (X ++ [strV nm, .slice none 0 0])) (hg : w.grownBy w' v.ownBlock) : Mrow base w' v' (M ++ [⟨nm, []⟩]) (X ++ [strV nm, .slice none 0 0]) := by
  have hX : X.length = M.length * 2 := h.1.1
  refine ⟨by simpa using h', fun j hj => ?_⟩
  simp at hj
  by_cases hjl : j < M.length
  · obtain ⟨ls, a, b, c⟩ := h.2 j hjl
    refine ⟨ls, ?_, ?_, ?_⟩
    · rw [List.getElem?_append_left (by omega), List.getElem_append_left hjl]; exact a
    · rw [List.getElem?_append_left (by omega)]; exact b
    · rw [List.getElem_append_left hjl]; exact own_other c h.1 (by decide) hg
  · obtain rfl : j = M.length := by omega
    refine ⟨.slice none 0 0, ?_, ?_, ?_⟩
    · rw [List.getElem?_append_right (by omega), hX]; simp
    · rw [List.getElem?_append_right (by omega), hX, show M.length * 2 + 1 - M.length * 2 = 1 by omega]; rfl
    · simp; exact World.ownsRow_nil _ _ _ _
/-- What is written beyond a world is nothing to it. -/
theorem grown_far {w w3 w4 : World} {C : Nat} {row : Option Nat} (h : w.grownBy w3 (some C)) (hg : w3.grownBy w4 row) (hr : ∀ r, row = some r → w.heap.size ≤ r) : w.grownBy w4 (some C) :=
  ⟨hg.1.trans h.1, hg.2.trans h.2, hg.3.trans h.3, Nat.le_trans h.4 hg.4, fun k hk hne => (hg.block k (Nat.lt_of_lt_of_le hk h.4) (fun e => by have := hr k e.symm; omega)).trans (h.block k hk hne)⟩
theorem far_row {w : World} {base b : Nat} {t : TypeId} {sz : Nat} {v : Value} {n : Nat} {xs : List Value} (h : w.ownsRow base t sz v n xs) (hb : b ≤ base) : ∀ r, v.ownBlock = some r → b ≤ r := fun r hr => Nat.le_trans hb (h.lt r hr).1
/-- What lay there lies there still, the reader and the box aside. -/
def Far (C B : Nat) (wo V : World) : Prop := wo.heap.size ≤ V.heap.size ∧ ∀ k, k < wo.heap.size → k ≠ C → k ≠ B → V.heap[k]? = wo.heap[k]?
theorem Far.own {C B base : Nat} {wo V : World} (h : Far C B wo V) {t : TypeId} {sz : Nat} {v : Value} {n : Nat} {xs : List Value} (ho : wo.ownsRow base t sz v n xs) (hC : C < base) (hB : B < base) : V.ownsRow base t sz v n xs :=
  own_block ho (fun b hb => by
    have := ho.lt b hb
    exact h.2 b this.2 (by omega) (by omega))
theorem Far.mrow {C B base : Nat} {wo V : World} (h : Far C B wo V) {v : Value} {M : List Md} {X : List Value} (ho : Mrow base wo v M X) (hC : C < base) (hB : B < base) : Mrow base V v M X :=
  ⟨h.own ho.1 hC hB, fun j hj => by obtain ⟨ls, a, b, c⟩ := ho.2 j hj; exact ⟨ls, a, b, h.own c hC hB⟩⟩
theorem Far.grown {C B : Nat} {wo V V' : World} {row : Option Nat} (h : Far C B wo V) (hg : V.grownBy V' row) (hr : ∀ r, row = some r → r = C ∨ r = B ∨ wo.heap.size ≤ r) : Far C B wo V' :=
  ⟨Nat.le_trans h.1 hg.size, fun k hk h1 h2 => (hg.block k (Nat.lt_of_lt_of_le hk h.1) (fun e => by rcases hr k e.symm with h | h | h <;> omega)).trans (h.2 k hk h1 h2)⟩
theorem Far.refl (C B : Nat) (w : World) : Far C B w w := ⟨Nat.le_refl _, fun _ _ _ _ => rfl⟩
theorem grown_al (w : World) (o : Obj) (row : Option Nat) : w.grownBy (w.alloc o) row := World.grownBy_alloc w o row
theorem blk_set {w : World} {B k : Nat} {cs : Array Value} {t : TypeId} {fr : Nat × Nat} (h : w.heap[B]? = some (.cells cs t fr)) (u : Value) : (w.setCell ⟨B, k, none⟩ u).heap[B]? = some (.cells (cs.setIfInBounds k u) t fr) := by
  obtain ⟨hlt, hk⟩ := Array.getElem?_eq_some_iff.1 h
  show (w.heap.modify B _)[B]? = _
  rw [Array.getElem?_eq_getElem (by rw [Array.size_modify]; exact hlt), Array.getElem_modify_self, hk]
  rfl
def MdOk (m : Md) : Prop := m.name.length ≤ 11 ∧ m.lines.length ≤ 5 ∧ ∀ l ∈ m.lines, l.name.length ≤ 20
theorem Far.own2 {C g base : Nat} {wk V : World} (h : Far C g wk V) {t : TypeId} {sz : Nat} {v : Value} {n : Nat} {xs : List Value} (ho : wk.ownsRow base t sz v n xs) (hC : C < base) (hne : v.ownBlock ≠ some g) : V.ownsRow base t sz v n xs :=
  own_block ho (fun b hb => by
    have := ho.lt b hb
    exact h.2 b this.2 (by omega) (fun e => hne (by rw [hb, e])))
/-- From k on the modules have no lines yet. -/
def NoLn (X : List Value) (k n : Nat) : Prop := ∀ j, k ≤ j → j < n → X[j * 2 + 1]? = some (.slice none 0 0)
theorem set_same {X : List Value} {i : Nat} {a : Value} (h : X[i]? = some a) : X.set i a = X := by
  obtain ⟨hi, rfl⟩ := List.getElem?_eq_some_iff.1 h
  exact List.set_getElem_self hi
end Go.Proofs.YtimgafblpmjajaaGreat
namespace Go.Proofs.YtimgafblpmjajaaGreat
open Go.RowKit

theorem lnR_set : ∀ (L : List Ln) (k : Nat) (h : k < L.length) (op : Int) (_ : L[k].op = op) (z : Int), (L.flatMap lnR).set (k * 4 + 3) (.int .i64 z) = (L.set k ⟨op, L[k].name, L[k].num, z⟩).flatMap lnR
  | l :: r, 0, h, op, ho, z => by simp at ho; subst ho; simp [lnR]
  | l :: r, k + 1, h, op, ho, z => by
    have h' : k < r.length := by simpa using h
    have ih := lnR_set r k h' op (by simpa using ho) z
    have hl : (lnR l).length = 4 := rfl
    rw [List.flatMap_cons, List.set_append, if_neg (by omega), show (k + 1) * 4 + 3 - (lnR l).length = k * 4 + 3 by omega, ih]
    simp
/-- A line stored into its box. -/
def set4 (w : World) (b : Nat) (u0 u1 u2 u3 : Value) : World := (((w.setCell ⟨b, 0, none⟩ u0).setCell ⟨b, 1, none⟩ u1).setCell ⟨b, 2, none⟩ u2).setCell ⟨b, 3, none⟩ u3
theorem set4_blk {w : World} {b : Nat} {v0 v1 v2 v3 : Value} {t : TypeId} {fr : Nat × Nat} (h : w.heap[b]? = some (.cells #[v0, v1, v2, v3] t fr)) (u0 u1 u2 u3 : Value) : (set4 w b u0 u1 u2 u3).heap[b]? = some (.cells #[u0, u1, u2, u3] t fr) := by
  unfold set4
  rw [blk_set (blk_set (blk_set (blk_set h u0) u1) u2) u3]; rfl
theorem set4_far (w : World) (b : Nat) (u0 u1 u2 u3 : Value) {x : Nat} (h : x ≠ b) : (set4 w b u0 u1 u2 u3).heap[x]? = w.heap[x]? := by
  unfold set4
  rw [Below.heap_setCell _ _ _ _ h, Below.heap_setCell _ _ _ _ h, Below.heap_setCell _ _ _ _ h, Below.heap_setCell _ _ _ _ h]
theorem set4_grown (w : World) (b : Nat) (u0 u1 u2 u3 : Value) : w.grownBy (set4 w b u0 u1 u2 u3) (some b) :=
  grown_trans (grown_trans (grown_trans (grown_set w ⟨b, 0, none⟩ u0) (grown_set _ ⟨b, 1, none⟩ u1)) (grown_set _ ⟨b, 2, none⟩ u2)) (grown_set _ ⟨b, 3, none⟩ u3)
/-- What holds ahead of a line's being put behind a module's lines. -/
structure Swt (C g k cm n b0 : Nat) (w wA wk V : World) (N : Nat) (X : List Value) (ls : Value) (L : List Ln) (op num : Int) (q : ByteArray) : Prop where
  box : V.heap[b0]? = some (.cells #[.int .i64 op, .string q, .int .i64 num, .int .i64 0] 56 (0, 0))
  far : Far C g wk V
  xs : V.ownsRow (w.heap.size + 2) 39 2 (.slice (some ⟨g, 0, none⟩) N cm) N (X.set (k * 2 + 1) ls)
  lns : V.ownsRow wk.heap.size 56 4 ls L.length (L.flatMap lnR)
  cur : Cur V C n
  gr : wA.grownBy V (some C)
  low : wk.heap.size ≤ b0
  sz : q.size ≤ 20
theorem Swt.mk' {C g k cm n b0 : Nat} {w wA wk w5 : World} {N : Nat} {X : List Value} {ls : Value} {L : List Ln} (op num : Int) (q : ByteArray) {v0 v1 v2 v3 : Value} (hb : w5.heap[b0]? = some (.cells #[v0, v1, v2, v3] 56 (0, 0))) (hF : Far C g wk w5) (hX : w5.ownsRow (w.heap.size + 2) 39 2 (.slice (some ⟨g, 0, none⟩) N cm) N (X.set (k * 2 + 1) ls))
    (hl : w5.ownsRow wk.heap.size 56 4 ls L.length (L.flatMap lnR)) (hlb : ∀ b, ls.ownBlock = some b → b < b0) (hc : Cur w5 C n) (hg : wA.grownBy w5 (some C)) (hlow : wk.heap.size ≤ b0) (hC : C < w.heap.size) (hwk : w.heap.size + 1 ≤ wk.heap.size) (hwA : wA.heap.size = w.heap.size + 1) (hq : q.size ≤ 20) :
    Swt C g k cm n b0 w wA wk (set4 w5 b0 (.int .i64 op) (.string q) (.int .i64 num) (.int .i64 0)) N X ls L op num q := by
  have hgr := set4_grown w5 b0 (.int .i64 op) (.string q) (.int .i64 num) (.int .i64 0)
  refine ⟨set4_blk hb _ _ _ _, hF.grown hgr (fun r e => by cases e; exact .inr (.inr hlow)), own_block hX (fun b hb' => set4_far _ _ _ _ _ _ (fun e => blk_ne hb hX (by decide) (by rw [hb', e]))), own_block hl (fun b hb' => set4_far _ _ _ _ _ _ (by have := hlb b hb'; omega)), hc.kept hgr (fun r e => by cases e; omega), grown_far hg hgr (fun r e => by cases e; omega), hlow, hq⟩
end Go.Proofs.YtimgafblpmjajaaGreat
