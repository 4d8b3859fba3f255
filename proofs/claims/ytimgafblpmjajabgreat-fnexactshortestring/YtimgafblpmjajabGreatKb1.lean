import Derived.Test.YtimgafblpmjajabGreatRows
import Derived.WalkKit
import Derived.ProofKit
import Derived.OpenShut
import Derived.ShutString
import Derived.ChangeOld
import Derived.Below
import Derived.SliceStrings
import Derived.Shelf.Slices.Reverse
import Derived.Sort.OwnSortedInts
import Derived.ArgAppend
import Derived.Test.YtimgafblpmjajabGreatKa9
namespace Go.Proofs.YtimgafblpmjajabGreat

open Go.RowKit

/-- What is asked of impl.ShortestRing. -/
def RingOk : Prop := ∀ (v : Value) (D : Wd) (w : World), Wds w v D → D.t ≤ 1048576 →
  Calls Tryz.prog 21 #[v] w fun e w' => ∃ v', e = .returned v' ∧ w'.ownsRow w.heap.size 9 1 v' (shortOf D).length ((shortOf D).map strV) ∧ Below w.heap.size w w'

set_option maxHeartbeats 16000000 in
set_option maxRecDepth 100000 in
theorem lawRing (HI0 : RingOk) (v : Value) (D : Wd) (w : World) (h : Wds w v D) (hok : D.ok) :
    Calls Tryz.prog 5 #[v] w fun e w' => e = .returned (.bool true) ∧ Below w.heap.size w w' := by
  obtain ⟨a1, a2, a3, k1, k2, k3, rfl⟩ := h.agg
  obtain ⟨W, hW⟩ : ∃ W, W = w.alloc (.cells #[.slice a1 D.roots.length k1, .slice a2 D.mods.length k2, .slice a3 D.faults.length k3] 26) := ⟨_, rfl⟩
  have hWB : Below w.heap.size w W := by rw [hW]; exact (Below.refl _ _).alloc (Nat.le_refl _) _
  have hWs : W.heap.size = w.heap.size + 1 := by rw [hW]; simp
  have hW3 := new3 w (.slice a1 D.roots.length k1) (.slice a2 D.mods.length k2) (.slice a3 D.faults.length k3) 26
  rw [← hW] at hW3
  have hWd := h.below hWB (Nat.le_refl _)
  have HW : Hid (W = w.alloc (.cells #[.slice a1 D.roots.length k1, .slice a2 D.mods.length k2, .slice a3 D.faults.length k3] 26)) := hW
  have HD : Hid (Wds W (.agg #[.slice a1 D.roots.length k1, .slice a2 D.mods.length k2, .slice a3 D.faults.length k3]) D) := hWd
  have HI : Hid RingOk := HI0
  clear hW h HI0
  go_enter Tryz.func5, Tryz.ntmps5
  go_wp2_with fail
  rw [← HW.out]
  refine (szWorld_any _ D W hWd hok).mono ?_
  by_cases hle : D.t ≤ 1048576
  · rw [leftOf_step hle]
    obtain ⟨q, hq⟩ : ∃ q : Nat, q = 1048576 - D.t := ⟨_, rfl⟩
    rw [← hq]
    have hqb : q ≤ 1048576 := by omega
    have hEl := shortOf_len D hle
    obtain ⟨E, hE⟩ : ∃ E, E = shortOf D := ⟨_, rfl⟩
    have HE : Hid (E = shortOf D) := hE
    rw [← hE] at hEl
    clear hq hE
    rintro e w1 ⟨rfl, B1⟩
    clear hWd
    obtain ⟨x0, x1, x2⟩ := keep3 B1 (by omega) hW3
    go_wp2_with fail
    refine (toWorld_any _ D w1 (HD.out.below B1 (Nat.le_refl _)) hle).mono ?_
    rintro e w2 ⟨v2, rfl, hv2, hb2⟩
    have B2 : Below W.heap.size W w2 := B1.trans (hb2.mono B1.size)
    clear hb2 x0 x1 x2 B1
    obtain ⟨y1, y2, y3, z1, z2, z3, rfl⟩ := hv2.agg
    go_wp2_with fail
    refine (specRing_any _ D w2 hv2 hle).mono ?_
    rw [← HE.out]
    rintro e w3 ⟨vw, rfl, rw3, hb3⟩
    have B3 : Below W.heap.size W w3 := B2.trans (hb3.mono B2.size)
    clear hb3 hv2
    obtain ⟨aw, cw, rfl, _, _⟩ := row_form rw3
    have hwlt : ∀ b, (Value.slice aw E.length cw).ownBlock = some b → b < w3.heap.size := fun b hb => (rw3.lt b hb).2
    have s23 := B3.size
    obtain ⟨x0, x1, x2⟩ := keep3 B3 (by omega) hW3
    go_wp2_with fail
    refine (toWorld_own _ D w3 (HD.out.below B3 (Nat.le_refl _)) hle).mono ?_
    rintro e w4 ⟨vx, rfl, hx4, hb4⟩
    have B4 : Below W.heap.size W w4 := B3.trans (hb4.mono B3.size)
    have rw4 := own_below rw3 hb4 (Nat.le_refl _)
    have s34 := hb4.size
    clear hb4 x0 x1 x2 rw3 B2
    obtain ⟨y1, y2, y3, z1, z2, z3, rfl⟩ := hx4.wds.agg
    obtain ⟨W4, hW4'⟩ : ∃ W4, W4 = w4.alloc (Obj.cells #[.slice y1 D.roots.length z1, .slice y2 D.mods.length z2, .slice y3 D.faults.length z3] 32) := ⟨_, rfl⟩
    have hc4 := new3 w4 (.slice y1 D.roots.length z1) (.slice y2 D.mods.length z2) (.slice y3 D.faults.length z3) 32
    rw [← hW4'] at hc4
    have hal : Below w4.heap.size w4 W4 := by rw [hW4']; exact (Below.refl _ _).alloc (Nat.le_refl _) _
    have hW4s : W4.heap.size = w4.heap.size + 1 := by rw [hW4']; simp
    have HW4 : Hid (W4 = w4.alloc (Obj.cells #[.slice y1 D.roots.length z1, .slice y2 D.mods.length z2, .slice y3 D.faults.length z3] 32)) := hW4'
    have BW4 : Below W.heap.size W W4 := B4.trans (hal.mono B4.size)
    have rwW4 := own_below rw4 hal (Nat.le_refl _)
    clear hW4' rw4
    go_wp2_with fail
    rw [← HW4.out]
    refine (HI.out _ D W4 (hx4.wds.below hal (Nat.le_refl _)) hle).mono ?_
    rw [← HE.out]
    rintro e w5 ⟨vg, rfl, rg5, hb5⟩
    obtain ⟨ag, cg, rfl, _, _⟩ := row_form rg5
    have B5 : Below W.heap.size W w5 := BW4.trans (hb5.mono BW4.size)
    have rw5 := own_below rwW4 hb5 (Nat.le_refl _)
    have bx5 : Below w4.heap.size w4 w5 := hal.trans (hb5.mono hal.size)
    have c5 := keep3 hb5 (by omega) hc4
    have s45 : w4.heap.size < w5.heap.size := by have := hb5.size; omega
    clear hb5 rwW4 hc4 BW4 hal
    go_wp2_with fail
    refine (eqS_any _ _ E w5 (Strs.of_row rg5) (Strs.of_row rw5) hEl).mono ?_
    rintro e w6 ⟨rfl, nqw6, hqw6⟩
    have hb6 : Below w5.heap.size w5 w6 := by rw [hqw6]; exact below_drewN (Below.refl _ _) _
    clear hqw6
    have B6 : Below W.heap.size W w6 := B5.trans (hb6.mono B5.size)
    have rw6 := own_below rw5 hb6 (Nat.le_refl _)
    have rg6 := own_below rg5 hb6 (Nat.le_refl _)
    have bx6 : Below w4.heap.size w4 w6 := bx5.trans (hb6.mono bx5.size)
    obtain ⟨n0, n1, n2⟩ := keep3 hb6 s45 c5
    obtain ⟨x0, x1, x2⟩ := keep3 B6 (by omega) hW3
    have s56 : w4.heap.size < w6.heap.size := by have := hb6.size; omega
    clear hb6 rw5 rg5 bx5 c5 B5
    have HT : Hid (Calls Tryz.prog 8 #[.agg #[.slice a1 D.roots.length k1, .slice a2 D.mods.length k2, .slice a3 D.faults.length k3]] w6.drew fun e w' => ∃ v', e = .returned v' ∧ Wds w' v' D ∧ Below w6.heap.size w6.drew w') :=
      toWorld_any _ D w6.drew (HD.out.below B6.drew (Nat.le_refl _)) hle
    have HX : Hid (Wds w6 (.agg #[.slice y1 D.roots.length z1, .slice y2 D.mods.length z2, .slice y3 D.faults.length z3]) D) := hx4.wds.below bx6 (Nat.le_refl _)
    go_wp2
    go_region_with (first | (go_at_call 8; refine HT.out.mono ?_; rintro e w7 ⟨v7, rfl, hv8, hb8⟩; obtain ⟨j1, j2, j3, l1, l2, l3, rfl⟩ := hv8.agg; obtain ⟨m0, m1, m2⟩ := keep3 (W := w6.drew) hb8 s56 ⟨n0, n1, n2⟩) | (go_at_call 11; refine (eqWorld_any _ _ D w7 (HX.out.below (w' := w7) ((Below.refl w6.heap.size w6).drew.trans hb8) (Nat.le_refl _)) hv8 hle).mono ?_; rintro e w8 ⟨rfl, hb9⟩))
    all_goals
      have h68 : Below w6.heap.size w6 w8 := (Below.refl w6.heap.size w6).drew.trans (hb8.trans (hb9.mono hb8.size))
      have B8 : Below W.heap.size W w8 := B6.trans (h68.mono B6.size)
      have rw8 := own_below rw6 h68 (Nat.le_refl _)
      have rg8 := own_below rg6 h68 (Nat.le_refl _)
      have bx8 : Below w4.heap.size w4 w8 := bx6.trans (h68.mono bx6.size)
      have s68 := h68.size
      obtain ⟨o0, o1, o2⟩ := keep3 h68 s56 ⟨n0, n1, n2⟩
      have hmk := markWorld_any w3.heap.size w4.heap.size _ D w4 w8 hx4 (Nat.le_refl _) (by omega) bx8 hle
      clear x0 x1 x2 n0 n1 n2 m0 m1 m2 hb8 hb9 hv8 rw6 rg6 h68 bx8 B6
      go_wp2_with fail
      refine hmk.mono ?_
      rintro e w9 ⟨kk, rfl, hbt⟩
      have B9 : Below W.heap.size W w9 := B8.trans ((hbt.below (by omega)).mono (by omega))
      have rg9 := hbt.own rg8 (by omega)
      have rw9 := hbt.own_old rw8 hwlt
      have s89 := hbt.size
      clear hmk hbt rw8 rg8 o0 o1 o2 B8
      go_wp2_with fail
      refine (eqS_any _ _ E w9 (Strs.of_row rg9) (Strs.of_row rw9) hEl).mono ?_
      rintro e w10 ⟨rfl, nqw10, hqw10⟩
      have hb10 : Below w9.heap.size w9 w10 := by rw [hqw10]; exact below_drewN (Below.refl _ _) _
      clear hqw10
      have B10 : Below W.heap.size W w10 := B9.trans (hb10.mono B9.size)
      have rw10 := own_below rw9 hb10 (Nat.le_refl _)
      have rg10 := own_below rg9 hb10 (Nat.le_refl _)
      have s910 := hb10.size
      clear hb10 rw9 rg9 B9
      go_wp2_with fail
      refine (mark_any _ _ E.length _ w10 rg10 hEl).mono ?_
      rintro e w11 ⟨rfl, rg11, hg11⟩
      have rw11 := own_block (w' := w11) rw10 (fun b hb => hg11.block b (rw10.lt b hb).2 (fun e => by have h1 := (rg10.lt b e.symm).1; have h2 := hwlt b hb; omega))
      have B11 : Below W.heap.size W w11 := B10.grown hg11 B10.size (fun b e => by have h1 := (rg10.lt b e).1; omega)
      have s1011 := hg11.size
      clear hg11 rw10 rg10 B10
      go_wp2_with fail
      refine (held_any _ _ E.length w11 rg11 hEl).mono ?_
      rintro e w11' ⟨rfl, hb11⟩
      replace B11 : Below W.heap.size W w11' := B11.trans (hb11.mono B11.size)
      replace rw11 := own_below rw11 hb11 (Nat.le_refl _)
      replace rg11 := own_below rg11 hb11 (Nat.le_refl _)
      clear hb11
      obtain ⟨x0, x1, x2⟩ := keep3 B11 (by omega) hW3
      go_wp2_with fail
      refine (toWorld_any _ D w11' (HD.out.below B11 (Nat.le_refl _)) hle).mono ?_
      rintro e w12 ⟨v12, rfl, hv12, hb12⟩
      obtain ⟨t1, t2, t3, u1, u2, u3, rfl⟩ := hv12.agg
      have B12 : Below W.heap.size W w12 := B11.trans (hb12.mono B11.size)
      have rw12 := own_below rw11 hb12 (Nat.le_refl _)
      have rg12 := own_below rg11 hb12 (Nat.le_refl _)
      clear hb12 rw11 rg11 B11 x0 x1 x2
      go_wp2_with fail
      refine (HI.out _ D w12 hv12 hle).mono ?_
      rw [← HE.out]
      rintro e w13 ⟨vh, rfl, rh13, hb13⟩
      obtain ⟨ah, ch, rfl, _, _⟩ := row_form rh13
      have B13 : Below W.heap.size W w13 := B12.trans (hb13.mono B12.size)
      have rw13 := own_below rw12 hb13 (Nat.le_refl _)
      have rg13 := own_below rg12 hb13 (Nat.le_refl _)
      clear hb13 rw12 rg12 B12 hv12
      go_wp2_with fail
      refine (eqS_any _ _ E w13 (Strs.of_row rh13) (Strs.of_row rw13) hEl).mono ?_
      rintro e w14 ⟨rfl, nqw14, hqw14⟩
      have hb14 : Below w13.heap.size w13 w14 := by rw [hqw14]; exact below_drewN (Below.refl _ _) _
      clear hqw14
      have B14 : Below W.heap.size W w14 := B13.trans (hb14.mono B13.size)
      have rg14 := own_below rg13 hb14 (Nat.le_refl _)
      clear hb14 rw13 rg13 rh13 B13
      go_wp2_with fail
      refine (held_any _ _ E.length w14 rg14 hEl).mono ?_
      rintro e w14' ⟨rfl, hb15⟩
      go_wp2
      go_ret
      exact ⟨rfl, hWB.trans ((B14.trans (hb15.mono B14.size)).mono hWB.size)⟩
  · rw [leftOf_neg hle]
    rintro e w1 ⟨rfl, B1⟩
    go_wp2
    go_ret
    exact ⟨rfl, hWB.trans (B1.mono hWB.size)⟩
end Go.Proofs.YtimgafblpmjajabGreat
namespace Go.Proofs.YtimgafblpmjajabGreat.fnExactShortestRing

open Go.ChangeShapes Go.WideShapes Go.ChangeAt Go.RowKit

open Go.ChangeMaps (open_string shut_string)
set_option linter.unusedVariables false

theorem own : ownKnob Tryz.prog.godebug = none := by kernel_rfl
theorem laidOut : laidOutB Tryz.prog = true := by kernel_rfl

set_option maxRecDepth 100000 in
theorem lifted (HI : RingOk) (os : Os) (started : os.Started) (H : Type) (enc : TypeId × Value → H) :
    ReturnsInHanded {} Tryz.checked os 5 .any (Rows.fnExactShortestRingSpec.pre6 enc Tryz.prog Tryz.f5 Rows.fnExactShortestRingRow.domain false) (Rows.fnExactShortestRingSpec.post enc Tryz.prog Tryz.f5 false true false false) := by
  refine returnsInHanded_of_change (C := Tryz.checked) own started (by kernel_rfl) Tryz.func5
    (ChangeSpec.witness6 (enc := enc) (C := Tryz.checked) false ⟨#[], #[.agg #[.slice none 0 0, .slice none 0 0, .slice none 0 0]], []⟩ 8 (by kernel_rfl) (by kernel_rfl) (by kernel_rfl) (by kernel_rfl)) ?_
  intro W base args ds gs before hval0 hW hcnd _
  have hval : ∀ (j : Nat) t v, Tryz.f5.params[j]? = some t → args[j]? = some v → Value.okWide Tryz.prog W .any base t v := hval0
  have hW' := hW
  obtain ⟨p, q, hA0, hV, rfl, hfz, hnd⟩ := hW
  have hA : DataW.TrodAll enc Tryz.prog W 0 (fun _ => true) true Tryz.f5.params.toList args.toList ds p := hA0
  rw [Tryz.params5] at hA hval
  obtain ⟨v0, vs0, d0, ds0, p0, q0, hargs, rfl, rfl, h0, r0⟩ := trodAll_cons hA
  obtain ⟨rfl, rfl, rfl⟩ := trodAll_nil r0
  obtain rfl : args = #[v0] := by cases args; simp_all
  obtain ⟨rfl, rfl⟩ := trodVars_none hV
  obtain ⟨cs, rfl, hcs⟩ := okWide_struct Tryz.underlying26 (hval 0 26 v0 rfl rfl)
  have k0 := h0
  have lt0 : ∀ x ∈ p0, x.block < W.heap.size := by obtain ⟨m, hm⟩ := k0; exact DataW.trod_lt m _ _ _ hm
  obtain ⟨D, hD1, hD2⟩ : ∃ D, Wds W (.agg cs) D ∧ D.ok := by
    obtain ⟨fuel, hf⟩ := h0
    obtain ⟨r, m, f, D, hcs', hD, hok⟩ := open_wds hf
    have hcs2 : cs.toList = [r, m, f] := hcs'
    have : cs = #[r, m, f] := by cases cs; simp_all
    exact ⟨D, by rw [this]; exact hD, hok⟩
  clear hA0 hval0
  refine (lawRing HI (.agg cs) D W hD1 hD2).mono fun e W' ⟨he, bel⟩ => ?_
  subst he
  exact ⟨_, rfl, _, _, _, [], _, [], hW', trodAll_mk1 (shut_bool Tryz.underlying4 _), (trodAll_cons_mk (Below.trod laidOut (by kernel_rfl) (of_decide_eq_true (by kernel_rfl)) k0 bel lt0) trodAll_mk0), rfl, bel.frame _, fun h => by cases h⟩

theorem over (HI : RingOk) : Rows.fnExactShortestRingRow.holds Tryz.pinned (OpenSpec.ofChange Rows.fnExactShortestRingSpec) :=
  OpenClaim.holds_of_wide 5 Tryz.f5 rfl rfl rfl rfl rfl rfl rfl ⟨rfl, rfl, rfl, rfl, rfl⟩ rfl rfl rfl rfl rfl (by kernel_rfl) Tryz.func5 (by kernel_rfl)
    (of_decide_eq_true (by kernel_rfl)) (by unfold Func.isWrapper; first | (rw [if_pos (by decide +kernel)]; kernel_rfl) | (rw [if_neg (by decide +kernel)]; exact ⟨rfl, rfl⟩))
    (fun os started H enc _ => lifted HI os started H enc)

theorem proved (HI : RingOk) : Rows.FnExactShortestRingSaid := over HI
end Go.Proofs.YtimgafblpmjajabGreat.fnExactShortestRing
namespace Go.Proofs.YtimgafblpmjajabGreat
theorem fnExactShortestRing_of (HI : RingOk) : Rows.FnExactShortestRingSaid := fnExactShortestRing.proved HI
end Go.Proofs.YtimgafblpmjajabGreat
namespace Go.Proofs
open Go.Shelf
def Tryz.lays112_ren : Go.Shelf.Ren := ⟨fun | 112 => 97 | n => n, fun | 28 => 24 | n => n, fun n => n⟩
theorem Tryz.lays112 : Go.Proofs.Lays.n112 Tryz.prog Tryz.lays112_ren := {
  mixed := by kernel_rfl
  f112 := Tryz.func97.trans (congrArg some (by kernel_rfl))
  t0 := Tryz.underlying0
  a0 := Tryz.isAgg0
  z0 := Tryz.sizeOf0
  v0 := Tryz.zeroValue0
  t3 := Tryz.underlying3
  a3 := Tryz.isAgg3
  z3 := Tryz.sizeOf3
  v3 := Tryz.zeroValue3
  t4 := Tryz.underlying4
  a4 := Tryz.isAgg4
  z4 := Tryz.sizeOf4
  v4 := Tryz.zeroValue4
  t28 := Tryz.underlying24
  a28 := Tryz.isAgg24
  z28 := Tryz.sizeOf24
  v28 := Tryz.zeroValue24 }
end Go.Proofs
namespace Go.Proofs.YtimgafblpmjajabGreat
open Go.RowKit Go.Maps Go.Sort

theorem numV_map (L : List Nat) : L.map numV = (L.map (fun n : Nat => (n : Int))).map (Value.int .i64) := by simp [numV]
theorem rev_any {base : Nat} {w : World} {v : Value} {L : List Nat} (h : w.ownsRow base 3 1 v L.length (L.map numV)) (hL : L.length ≤ 1048576) :
    Calls Tryz.prog 97 #[v] w fun e w' => e = .returned (.tuple #[]) ∧ w'.ownsRow base 3 1 v L.length (L.reverse.map numV) ∧ w.grownBy w' v.ownBlock := by
  rcases h.2 with ⟨hv, hn⟩ | ⟨g, cap, cur, hv, hg, hh, hc, hm, hs, ht⟩
  · have hL0 : L = [] := List.eq_nil_of_length_eq_zero hn
    subst hL0
    subst hv
    refine (Any.slices_Reverse_int_empty Tryz.lays112 none 0 w).mono ?_
    rintro e w' ⟨rfl, rfl⟩
    exact ⟨rfl, World.ownsRow_nil _ _ _ _, World.grownBy.refl _ _⟩
  · subst hv
    have hlen : (L.map (fun n : Nat => (n : Int))).length = L.length := by simp
    have hH : Holds (Value.int .i64) w g 0 (L.map (fun n : Nat => (n : Int))).toArray := holds_of_blockI hh (by rw [hlen, ← numV_map]; simpa using ht)
    have hc' := Any.slices_Reverse_int Tryz.lays112 g 0 cap (L.map (fun n : Nat => (n : Int))) w hH (by rw [hlen]; omega)
    rw [hlen] at hc'
    refine Calls.mono hc' ?_
    rintro e w' ⟨rfl, n, rfl⟩
    have ho := ownsRow_sortedI (n := n) (os := #[]) (base := base) (cap := cap) (ss := L.map (fun n : Nat => (n : Int))) (ts := (L.map (fun n : Nat => (n : Int))).reverse) (by simp) hg hh (by rw [hlen]; exact hc) hm hs
    have hgr := grownBy_sortedI (w := w) (g := g) (n := n) (os := #[]) (L.map (fun n : Nat => (n : Int))).reverse.toArray
    rw [grow_empty] at ho hgr
    rw [hlen] at ho
    refine ⟨rfl, ?_, hgr⟩
    rw [numV_map, List.map_reverse (l := L)]
    exact ho

/-- A way, from its last place back. -/
def Wy (lo : Nat) (w : World) : Value → List Nat → Prop
  | p, [] => p = .pointer none
  | p, x :: r => ∃ b q, p = .pointer (some ⟨b, 0, none⟩) ∧ lo ≤ b ∧ w.heap[b]? = some (.cells #[numV x, q] 150 (0, 0)) ∧ Wy lo w q r
theorem Wy.keep {lo : Nat} {w w' : World} (h : ∀ (b : Nat) (cs : Array Value) (fr : Nat × Nat), w.heap[b]? = some (.cells cs 150 fr) → w'.heap[b]? = w.heap[b]?) : ∀ {c : List Nat} {p : Value}, Wy lo w p c → Wy lo w' p c
  | [], _, hw => hw
  | x :: r, p, hw => by
    obtain ⟨b, q, h1, h2, h3, h4⟩ := hw
    exact ⟨b, q, h1, h2, (h _ _ _ h3).trans h3, Wy.keep h h4⟩

set_option maxHeartbeats 4000000 in
set_option maxRecDepth 100000 in
theorem places_any {lo : Nat} {w : World} {p : Value} {c : List Nat} (h : Wy lo w p c) (hc : c.length ≤ 1048575) :
    Calls Tryz.prog 82 #[p] w fun e w' => ∃ v', e = .returned v' ∧ w'.ownsRow w.heap.size 3 1 v' c.length (c.reverse.map numV) ∧ Below w.heap.size w w' := by
  obtain ⟨i3, hi3, jz0, jz1, jz2⟩ := info_parts Tryz.info3
  have hp : ∃ a, p = .pointer a := by
    cases c with
    | nil => exact ⟨none, h⟩
    | cons x r => obtain ⟨b, q, h1, _⟩ := h; exact ⟨_, h1⟩
  obtain ⟨a, rfl⟩ := hp
  have HW : Hid (Wy lo w (.pointer a) c) := h
  clear h
  go_enter Tryz.func82, Tryz.ntmps82
  go_wp2
  go_loopw [0, 3] (fun pv vo wr => ∃ n : Nat, n ≤ c.length ∧ Wy lo w pv (c.drop n) ∧ wr.ownsRow w.heap.size 3 1 vo n ((c.take n).map numV) ∧ Below w.heap.size w wr) (fun _ vo _ => match vo with | .slice _ n _ => c.length - n | _ => 0)
  case atStart => exact ⟨0, Nat.zero_le _, HW.out, World.ownsRow_nil _ _ _ _, Below.refl _ _⟩
  case round =>
    obtain ⟨n, hn, hwy, hown, hB⟩ := hrel
    obtain ⟨ao, co, rfl, hco, _⟩ := row_form hown
    have hsz := hB.size
    by_cases hlt : n < c.length
    · rw [List.drop_eq_getElem_cons hlt] at hwy
      obtain ⟨b, q, rfl, hlb, hblk, hq⟩ := hwy
      have hbl : b < w.heap.size := (Array.getElem?_eq_some_iff.1 hblk).1
      have hblr := (hB.block b hbl).trans hblk
      have m0 : wr.cell? ⟨b, 0, none⟩ = some (numV c[n]) := by simp [World.cell?, hblr]
      obtain ⟨x, hx⟩ : ∃ x, x = c[n] := ⟨_, rfl⟩
      have hTS : (c.take (n + 1)).map numV = (c.take n).map numV ++ [.int .i64 (x : Int)] := by rw [List.take_succ_eq_append_getElem hlt, List.map_append, List.map_singleton, hx]; rfl
      rw [← hx] at m0
      unfold numV at m0
      have HT : Hid ((c.take (n + 1)).map numV = (c.take n).map numV ++ [.int .i64 (x : Int)]) := hTS
      have HQ : Hid (Wy lo w q (c.drop (n + 1)) ∧ w.heap[b]? = some (.cells #[numV c[n], q] 150 (0, 0))) := ⟨hq, hblk⟩
      have hqp : ∃ a', q = .pointer a' := by
        cases hd : c.drop (n + 1) with
        | nil => rw [hd] at hq; exact ⟨none, hq⟩
        | cons y r => rw [hd] at hq; obtain ⟨b', q', h1, _⟩ := hq; exact ⟨_, h1⟩
      obtain ⟨aq, rfl⟩ := hqp
      clear hTS hx hq hblk hblr
      go_wp2_with (at_builtin; refine wpList_app1 _ rfl _ _ 24 rfl w.heap.size 3 i3 (.int .i64 0) 8 Tryz.underlying24 hi3 jz0 jz1 jz2 rfl _ _ _ rfl (hown.alloc _) ⟨_, 0, none⟩ 1 (.int .i64 (x : Int)) rfl (cell_one_new _ _ _) (by simp [Value.oneCell']) (by unfold maxLen; omega) (by omega) (by simp; omega) ?_; intro v4 w4 h4 hg4 hl4; have hB4 : Below w.heap.size w w4 := ((hB.alloc hsz _).grown hg4 (by simp; omega) (fun b e' => (hown.lt b e').1)); have m4 : w4.cell? ⟨b, 1, none⟩ = some (.pointer aq) := (by have h5 := (hB4.block b hbl).trans HQ.out.2; simp [World.cell?, h5]))
      obtain ⟨a4, c4, rfl, _, _⟩ := row_form h4
      go_roundw
      case rel => exact ⟨n + 1, by omega, HQ.out.1, by rw [HT.out]; exact h4, hB4⟩
      case measure => simp; omega
    · obtain rfl : n = c.length := by omega
      rw [List.drop_length] at hwy
      rw [List.take_length] at hown
      have hpv : _ = Value.pointer none := hwy
      subst hpv
      have hrv := rev_any hown (by omega)
      go_wp2_with fail
      refine hrv.mono ?_
      rintro e w4 ⟨rfl, h4, hg4⟩
      have hB4 : Below w.heap.size w w4 := hB.grown hg4 (by omega) (fun b e' => (hown.lt b e').1)
      go_wp2
      go_ret
      exact ⟨_, rfl, h4, hB4⟩
end Go.Proofs.YtimgafblpmjajabGreat
namespace Go.Proofs.YtimgafblpmjajabGreat
open Go.RowKit Go.Maps

theorem Tryz.infoWayp : (Tryz.prog.info? 148).map (fun i => (i.zero, i.size, i.bytes)) = some (some (.pointer none), 1, 8) := by kernel_rfl
/-- What waits in a queue. -/
def Qu (lo : Nat) (w : World) (v : Value) (ps : List Value) : Prop := ∃ a c, v = .slice a ps.length c ∧ ps.length ≤ c ∧ c ≤ maxLen ∧ (a = none → c = 0) ∧ (0 < c → ∃ b o cur, a = some ⟨b, o, none⟩ ∧ lo ≤ b ∧ w.heap[b]? = some (.cells cur 148 (0, 0)) ∧ o + c ≤ cur.size ∧ ∀ j (hj : j < ps.length), cur[o + j]? = some ps[j])
/-- All that is no queue and no row of what waits stands. -/
def Kq (w w' : World) : Prop := ∀ (b : Nat), b < w.heap.size → (∀ cs t fr, w.heap[b]? = some (.cells cs t fr) → t ≠ 146 ∧ t ≠ 148) → w'.heap[b]? = w.heap[b]?
theorem Qu.keep {lo : Nat} {w w' : World} {v : Value} {ps : List Value} (h : Qu lo w v ps) (hk : ∀ (b : Nat) (cs : Array Value) (fr : Nat × Nat), w.heap[b]? = some (.cells cs 148 fr) → w'.heap[b]? = w.heap[b]?) : Qu lo w' v ps := by
  obtain ⟨a, c, h1, h2, h3, h4, h5⟩ := h
  exact ⟨a, c, h1, h2, h3, h4, fun hc => by obtain ⟨b, o, cur, e1, e2, e3, e4⟩ := h5 hc; exact ⟨b, o, cur, e1, e2, (hk _ _ _ e3).trans e3, e4⟩⟩

set_option maxHeartbeats 4000000 in
set_option maxRecDepth 100000 in
theorem qtake_none {lo Q : Nat} {w : World} {v : Value} (hb : w.heap[Q]? = some (.cells #[v] 146 (0, 0))) (h : Qu lo w v []) :
    Calls Tryz.prog 81 #[.pointer (some ⟨Q, 0, none⟩)] w fun e w' => e = .returned (.tuple #[.pointer none, .bool false]) ∧ w' = w := by
  obtain ⟨a, c, rfl, _, _, _, _⟩ := h
  have c0 : w.cell? ⟨Q, 0, none⟩ = some (.slice a 0 c) := by simp [World.cell?, hb]
  clear hb
  go_enter Tryz.func81, Tryz.ntmps81
  go_wp2
  exact bodyPost_ret (v := .tuple #[.pointer none, .bool false]) (by simp [results, Tryz.results81, go_sem]) rfl ⟨rfl, rfl⟩

set_option maxHeartbeats 4000000 in
set_option maxRecDepth 100000 in
theorem qtake_some {lo Q : Nat} {w : World} {v : Value} {pa : Option Addr} {ps : List Value} (hlo : lo ≤ Q) (hb : w.heap[Q]? = some (.cells #[v] 146 (0, 0))) (h : Qu lo w v (.pointer pa :: ps)) (hl : ps.length ≤ 1048576) :
    Calls Tryz.prog 81 #[.pointer (some ⟨Q, 0, none⟩)] w fun e w' => e = .returned (.tuple #[.pointer pa, .bool true]) ∧ (∃ v', w'.heap[Q]? = some (.cells #[v'] 146 (0, 0)) ∧ Qu lo w' v' ps) ∧ Below lo w w' ∧ Kq w w' := by
  obtain ⟨a, c, rfl, hc, hcm, hz, h5⟩ := h
  have hcp : 0 < c := by simp at hc; omega
  obtain ⟨b, o, cur, rfl, hlb, hblk, hoc, hcell⟩ := h5 hcp
  have c0 : w.cell? ⟨Q, 0, none⟩ = some (.slice (some ⟨b, o, none⟩) (.pointer pa :: ps).length c) := by simp [World.cell?, hb]
  have f0 : w.frozen? ⟨Q, 0, none⟩ = false := by simp [World.frozen?, hb]
  have hp : w.cell? ⟨b, o, none⟩ = some (.pointer pa) := by have h0 := hcell 0 (by simp); simp at h0; simp [World.cell?, hblk, h0]
  simp only [List.length_cons] at c0 hc
  have HB : Hid (w.heap[Q]? = some (.cells #[.slice (some ⟨b, o, none⟩) (ps.length + 1) c] 146 (0, 0)) ∧ w.heap[b]? = some (.cells cur 148 (0, 0)) ∧ ∀ j (hj : j < (.pointer pa :: ps).length), cur[o + j]? = some ((Value.pointer pa :: ps)[j])) := ⟨hb, hblk, hcell⟩
  clear hb hblk hcell h5 hz
  go_enter Tryz.func81, Tryz.ntmps81
  have hne : ((ps.length : Int) + 1 == 0) = false := by rw [beq_eq_false_iff_ne]; omega
  have hbQ : b ≠ Q := fun e => by have h1 := HB.out.1; rw [← e, HB.out.2.1] at h1; simp at h1
  have HK : Hid (∀ u, Kq w (w.setCell ⟨Q, 0, none⟩ u) ∧ Below lo w (w.setCell ⟨Q, 0, none⟩ u) ∧ (w.setCell ⟨Q, 0, none⟩ u).heap[Q]? = some (.cells #[u] 146 (0, 0)) ∧ (w.setCell ⟨Q, 0, none⟩ u).heap[b]? = some (.cells cur 148 (0, 0))) := fun u =>
    ⟨fun b' _ ht => Below.heap_setCell _ _ _ _ (fun e => by have e' : b' = Q := e; subst e'; exact (ht _ _ _ HB.out.1).1 rfl), (Below.refl lo w).setCell (p := ⟨Q, 0, none⟩) hlo u, by rw [heap_setCell_same w Q 0 _ _ _ HB.out.1]; rfl, (Below.heap_setCell _ _ _ _ hbQ).trans HB.out.2.1⟩
  by_cases hc1 : c = 1
  · subst hc1
    have hps : ps = [] := List.eq_nil_of_length_eq_zero (by omega)
    subst hps
    go_wp2
    exact bodyPost_ret (v := .tuple #[.pointer pa, .bool true]) (by simp [results, Tryz.results81, go_sem]) rfl ⟨rfl, ⟨_, (HK.out _).2.2.1, ⟨_, 0, rfl, by simp, by unfold maxLen; omega, fun h => (by cases h), fun h => absurd h (by omega)⟩⟩, (HK.out _).2.1, (HK.out _).1⟩
  · go_wp2
    refine bodyPost_ret (v := .tuple #[.pointer pa, .bool true]) (by simp [results, Tryz.results81, go_sem]) rfl ⟨rfl, ⟨_, (HK.out _).2.2.1, ⟨_, c - 1, rfl, by omega, by omega, fun h => (by cases h), fun _ => ⟨b, o + 1, cur, rfl, hlb, (HK.out _).2.2.2, by omega, fun j hj => ?_⟩⟩⟩, (HK.out _).2.1, (HK.out _).1⟩
    have h1 := HB.out.2.2 (j + 1) (by simpa using hj)
    rw [show o + 1 + j = o + (j + 1) by omega, h1]; rfl

set_option maxHeartbeats 4000000 in
set_option maxRecDepth 100000 in
theorem qput_any {lo Q : Nat} {w : World} {v : Value} {pa : Option Addr} {ps : List Value} (hlo : lo ≤ Q) (hlw : lo ≤ w.heap.size) (hb : w.heap[Q]? = some (.cells #[v] 146 (0, 0))) (h : Qu lo w v ps) (hl : ps.length ≤ 1048576) :
    Calls Tryz.prog 80 #[.pointer (some ⟨Q, 0, none⟩), .pointer pa] w fun e w' => e = .returned (.tuple #[]) ∧ (∃ v', w'.heap[Q]? = some (.cells #[v'] 146 (0, 0)) ∧ Qu lo w' v' (ps ++ [.pointer pa])) ∧ Below lo w w' ∧ Kq w w' := by
  obtain ⟨iw, hiw, wz0, wz1, wz2⟩ := info_parts Tryz.infoWayp
  obtain ⟨a, c, rfl, hc, hcm, hz, h5⟩ := h
  have hQl : Q < w.heap.size := (Array.getElem?_eq_some_iff.1 hb).1
  have c0 : w.cell? ⟨Q, 0, none⟩ = some (.slice a ps.length c) := by simp [World.cell?, hb]
  have c0' : ∀ o', (w.alloc o').cell? ⟨Q, 0, none⟩ = some (.slice a ps.length c) := fun o' => below_cell0 ((Below.refl w.heap.size w).alloc (Nat.le_refl _) o') hQl c0
  have HB : Hid (w.heap[Q]? = some (.cells #[.slice a ps.length c] 146 (0, 0))) := hb
  have HN : Hid (∀ j u, [Value.pointer pa][j]? = some u → (w.alloc (.cells #[.pointer pa] 148)).cell? ((⟨w.heap.size, 0, none⟩ : Addr).add j) = some u) := cell_one_new w _ 148
  by_cases hroom : ps.length + 1 ≤ c
  · obtain ⟨b, o, cur, rfl, hlb, hblk, hoc, hcell⟩ := h5 (by omega)
    have hbQ : b ≠ Q := fun e => by rw [e, hb] at hblk; simp at hblk
    have hbl : b < w.heap.size := (Array.getElem?_eq_some_iff.1 hblk).1
    have hbA : (w.alloc (.cells #[.pointer pa] 148)).heap[b]? = some (.cells cur 148 (0, 0)) := (old_blk w _ hbl).trans hblk
    have HO : Hid (∀ j u, ps[j]? = some u → (w.alloc (.cells #[.pointer pa] 148)).cell? ⟨b, o + j, none⟩ = some u) := fun j u hu => by
      obtain ⟨hj, rfl⟩ := List.getElem?_eq_some_iff.1 hu
      simp [World.cell?, hbA, hcell j hj]
    have HSP : Hid (ps.length + 1 ≤ c → ∀ j, j < [Value.pointer pa].length → ((w.alloc (.cells #[.pointer pa] 148)).cell? ⟨b, o + ps.length * 1 + j, none⟩).isSome = true ∧ (w.alloc (.cells #[.pointer pa] 148)).frozen? ⟨b, o + ps.length * 1 + j, none⟩ = false) := fun _ j hj => by
      have hj0 : j = 0 := by simp at hj; omega
      subst hj0
      simp [World.cell?, World.frozen?, hbA]; omega
    obtain ⟨W5, hW5⟩ : ∃ W5, W5 = (w.alloc (.cells #[.pointer pa] 148)).setCell ⟨b, o + ps.length, none⟩ (.pointer pa) := ⟨_, rfl⟩
    have e5 : (w.alloc (.cells #[.pointer pa] 148)).setCells b (o + ps.length * 1) [.pointer pa] = W5 := by rw [hW5]; simp [World.setCells]
    have q5 : W5.heap[Q]? = some (.cells #[.slice (some ⟨b, o, none⟩) ps.length c] 146 (0, 0)) := by rw [hW5, Below.heap_setCell _ _ _ _ (by show Q ≠ b; exact Ne.symm hbQ), old_blk w _ hQl]; exact hb
    have b5 : W5.heap[b]? = some (.cells (cur.setIfInBounds (o + ps.length) (.pointer pa)) 148 (0, 0)) := by rw [hW5]; exact heap_setCell_same _ b (o + ps.length) _ _ _ hbA
    have k5 : ∀ x, x < w.heap.size → x ≠ b → W5.heap[x]? = w.heap[x]? := fun x hx hne => by rw [hW5, Below.heap_setCell _ _ _ _ hne, old_blk w _ hx]
    have hB5 : Below lo w W5 := by rw [hW5]; exact ((Below.refl lo w).alloc hlw _).setCell (p := ⟨b, o + ps.length, none⟩) hlb _
    have u0 : W5.cell? ⟨Q, 0, none⟩ = some (.slice (some ⟨b, o, none⟩) ps.length c) := by simp [World.cell?, q5]
    have uf : W5.frozen? ⟨Q, 0, none⟩ = false := by simp [World.frozen?, q5]
    have HX : Hid (b ≠ Q ∧ w.heap[b]? = some (.cells cur 148 (0, 0)) ∧ (∀ j (hj : j < ps.length), cur[o + j]? = some ps[j]) ∧ W5.heap[Q]? = some (.cells #[.slice (some ⟨b, o, none⟩) ps.length c] 146 (0, 0)) ∧ W5.heap[b]? = some (.cells (cur.setIfInBounds (o + ps.length) (.pointer pa)) 148 (0, 0)) ∧ (∀ x, x < w.heap.size → x ≠ b → W5.heap[x]? = w.heap[x]?) ∧ Below lo w W5) := ⟨hbQ, hblk, hcell, q5, b5, k5, hB5⟩
    have HE5 : Hid ((w.alloc (.cells #[.pointer pa] 148)).setCells b (o + ps.length * 1) [.pointer pa] = W5) := e5
    clear h5 hb e5 hW5 hblk hcell q5 b5 k5 hB5 hbA hbQ
    go_enter Tryz.func80, Tryz.ntmps80
    go_wp2_with (at_builtin; refine wpList_append_arg _ rfl _ _ 144 rfl 148 iw _ 1 8 Tryz.underlying144 hiw wz0 wz1 wz2 rfl (by decide) b o ps.length c ps rfl (by simp) HO.out ⟨w.heap.size, 0, none⟩ 1 1 [.pointer pa] rfl rfl HN.out (by intro u hu; simp at hu; subst hu; rfl) HSP.out (by unfold maxLen; omega) (by omega) ?_ (fun h => absurd h (by omega)); intro hrm; rw [HE5.out])
    obtain ⟨hbQ, hblk, hcell, q5, b5, k5, hB5⟩ := HX.out
    first | go_end0 | refine bodyPost_ret (results_none rfl _ _ _) rfl ?_
    refine ⟨rfl, ⟨_, by rw [heap_setCell_same W5 Q 0 _ _ _ q5]; rfl, ⟨_, c, by rw [List.length_append, List.length_singleton], by rw [List.length_append, List.length_singleton]; omega, hcm, fun h => (by cases h), fun _ => ⟨b, o, _, rfl, hlb, (Below.heap_setCell _ _ _ _ hbQ).trans b5, by simp; omega, fun j hj => ?_⟩⟩⟩, hB5.setCell (p := ⟨Q, 0, none⟩) hlo _, fun x hx ht => ?_⟩
    · rw [Array.getElem?_setIfInBounds]
      by_cases hjl : j < ps.length
      · rw [if_neg (by omega), List.getElem_append_left hjl]; exact hcell j hjl
      · have hje : j = ps.length := by simp at hj; omega
        subst hje
        rw [if_pos rfl, if_pos (by omega)]; simp
    · have h1 : x ≠ Q := fun e => by subst e; exact (ht _ _ _ HB.out).1 rfl
      have h2 : x ≠ b := fun e => by subst e; exact (ht _ _ _ hblk).2 rfl
      exact (Below.heap_setCell _ _ _ _ h1).trans (k5 x hx h2)
  · have HNO : Hid (a = none → ps.length = 0 ∧ c = 0) := fun h => by have := hz h; exact ⟨by omega, this⟩
    have HOL : Hid (∀ b, a = some b → ∀ j u, ps[j]? = some u → (w.alloc (.cells #[.pointer pa] 148)).cell? (b.add j) = some u) := fun b0 ha j u hu => by
      obtain ⟨hj, rfl⟩ := List.getElem?_eq_some_iff.1 hu
      obtain ⟨b, o, cur, rfl, hlb, hblk, hoc, hcell⟩ := h5 (by omega)
      cases ha
      have hbA : (w.alloc (.cells #[.pointer pa] 148)).heap[b]? = some (.cells cur 148 (0, 0)) := (old_blk w _ (Array.getElem?_eq_some_iff.1 hblk).1).trans hblk
      rw [Addr.add_lit]
      simp [World.cell?, hbA, hcell j hj]
    clear h5 hb hz
    go_enter Tryz.func80, Tryz.ntmps80
    go_wp2_with (at_builtin; refine wpList_append_grows _ rfl _ _ 144 rfl 148 iw _ 1 8 Tryz.underlying144 hiw wz0 wz1 wz2 rfl (by decide) a ps.length c ps rfl HNO.out (by simp) HOL.out ⟨w.heap.size, 0, none⟩ 1 1 [.pointer pa] rfl rfl HN.out (by intro u hu; simp at hu; subst hu; rfl) (by omega) (by unfold maxLen; omega) (by omega) ?_; intro v' w5 hown5 hg5; obtain ⟨g5, c5, rfl, hlg0, hgl0⟩ := hown5.form (by omega); have q5 : w5.heap[Q]? = some (.cells #[.slice a ps.length c] 146 (0, 0)) := (grown_heap hg5 Q (by simp; omega)).trans ((old_blk w _ hQl).trans HB.out); have u0 : w5.cell? ⟨Q, 0, none⟩ = some (.slice a ps.length c) := (by simp [World.cell?, q5]); have uf : w5.frozen? ⟨Q, 0, none⟩ = false := (by simp [World.frozen?, q5]))
    obtain ⟨_, ⟨_, h0⟩ | ⟨g5', c5', cur5, hv5, hlg, hbg, hcc, hcm5, hcs, htk⟩⟩ := hown5
    · omega
    · cases hv5
      have hgl : w.heap.size < g5 ∨ w.heap.size ≤ g5 := .inr (by simp at hlg; omega)
      have hgQ : g5 ≠ Q := by simp at hlg; omega
      first | go_end0 | refine bodyPost_ret (results_none rfl _ _ _) rfl ?_
      refine ⟨rfl, ⟨_, by rw [heap_setCell_same w5 Q 0 _ _ _ q5]; rfl, ⟨_, c5, by rw [List.length_append, List.length_singleton], by rw [List.length_append, List.length_singleton]; omega, hcm5, fun h => (by cases h), fun _ => ⟨g5, 0, cur5, rfl, by simp at hlg; omega, (Below.heap_setCell _ _ _ _ hgQ).trans hbg, by omega, fun j hj => ?_⟩⟩⟩, (((Below.refl lo w).alloc hlw _).grown hg5 (by simp; omega) (fun k hk => by cases hk)).setCell (p := ⟨Q, 0, none⟩) hlo _, fun x hx ht => ?_⟩
      · have hjl : j < ps.length + 1 := by simpa using hj
        have h1 : (cur5.toList.take ((ps.length + 1) * 1))[j]? = (ps ++ [Value.pointer pa])[j]? := by rw [htk]
        rw [List.getElem?_take_of_lt (by omega), List.getElem?_eq_getElem hj, Array.getElem?_toList] at h1
        rw [Nat.zero_add]; exact h1
      · have h1 : x ≠ Q := fun e => by subst e; exact (ht _ _ _ HB.out).1 rfl
        exact (Below.heap_setCell _ _ _ _ h1).trans ((grown_heap hg5 x (by simp; omega)).trans (old_blk w _ hx))
end Go.Proofs.YtimgafblpmjajabGreat
namespace Go.Proofs.YtimgafblpmjajabGreat
open Go.RowKit Go.Maps

set_option maxHeartbeats 2000000 in
set_option maxRecDepth 100000 in
theorem watch_no {Cb k t : Nat} {w : World} {vr p : Value} (hb : w.heap[Cb]? = some (.cells #[numV k, vr] 113 (0, 0))) (ht : t ≠ k) (hp : ∃ a, p = .pointer a) :
    Calls Tryz.prog 60 #[.pointer (some ⟨Cb, 0, none⟩), p, .int .i64 (t : Int)] w fun e w' => e = .returned (.int .i64 0) ∧ w' = w := by
  obtain ⟨a, rfl⟩ := hp
  have c0 : w.cell? ⟨Cb, 0, none⟩ = some (.int .i64 (k : Int)) := by simp [World.cell?, hb, numV]
  have hne : ((t : Int) != (k : Int)) = true := by rw [bne_iff_ne]; omega
  clear hb
  go_enter Tryz.func60, Tryz.ntmps60
  go_wp2
  go_ret
  exact ⟨rfl, rfl⟩

set_option maxHeartbeats 2000000 in
set_option maxRecDepth 100000 in
theorem watch_yes {lo Cb k : Nat} {w : World} {vr p : Value} {c : List Nat} (hlo : lo ≤ Cb) (hlw : lo ≤ w.heap.size) (hb : w.heap[Cb]? = some (.cells #[numV k, vr] 113 (0, 0))) (h : Wy lo w p c) (hc : c.length ≤ 1048575) :
    Calls Tryz.prog 60 #[.pointer (some ⟨Cb, 0, none⟩), p, .int .i64 (k : Int)] w fun e w' => e = .returned (.int .i64 1) ∧ (∃ v', w'.heap[Cb]? = some (.cells #[numV k, v'] 113 (0, 0)) ∧ w'.ownsRow lo 3 1 v' c.length (c.reverse.map numV)) ∧ Below lo w w' := by
  have hp : ∃ a, p = .pointer a := by
    cases c with
    | nil => exact ⟨none, h⟩
    | cons x r => obtain ⟨b, q, h1, _⟩ := h; exact ⟨_, h1⟩
  have hpl := places_any h hc
  obtain ⟨a, rfl⟩ := hp
  have hCl : Cb < w.heap.size := (Array.getElem?_eq_some_iff.1 hb).1
  have c0 : w.cell? ⟨Cb, 0, none⟩ = some (.int .i64 (k : Int)) := by simp [World.cell?, hb, numV]
  have HB : Hid (w.heap[Cb]? = some (.cells #[numV k, vr] 113 (0, 0))) := hb
  clear hb h
  go_enter Tryz.func60, Tryz.ntmps60
  go_wp2_with fail
  refine hpl.mono ?_
  rintro e w1 ⟨v1, rfl, h1, hb1⟩
  have hb1' := (hb1.block Cb hCl).trans HB.out
  have c1 : w1.cell? ⟨Cb, 1, none⟩ = some vr := by simp [World.cell?, hb1']
  have f1 : w1.frozen? ⟨Cb, 1, none⟩ = false := by simp [World.frozen?, hb1']
  obtain ⟨a1, k1, rfl, _, _⟩ := row_form h1
  go_wp2
  go_ret
  refine ⟨rfl, ⟨_, by rw [heap_setCell_same w1 Cb 1 _ _ _ hb1']; rfl, ?_⟩, (hb1.mono hlw).setCell (p := ⟨Cb, 1, none⟩) hlo _⟩
  exact own_block (own_mono h1 hlw) (fun b hb => Below.heap_setCell _ _ _ _ (fun e' => blk_ne hb1' h1 (by decide) (by rw [hb]; exact congrArg some e')))

/-- The marks of a search: the first place, and those from which a way back is known. -/
def Mks (k : Nat) (s : List Int) (D : DataW Unit) : Prop := IsMap D ∧ ∀ t (ht : t < s.length), D.atKey (.int .i64 (t : Int)) (.lit (.int .i64 0)) = .lit (.int .i64 (if t = k ∨ ¬ s[t] < 0 then 1 else 0))
theorem mks_start (k N : Nat) (hk : k ≤ 1048576) {D : DataW Unit} (hD : IsMap D) (h0 : ∀ t : Nat, D.atKey (.int .i64 (t : Int)) (.lit (.int .i64 0)) = .lit (.int .i64 0)) : Mks k (List.replicate N (-1)) (D.put (.int .i64 (k : Int)) (.lit (.int .i64 1))) := by
  refine ⟨hD.put _ _, fun t ht => ?_⟩
  by_cases he : t = k
  · subst he
    rw [atKey_put_same hD (law3.key (key3 t hk)), if_pos (.inl rfl)]
  · have hne : (Lit.int IntKind.i64 (t : Int)) ≠ .int .i64 (k : Int) := fun e => he (by injection e with e1 e2; omega)
    rw [atKey_put_other hne, h0 t, if_neg (by simp [he])]
theorem mks_put {k t : Nat} {x : Nat} {s : List Int} {D : DataW Unit} (h : Mks k s D) (ht : t ≤ 1048576) : Mks k (s.set t (x : Int)) (D.put (.int .i64 (t : Int)) (.lit (.int .i64 1))) := by
  refine ⟨h.1.put _ _, fun j hj => ?_⟩
  have hj' : j < s.length := by simpa using hj
  by_cases he : j = t
  · subst he
    rw [atKey_put_same h.1 (law3.key (key3 j ht)), if_pos (.inr (by simp))]
  · have hne : (Lit.int IntKind.i64 (j : Int)) ≠ .int .i64 (t : Int) := fun e => he (by injection e with e1 e2; omega)
    rw [atKey_put_other hne, h.2 j hj']
    simp only [List.getElem_set_ne (Ne.symm he)]

/-- A search of ways: what waits, what was met. -/
structure Nst (lo Q mk Cb k N i : Nat) (w : World) (s : List Int × List Nat) (C : List (List Nat)) (ps : List (Option Addr)) : Prop where
  que : ∃ v, w.heap[Q]? = some (.cells #[v] 146 (0, 0)) ∧ Qu lo w v ((ps.drop i).map Value.pointer)
  len : ps.length = s.2.length
  ways : ∀ (j : Nat) (pa : Option Addr) (c : List Nat), ps[j]? = some pa → C[j]? = some c → Wy lo w (.pointer pa) c
  map : ∃ n D, w.ownsMap Tryz.prog 3 (plainElem Tryz.prog 108) mk n D ∧ Mks k s.1 D ∧ n ≤ s.2.length
  clo : w.heap[Cb]? = some (.cells #[numV k, .slice none 0 0] 113 (0, 0))
  ri : RI N k s
  cs : Cs k s C
theorem Nst.keep {lo Q mk Cb k N i : Nat} {w w' : World} {s : List Int × List Nat} {C : List (List Nat)} {ps : List (Option Addr)} (h : Nst lo Q mk Cb k N i w s C ps) (hb : ∀ b, b < w.heap.size → w'.heap[b]? = w.heap[b]?) : Nst lo Q mk Cb k N i w' s C ps := by
  obtain ⟨v, h1, h2⟩ := h.que
  obtain ⟨n, D, h3, h4, h5⟩ := h.map
  have kb : ∀ (b : Nat) (o : Obj), w.heap[b]? = some o → w'.heap[b]? = w.heap[b]? := fun b o e => hb b (Array.getElem?_eq_some_iff.1 e).1
  exact ⟨⟨v, (kb _ _ h1).trans h1, h2.keep (fun b cs fr e => kb b _ e)⟩, h.len, fun j pa c e1 e2 => (h.ways j pa c e1 e2).keep (fun b cs fr e => kb b _ e), ⟨n, D, map_keep h3 (hb mk h3.lt), h4, h5⟩, (kb _ _ h.clo).trans h.clo, h.ri, h.cs⟩
theorem Kq.way {w w' : World} (h : Kq w w') (b : Nat) (cs : Array Value) (fr : Nat × Nat) (e : w.heap[b]? = some (.cells cs 150 fr)) : w'.heap[b]? = w.heap[b]? :=
  h b (Array.getElem?_eq_some_iff.1 e).1 (fun cs' t fr' e' => by rw [e] at e'; simp at e'; rw [← e'.2.1]; decide)
theorem Kq.clo {w w' : World} (h : Kq w w') (b : Nat) (cs : Array Value) (fr : Nat × Nat) (e : w.heap[b]? = some (.cells cs 113 fr)) : w'.heap[b]? = w.heap[b]? :=
  h b (Array.getElem?_eq_some_iff.1 e).1 (fun cs' t fr' e' => by rw [e] at e'; simp at e'; rw [← e'.2.1]; decide)
theorem Kq.map {w w' : World} (h : Kq w w') {b n : Nat} {k : TypeId} {R : Value → Option (DataW Unit × List MemPlace)} {D : DataW Unit} (hm : w.ownsMap Tryz.prog k R b n D) : w'.ownsMap Tryz.prog k R b n D :=
  map_keep hm (h b hm.lt (fun cs t fr e => by obtain ⟨es, clock, hh, r⟩ := hm; rw [hh] at e; cases e))
/-- One that waited is taken. -/
theorem Nst.take {lo Q mk Cb k N i : Nat} {w w' : World} {s : List Int × List Nat} {C : List (List Nat)} {ps : List (Option Addr)} {v' : Value} (h : Nst lo Q mk Cb k N i w s C ps) (hq : w'.heap[Q]? = some (.cells #[v'] 146 (0, 0))) (hu : Qu lo w' v' ((ps.drop (i + 1)).map Value.pointer)) (hk : Kq w w') : Nst lo Q mk Cb k N (i + 1) w' s C ps := by
  obtain ⟨n, D, h3, h4, h5⟩ := h.map
  exact ⟨⟨v', hq, hu⟩, h.len, fun j pa c e1 e2 => (h.ways j pa c e1 e2).keep hk.way, ⟨n, D, hk.map h3, h4, h5⟩, (hk.clo _ _ _ h.clo).trans h.clo, h.ri, h.cs⟩
/-- One more is met, and waits. -/
theorem Nst.put {lo Q mk Cb k N i e x t n : Nat} {w w1 w3 : World} {s : List Int × List Nat} {C : List (List Nat)} {ps : List (Option Addr)} {v' : Value} {c : List Nat} {pe : Option Addr} {D : DataW Unit} (h : Nst lo Q mk Cb k N i w s C ps)
    (hx : s.2[e]? = some x) (hc : C[e]? = some (x :: c)) (hpe : ps[e]? = some pe) (ht : t < N) (htk : t ≠ k) (hneg : (s.1[t]?).getD 0 < 0) (hi : i ≤ ps.length) (ht2 : t ≤ 1048576) (hlo : lo ≤ w1.heap.size)
    (hm0 : w.ownsMap Tryz.prog 3 (plainElem Tryz.prog 108) mk n D) (hM : Mks k s.1 D) (hn : n ≤ s.2.length) (hm : w1.ownsMap Tryz.prog 3 (plainElem Tryz.prog 108) mk (n + 1) (D.put (.int .i64 (t : Int)) (.lit (.int .i64 1)))) (hg : w.grownBy w1 (some mk))
    (hq : w3.heap[Q]? = some (.cells #[v'] 146 (0, 0))) (hu : Qu lo w3 v' ((ps.drop i).map Value.pointer ++ [.pointer (some ⟨w1.heap.size, 0, none⟩)])) (hk : Kq (w1.alloc (.cells #[.int .i64 (t : Int), .pointer pe] 150)) w3) :
    Nst lo Q mk Cb k N i w3 (s.1.set t (x : Int), s.2 ++ [t]) (C ++ [t :: x :: c]) (ps ++ [some ⟨w1.heap.size, 0, none⟩]) := by
  have htl : t < s.1.length := by rw [h.ri.len]; exact ht
  have kw : ∀ (b : Nat) (cs : Array Value) (ty : TypeId) (fr : Nat × Nat), w.heap[b]? = some (.cells cs ty fr) → (w1.alloc (.cells #[.int .i64 (t : Int), .pointer pe] 150)).heap[b]? = w.heap[b]? := fun b cs ty fr e1 => by
    have hb : b < w.heap.size := (Array.getElem?_eq_some_iff.1 e1).1
    rw [old_blk _ _ (Nat.lt_of_lt_of_le hb hg.size)]
    exact grown_keep hg hb (fun e2 => map_ne hm0 e1 (Option.some.inj e2))
  have kway : ∀ (b : Nat) (cs : Array Value) (fr : Nat × Nat), w.heap[b]? = some (.cells cs 150 fr) → w3.heap[b]? = w.heap[b]? := fun b cs fr e1 => by
    have h1 := kw b cs _ fr e1
    exact (hk.way b cs fr (h1.trans e1)).trans h1
  refine ⟨⟨v', hq, ?_⟩, by simp [h.len], ?_, ⟨n + 1, _, hk.map (hm.alloc _), mks_put hM ht2, by simp; omega⟩, ?_, h.ri.put hx ht htk hneg, h.cs.put hx hc htl htk hneg⟩
  · rw [List.drop_append_of_le_length hi, List.map_append]; exact hu
  · intro j pa cc e1 e2
    by_cases hj : j < ps.length
    · rw [List.getElem?_append_left hj] at e1
      rw [List.getElem?_append_left (by rw [h.cs.len, ← h.len]; exact hj)] at e2
      exact (h.ways j pa cc e1 e2).keep kway
    · have hje : j = ps.length := by
        rcases Nat.lt_or_ge j (ps ++ [some (⟨w1.heap.size, 0, none⟩ : Addr)]).length with h1 | h1
        · simp at h1; omega
        · rw [List.getElem?_eq_none h1] at e1; cases e1
      subst hje
      rw [List.getElem?_append_right (Nat.le_refl _)] at e1
      simp at e1
      subst e1
      rw [List.getElem?_append_right (by rw [h.cs.len, h.len]; exact Nat.le_refl _), h.cs.len, h.len] at e2
      simp at e2
      subst e2
      refine ⟨w1.heap.size, .pointer pe, rfl, hlo, ?_, (h.ways e pe (x :: c) hpe hc).keep kway⟩
      have h1 : (w1.alloc (.cells #[.int .i64 (t : Int), .pointer pe] 150)).heap[w1.heap.size]? = some (.cells #[numV t, .pointer pe] 150 (0, 0)) := new_blk _ _
      exact (hk.way _ _ _ h1).trans h1
  · have h1 := kw _ _ _ _ h.clo
    exact ((hk.clo _ _ _ (h1.trans h.clo)).trans h1).trans h.clo

set_option maxHeartbeats 8000000 in
set_option maxRecDepth 100000 in
theorem nearest_any {lo B g Cb : Nat} {w : World} {r m f st ve : Value} {S : List Value} {E : List Eg} {N k : Nat} (hG : Grb lo B g w r m f st ve S E N) (hlo : lo ≤ Cb) (hlw : lo ≤ w.heap.size) (hb : w.heap[Cb]? = some (.cells #[numV k, .slice none 0 0] 113 (0, 0)))
    (hE : ∀ e ∈ E, e.to < (N : Int)) (hEl : E.length ≤ 1048576) (hN : N ≤ 1000000) (hk : k < N) :
    Calls Tryz.prog 59 #[.int .i64 (k : Int), .func (.func 39) #[.pointer (some ⟨B, 0, none⟩)] #[], .func (.func 60) #[.pointer (some ⟨Cb, 0, none⟩)] #[]] w fun e w' => e = .returned (.tuple #[]) ∧
      (∃ v', w'.heap[Cb]? = some (.cells #[numV k, v'] 113 (0, 0)) ∧ w'.ownsRow lo 3 1 v' (ringK E N k).length ((ringK E N k).map numV)) ∧ Below lo w w' := by
  have hmm := @run_makeMap Tryz.prog
  have hm0 := World.ownsMap_made (H := Unit) w Tryz.prog 3 (plainElem Tryz.prog 108)
  obtain ⟨w1, hup, hm1, hg1⟩ := hm0.update (t := 78) law3 Tryz.underlying78 (by unfold maxLen; omega) (key3 k (by omega)) (plainElem_int (a := 1) Tryz.markInt (by decide))
  have hMk : Mks k (List.replicate N (-1)) ((DataW.map []).put (.int .i64 (k : Int)) (.lit (.int .i64 1))) := mks_start k N (by omega) isMap_empty (fun t => rfl)
  have hB1 : Below lo w w1 := ((Below.refl lo w).alloc hlw _).grown hg1 (by simp; omega) (fun b e => by cases e; omega)
  have hbC1 : w1.heap[Cb]? = some (.cells #[numV k, .slice none 0 0] 113 (0, 0)) := by
    have hCl : Cb < w.heap.size := (Array.getElem?_eq_some_iff.1 hb).1
    rw [grown_keep hg1 (by simp; omega) (fun e => by cases e; omega), old_blk w _ hCl]; exact hb
  have hw1 : w.heap.size < w1.heap.size := by have := hg1.size; simp at this; omega
  obtain ⟨mk, hmk⟩ : ∃ mk, mk = w.heap.size := ⟨_, rfl⟩
  rw [← hmk] at hm1
  have hlm : lo ≤ mk := by omega
  have hmkw : mk < w1.heap.size := by omega
  obtain ⟨DM, hDM⟩ : ∃ DM, DM = (DataW.map []).put (.int .i64 (k : Int)) (.lit (.int .i64 1)) := ⟨_, rfl⟩
  rw [← hDM] at hm1 hMk
  have HMM : Hid (mk = w.heap.size) := hmk
  have HG : Hid (Grb lo B g w r m f st ve S E N) := hG
  have HE : Hid (∀ e ∈ E, e.to < (N : Int)) := hE
  have HA : Hid (w1.ownsMap Tryz.prog 3 (plainElem Tryz.prog 108) mk (0 + 1) DM ∧ Mks k (List.replicate N (-1)) DM ∧ Below lo w w1 ∧ w1.heap[Cb]? = some (.cells #[numV k, .slice none 0 0] 113 (0, 0))) := ⟨hm1, hMk, hB1, hbC1⟩
  have hlo1 : lo ≤ w1.heap.size := by omega
  clear hm0 hm1 hg1 hMk hB1 hbC1 hmk hDM hb hG hE
  go_enter Tryz.func59, Tryz.ntmps59
  go_wp2_with fail
  rw [← HMM.out]
  obtain ⟨V, hV⟩ : ∃ V, V = (w1.alloc (.cells #[.slice none 0 0] 146)).alloc (.cells #[.int .i64 (k : Int), .pointer none] 150) := ⟨_, rfl⟩
  have hVs : V.heap.size = w1.heap.size + 2 := by rw [hV]; simp
  have kV : ∀ b, b < w1.heap.size → V.heap[b]? = w1.heap[b]? := fun b hb => by rw [hV, old_blk _ _ (by simp; omega), old_blk _ _ hb]
  have qV : V.heap[w1.heap.size]? = some (.cells #[.slice none 0 0] 146 (0, 0)) := by rw [hV, old_blk _ _ (by simp)]; exact new_blk _ _
  have wV : V.heap[w1.heap.size + 1]? = some (.cells #[numV k, .pointer none] 150 (0, 0)) := by
    rw [hV]; have h := new_blk (w1.alloc (.cells #[.slice none 0 0] 146)) (.cells #[.int .i64 (k : Int), .pointer none] 150); rw [World.size_alloc] at h; exact h
  have hBV : Below lo w V := by rw [hV]; exact (HA.out.2.2.1.alloc hlo1 _).alloc (by simp; omega) _
  have hput := qput_any (lo := lo) (pa := some ⟨w1.heap.size + 1, 0, none⟩) (ps := []) hlo1 (by omega) qV ⟨none, 0, rfl, by simp, by unfold maxLen; omega, fun _ => rfl, fun h => absurd h (by omega)⟩ (by simp)
  have HV : Hid (V = (w1.alloc (.cells #[.slice none 0 0] 146)).alloc (.cells #[.int .i64 (k : Int), .pointer none] 150)) := hV
  rw [← hV]
  refine hput.mono ?_
  rintro e w3 ⟨rfl, ⟨v3, hq3, hu3⟩, hb3, hk3⟩
  have hN3 : Nst lo w1.heap.size mk Cb k N 0 w3 (List.replicate N (-1), [k]) [[k]] [some ⟨w1.heap.size + 1, 0, none⟩] := by
    obtain ⟨h1, h2, h3, h4⟩ := HA.out
    refine ⟨⟨v3, hq3, hu3⟩, rfl, ?_, ⟨1, DM, hk3.map (map_keep h1 (kV mk hmkw)), h2, Nat.le_refl _⟩, ?_, RI.start N k hk, Cs.start N k⟩
    · intro j pa c e1 e2
      have hj : j = 0 := by
        rcases Nat.lt_or_ge j 1 with h | h
        · omega
        · rw [List.getElem?_eq_none (by simpa using h)] at e1; cases e1
      subst hj
      simp at e1 e2
      subst e1
      subst e2
      exact ⟨w1.heap.size + 1, .pointer none, rfl, by omega, (hk3.way _ _ _ wV).trans wV, rfl⟩
    · have h5 := (kV Cb (Array.getElem?_eq_some_iff.1 h4).1).trans h4
      exact (hk3.clo _ _ _ h5).trans h5
  have hB3 : Below lo w w3 := hBV.trans hb3
  obtain ⟨Q, hQ⟩ : ∃ Q, Q = w1.heap.size := ⟨_, rfl⟩
  obtain ⟨pa0, hpa0⟩ : ∃ pa0 : Option Addr, pa0 = some ⟨w1.heap.size + 1, 0, none⟩ := ⟨_, rfl⟩
  have hlQ : lo ≤ Q := by omega
  rw [← hpa0, ← hQ] at hN3
  rw [← hQ] at hq3
  obtain ⟨v0, hq0, hu0⟩ := hN3.que
  have htk0 := qtake_some (lo := lo) (Q := Q) (pa := pa0) (ps := []) hlQ hq0 hu0 (by simp)
  have hlo3 : lo ≤ w3.heap.size := Nat.le_trans hlw hB3.size
  clear hput hV kV qV wV hBV hq3 hu3 hk3 HV hb3 HA hup hmm hq0 hu0 hVs
  rw [← hQ]
  clear hQ hpa0
  go_wp2_with fail
  refine htk0.mono ?_
  rintro e w4 ⟨rfl, ⟨v4, hq4, hu4⟩, hb4, hk4⟩
  have hN4 := hN3.take hq4 hu4 hk4
  have hB4 := hB3.trans hb4
  clear hN3 hB3 hq4 hu4 hk4 hb4 htk0
  obtain ⟨R0, hR0⟩ : ∃ R0, R0 = rout E k (N + 1) 0 (List.replicate N (-1), [k]) := ⟨_, rfl⟩
  have HRK : Hid (ringK E N k = ringOut k N R0) := by unfold Hid ringK; rw [hR0]
  have HR0 : Hid (rout E k (N + 1 - 0) 0 (List.replicate N (-1), [k]) = R0) := hR0.symm
  clear hR0
  go_wp2
  go_loopg [8, 9] (N + 2) (fun gk p mo wr => (∃ (e : Nat) (s : List Int × List Nat) (C : List (List Nat)) (ps : List (Option Addr)) (pa : Option Addr), mo = .bool true ∧ p = .pointer pa ∧ ps[e]? = some pa ∧ gk = N + 2 - e ∧ Nst lo Q mk Cb k N (e + 1) wr s C ps ∧ Hid (rout E k (N + 1 - e) e s = R0) ∧ Below lo w wr) ∨
    (mo = .bool false ∧ (∃ a, p = .pointer a) ∧ Hid (R0 = none) ∧ wr.heap[Cb]? = some (.cells #[numV k, .slice none 0 0] 113 (0, 0)) ∧ Below lo w wr))
  case atStart => exact .inl ⟨0, _, _, _, pa0, rfl, rfl, rfl, by omega, hN4, HR0.out, hB4⟩
  case round =>
    rcases hrel with ⟨e, s, C, ps, pa, rfl, rfl, hpa, hgk, hNs, hRo, hBr⟩ | ⟨rfl, ⟨a, rfl⟩, hRn, hcl, hBr⟩
    · have hel : e < s.2.length := by
        rw [← hNs.len]
        rcases Nat.lt_or_ge e ps.length with h1 | h1
        · exact h1
        · rw [List.getElem?_eq_none h1] at hpa; cases hpa
      have hroom := hNs.ri.room
      obtain ⟨x, hx⟩ : ∃ x, s.2[e]? = some x := ⟨_, List.getElem?_eq_getElem hel⟩
      have hxN : x < N := hNs.ri.lt x (List.mem_of_getElem? hx)
      obtain ⟨c, hCe, hCh, hcl⟩ := hNs.cs.at hx
      have hwy := hNs.ways e pa _ hpa hCe
      obtain ⟨b, q, hpb, hlb, hbk, hwq⟩ := id hwy
      have hpb' : pa = some ⟨b, 0, none⟩ := by injection hpb
      subst hpb'
      have m0 : wr.cell? ⟨b, 0, none⟩ = some (.int .i64 (x : Int)) := by simp [World.cell?, hbk, numV]
      have hlt0 := leadsTo_any (HG.out.below hBr) x hxN
      have hLl := leadsOf_len E x
      have HLT : Hid (∀ t ∈ leadsOf E x, t < N) := leadsOf_lt HE.out x
      have HRR : Hid (R0 = if (rinL k x (leadsOf E x) s).1 then some (x, (rinL k x (leadsOf E x) s).2.1) else rout E k (N + 1 - (e + 1)) (e + 1) (rinL k x (leadsOf E x) s).2) := by
        unfold Hid
        rw [← hRo.out, show N + 1 - e = (N + 1 - (e + 1)) + 1 by omega, rout_at hx]
      obtain ⟨L, hL⟩ : ∃ L, L = leadsOf E x := ⟨_, rfl⟩
      rw [← hL] at hlt0 hLl HLT HRR
      have hlr : lo ≤ wr.heap.size := Nat.le_trans hlw hBr.size
      have HNS : Hid (Nst lo Q mk Cb k N (e + 1) wr s C ps) := hNs
      have HX : Hid (s.2[e]? = some x ∧ C[e]? = some (x :: c) ∧ ps[e]? = some (some ⟨b, 0, none⟩) ∧ Chn s.1 k (x :: c) ∧ c.length ≤ e ∧ Wy lo wr (.pointer (some ⟨b, 0, none⟩)) (x :: c)) := ⟨hx, hCe, hpa, hCh, hcl, hwy⟩
      clear hx hCe hpa hCh hcl hwy hpb hbk hwq hNs hL hRo
      go_wp2_with fail
      refine hlt0.mono ?_
      rintro e' w5 ⟨vl, rfl, hvl, hb5⟩
      have hN5 := HNS.out.keep (fun b hb => hb5.block b hb)
      have hB5 : Below lo w w5 := hBr.trans (hb5.mono hlr)
      have hlo5 : lo ≤ w5.heap.size := Nat.le_trans hlr hb5.size
      obtain ⟨al, cl', rfl, hcl', hcell⟩ := hvl
      have HC : Hid (∀ i (hi : i < L.length), ∃ b o, al = some ⟨b, o, none⟩ ∧ b < lo ∧ w5.cell? ⟨b, o + i, none⟩ = some (numV L[i])) := hcell
      clear hcell hb5 hlt0 HNS m0
      obtain ⟨wo, rfl⟩ : ∃ wo, wo = wr := ⟨_, rfl⟩
      obtain ⟨X, hX⟩ : ∃ X, X = rinL k x L s := ⟨_, rfl⟩
      rw [← hX] at HRR
      have HX0 : Hid (rinL k x L s = X) := hX.symm
      clear hX
      go_wp2
      go_loopw [35] (fun j wi => ∃ (n : Nat) (s' : List Int × List Nat) (C' : List (List Nat)) (ps' : List (Option Addr)), n ≤ L.length ∧ j = .int .i64 n ∧ Nst lo Q mk Cb k N (e + 1) wi s' C' ps' ∧ Hid (rinL k x (L.drop n) s' = X) ∧ s'.2[e]? = some x ∧ C'[e]? = some (x :: c) ∧ ps'[e]? = some (some ⟨b, 0, none⟩) ∧ Below lo w wi ∧ Below lo w5 wi) (fun j _ => L.length - (intOf j).toNat)
      case atStart => exact ⟨0, s, C, ps, Nat.zero_le _, rfl, hN5, HX0.out, HX.out.1, HX.out.2.1, HX.out.2.2.1, hB5, Below.refl _ _⟩
      case round =>
        obtain ⟨n, s', C', ps', hn, rfl, hNs, hrin, hxs, hCs, hps, hBw, hB5w⟩ := hrel
        have hel' : e + 1 ≤ ps'.length := by
          rcases Nat.lt_or_ge e ps'.length with h1 | h1
          · omega
          · rw [List.getElem?_eq_none h1] at hps; cases hps
        have hroom' := hNs.ri.room
        have hlen' := hNs.len
        have hlwi : lo ≤ wr.heap.size := Nat.le_trans hlw hBw.size
        have hwy := hNs.ways e _ _ hps hCs
        obtain ⟨c', hCe', hCh, hcl⟩ := hNs.cs.at hxs
        rw [hCs] at hCe'
        obtain rfl : c = c' := by simpa using hCe'
        by_cases hlt : n < L.length
        · obtain ⟨bb, o, rfl, hbb, hc0⟩ := HC.out n hlt
          have htN : L[n] < N := HLT.out _ (List.getElem_mem hlt)
          have m0 := below_cell0 hB5w hbb hc0
          have hdr := List.drop_eq_getElem_cons hlt
          have HRI := hrin
          unfold Hid at HRI
          rw [hdr, rinL_cons] at HRI
          obtain ⟨t, ht⟩ : ∃ t, t = L[n] := ⟨_, rfl⟩
          rw [← ht] at m0 htN HRI
          unfold numV at m0
          have HRJ : Hid ((if t = k then (true, s') else if (s'.1[t]?).getD 0 < 0 then rinL k x (L.drop (n + 1)) (s'.1.set t (x : Int), s'.2 ++ [t]) else rinL k x (L.drop (n + 1)) s') = X) := HRI
          have HNS : Hid (Nst lo Q mk Cb k N (e + 1) wr s' C' ps') := hNs
          have HXS : Hid (s'.2[e]? = some x ∧ C'[e]? = some (x :: c) ∧ ps'[e]? = some (some ⟨b, 0, none⟩) ∧ Chn s'.1 k (x :: c) ∧ c.length ≤ e) := ⟨hxs, hCs, hps, hCh, hcl⟩
          have hclo := hNs.clo
          clear ht hdr HRI hrin hc0 hCe'
          by_cases htk : t = k
          · subst htk
            have HFIN : Hid (ringK E N t = (x :: c).reverse) := by
              unfold Hid
              have h1 := HRJ.out
              rw [if_pos rfl] at h1
              rw [HRK.out, HRR.out, ← h1]
              simp only [if_true]
              exact ring_way hNs.ri hxs hCh hcl
            have hwt := watch_yes (k := t) hlo hlwi hclo hwy (by simp only [List.length_cons]; omega)
            clear hNs hxs hCs hps hCh hcl hwy hclo HRJ
            go_wp2_with fail
            refine hwt.mono ?_
            rintro e' w6 ⟨rfl, ⟨v6, hc6, ho6⟩, hb6⟩
            go_wp2
            first | go_end0 | refine bodyPost_ret (results_none rfl _ _ _) rfl ?_
            exact ⟨rfl, ⟨v6, hc6, by rw [HFIN.out, List.length_reverse]; exact ho6⟩, hBw.trans hb6⟩
          · have hwt := watch_no (p := .pointer (some ⟨b, 0, none⟩)) hclo htk ⟨_, rfl⟩
            obtain ⟨nm, DM', hm1, hm2, hm3⟩ := hNs.map
            have htl : t < s'.1.length := by rw [hNs.ri.len]; exact htN
            have hgD : (s'.1[t]?).getD 0 = s'.1[t] := by rw [List.getElem?_eq_getElem htl]; rfl
            have hat0 := hm2.2 t htl
            have hkey := key3 t (by omega)
            have hnm : nm < maxLen := by unfold maxLen; omega
            have HMK : Hid (Mks k s'.1 DM' ∧ nm ≤ s'.2.length ∧ t ≠ k) := ⟨hm2, hm3, htk⟩
            clear hm2 hm3 hxs hCs hps hCh hcl hwy hclo
            by_cases hneg : s'.1[t] < 0
            · rw [if_neg (by simp [htk, hneg])] at hat0
              have HAT : Hid (DM'.atKey (.int .i64 (t : Int)) (.lit (.int .i64 0)) = .lit (.int .i64 0)) := hat0
              have HRN : Hid (rinL k x (L.drop (n + 1)) (s'.1.set t (x : Int), s'.2 ++ [t]) = X) := by
                have h1 := HRJ.out
                rw [if_neg htk, if_pos (by rw [hgD]; exact hneg)] at h1
                exact h1
              have HNG : Hid ((s'.1[t]?).getD 0 < 0) := by unfold Hid; rw [hgD]; exact hneg
              clear hat0 HRJ hneg hgD htk
              go_wp2_with fail
              refine hwt.mono ?_
              rintro e' w6 ⟨rfl, rfl⟩
              go_wp2_with (first
                | (at_lookup; refine wpList_lookup_own_int _ rfl _ _ 78 rfl 3 108 .i64 law3 Tryz.underlying78 Tryz.markInt (zeroMark _) mk nm DM' rfl hm1 _ (.int .i64 (t : Int)) rfl hkey ?_; intro cc hat hwc; rw [HAT.out] at hat; obtain rfl : cc = 0 := (by simpa using hat.symm))
                | (at_mapUpdate; refine wpList_mapUpdate_own _ rfl _ _ _ 78 rfl 3 108 law3 Tryz.underlying78 (plainElem (H := Unit) Tryz.prog 108) mk nm DM' rfl hm1 hnm _ _ (.int .i64 (t : Int)) rfl rfl hkey _ [] (plainElem_int Tryz.markInt (by decide)) ?_; intro w7 hm7 hgrow7))
              obtain ⟨vq, hq8, hu8⟩ := HNS.out.que
              have kw : ∀ (bq : Nat) (cs : Array Value) (ty : TypeId) (fr : Nat × Nat), w6.heap[bq]? = some (.cells cs ty fr) → (w7.alloc (.cells #[.int .i64 (t : Int), .pointer (some ⟨b, 0, none⟩)] 150)).heap[bq]? = w6.heap[bq]? := fun bq cs ty fr e1 => by
                have hbq : bq < w6.heap.size := (Array.getElem?_eq_some_iff.1 e1).1
                rw [old_blk _ _ (Nat.lt_of_lt_of_le hbq hgrow7.size)]
                exact grown_keep hgrow7 hbq (fun e2 => map_ne hm1 e1 (Option.some.inj e2))
              have hs7 := hgrow7.size
              have hput := qput_any (lo := lo) (Q := Q) (pa := some ⟨w7.heap.size, 0, none⟩) hlQ (by simp; omega) ((kw _ _ _ _ hq8).trans hq8) (hu8.keep (fun bq cs fr e1 => kw bq cs _ fr e1)) (by simp; omega)
              have hB7 : Below lo w6 (w7.alloc (.cells #[.int .i64 (t : Int), .pointer (some ⟨b, 0, none⟩)] 150)) := ((Below.refl lo w6).grown hgrow7 hlwi (fun j e2 => by cases e2; exact hlm)).alloc (by omega) _
              refine hput.mono ?_
              rintro e' w8 ⟨rfl, ⟨v9, hq9, hu9⟩, hb9, hk9⟩
              have hN9 := HNS.out.put HXS.out.1 HXS.out.2.1 HXS.out.2.2.1 htN HMK.out.2.2 HNG.out hel' (by omega) (by omega) hm1 HMK.out.1 HMK.out.2.1 hm7 hgrow7 hq9 hu9 hk9
              have hel2 : e < s'.2.length := by omega
              have hB8 := hB7.trans hb9
              clear hput kw hq8 hu8 hq9 hu9 hk9 hm7 hgrow7
              go_wp2
              go_roundw
              case rel => exact ⟨n + 1, _, _, _, by omega, by go_num, hN9, HRN.out, by simp only []; rw [List.getElem?_append_left hel2]; exact HXS.out.1, by rw [List.getElem?_append_left (by rw [HNS.out.cs.len]; exact hel2)]; exact HXS.out.2.1, by rw [List.getElem?_append_left (by omega)]; exact HXS.out.2.2.1, hBw.trans hB8, hB5w.trans hB8⟩
              case measure => simp [intOf]; omega
            · rw [if_pos (.inr hneg)] at hat0
              have HAT : Hid (DM'.atKey (.int .i64 (t : Int)) (.lit (.int .i64 0)) = .lit (.int .i64 1)) := hat0
              have HRN : Hid (rinL k x (L.drop (n + 1)) s' = X) := by
                have h1 := HRJ.out
                rw [if_neg htk, if_neg (by rw [hgD]; exact hneg)] at h1
                exact h1
              clear hat0 HRJ hneg hgD htk
              go_wp2_with fail
              refine hwt.mono ?_
              rintro e' w6 ⟨rfl, rfl⟩
              go_wp2_with (at_lookup; refine wpList_lookup_own_int _ rfl _ _ 78 rfl 3 108 .i64 law3 Tryz.underlying78 Tryz.markInt (zeroMark _) mk nm DM' rfl hm1 _ (.int .i64 (t : Int)) rfl hkey ?_; intro cc hat hwc; rw [HAT.out] at hat; obtain rfl : cc = 1 := (by simpa using hat.symm))
              go_roundw
              case rel => exact ⟨n + 1, s', C', ps', by omega, by go_num, HNS.out, HRN.out, HXS.out.1, HXS.out.2.1, HXS.out.2.2.1, hBw, hB5w⟩
              case measure => simp [intOf]; omega
        · have HRE : Hid (X = (false, s')) := by unfold Hid; rw [← hrin.out, List.drop_eq_nil_of_le (by omega)]; rfl
          have HRO : Hid (rout E k (N + 1 - (e + 1)) (e + 1) s' = R0) := by unfold Hid; rw [HRR.out, HRE.out]; rfl
          obtain ⟨vq, hq8, hu8⟩ := hNs.que
          by_cases hmore : e + 1 < ps'.length
          · obtain ⟨p8, hp8⟩ : ∃ p8, ps'[e + 1]? = some p8 := ⟨_, List.getElem?_eq_getElem hmore⟩
            have hdp : (ps'.drop (e + 1)).map Value.pointer = .pointer p8 :: (ps'.drop (e + 2)).map Value.pointer := by
              rw [List.drop_eq_getElem_cons hmore, List.map_cons]
              rw [List.getElem?_eq_getElem hmore] at hp8
              rw [Option.some.inj hp8]
            rw [hdp] at hu8
            have htk8 := qtake_some (lo := lo) (Q := Q) hlQ hq8 hu8 (by simp; omega)
            clear hdp hu8 hq8 hrin HRE
            go_wp2_with fail
            refine htk8.mono ?_
            rintro e' w8 ⟨rfl, ⟨v9, hq9, hu9⟩, hb9, hk9⟩
            have hN9 := hNs.take hq9 hu9 hk9
            go_wp2
            go_roundg (N + 2 - (e + 1))
            case measure => omega
            case rel => exact .inl ⟨e + 1, s', C', ps', p8, rfl, rfl, hp8, rfl, hN9, HRO.out, hBw.trans hb9⟩
          · have hdp : (ps'.drop (e + 1)).map Value.pointer = [] := by rw [List.drop_eq_nil_of_le (by omega)]; rfl
            rw [hdp] at hu8
            have htk8 := qtake_none (lo := lo) (Q := Q) hq8 hu8
            have HNN : Hid (R0 = none) := by unfold Hid; rw [← HRO.out]; exact rout_end (by omega)
            have hclo := hNs.clo
            clear hdp hu8 hq8 hrin HRE
            go_wp2_with fail
            refine htk8.mono ?_
            rintro e' w8 ⟨rfl, rfl⟩
            go_wp2
            go_roundg 0
            case measure => omega
            case rel => exact .inr ⟨rfl, ⟨none, rfl⟩, HNN.out, hclo, hBw⟩
    · have HZ : Hid (ringK E N k = []) := by unfold Hid; rw [HRK.out, hRn.out]; rfl
      go_wp2
      first | go_end0 | refine bodyPost_ret (results_none rfl _ _ _) rfl ?_
      exact ⟨rfl, ⟨_, hcl, by rw [HZ.out]; exact World.ownsRow_nil _ _ _ _⟩, hBr⟩
end Go.Proofs.YtimgafblpmjajabGreat
namespace Go.Proofs.YtimgafblpmjajabGreat
open Go.RowKit Go.Maps

set_option maxHeartbeats 4000000 in
set_option maxRecDepth 100000 in
theorem ringFrom_any {B g : Nat} {w : World} {r m f st ve : Value} {S : List Value} {E : List Eg} {N k : Nat} (hG : Grb w.heap.size B g w r m f st ve S E N) (hE : ∀ e ∈ E, e.to < (N : Int)) (hEl : E.length ≤ 1048576) (hN : N ≤ 1000000) (hk : k < N) :
    Calls Tryz.prog 44 #[.pointer (some ⟨B, 0, none⟩), .int .i64 (k : Int)] w fun e w' => ∃ v', e = .returned v' ∧ w'.ownsRow w.heap.size 3 1 v' (ringK E N k).length ((ringK E N k).map numV) ∧ Below w.heap.size w w' := by
  have hmf : ∀ (fn : Fn) (first cap : Array Value) (w : World), (Instr.makeFunc fn first cap).run Tryz.prog w = .ok (.func fn first cap) w := fun _ _ _ _ => rfl
  obtain ⟨V, hV⟩ : ∃ V, V = w.alloc (.cells #[.int .i64 (k : Int), .slice none 0 0] 113) := ⟨_, rfl⟩
  have hBV : Below w.heap.size w V := by rw [hV]; exact (Below.refl _ _).alloc (Nat.le_refl _) _
  have hcV : V.heap[w.heap.size]? = some (.cells #[numV k, .slice none 0 0] 113 (0, 0)) := by rw [hV]; exact new_blk _ _
  have hnr := nearest_any (hG.below hBV) (Nat.le_refl _) hBV.size hcV hE hEl hN hk
  have HV : Hid (V = w.alloc (.cells #[.int .i64 (k : Int), .slice none 0 0] 113)) := hV
  clear hG hcV hV hE
  go_enter Tryz.func44, Tryz.ntmps44
  go_wp2_with fail
  rw [← HV.out]
  refine hnr.mono ?_
  rintro e w1 ⟨rfl, ⟨v1, hc1, ho1⟩, hb1⟩
  have c1 : w1.cell? ⟨w.heap.size, 1, none⟩ = some v1 := by simp [World.cell?, hc1]
  obtain ⟨a1, k1, rfl, _, _⟩ := row_form ho1
  have HO : Hid (w1.ownsRow w.heap.size 3 1 (.slice a1 (ringK E N k).length k1) (ringK E N k).length ((ringK E N k).map numV)) := ho1
  clear ho1 hc1 hnr
  go_wp2
  go_ret
  exact ⟨_, rfl, HO.out, hBV.trans hb1⟩

theorem ringK_no (N k : Nat) : ringK [] N k = [] := by
  unfold ringK
  have h : rout [] k (N + 1) 0 (List.replicate N (-1), [k]) = none := by
    rw [rout]
    simp only [List.getElem?_cons_zero, rin]
    exact rout_end (by simp)
  rw [h]; rfl
theorem bestUp_no (N : Nat) : ∀ n, bestUp [] N n = []
  | 0 => rfl
  | n + 1 => by
    rw [bestUp_succ, bestStep, ringK_no, if_neg (by simp)]; exact bestUp_no N n
set_option maxHeartbeats 1000000 in
set_option maxRecDepth 100000 in
theorem gnames_nil (pa : Option Addr) (w : World) :
    Calls Tryz.prog 41 #[.pointer pa, .slice none 0 0] w fun e w' => e = .returned (.slice none 0 0) ∧ w' = w := by
  go_enter Tryz.func41, Tryz.ntmps41
  go_wp2
  go_loopw [5, 10] (fun vo i wr => vo = .slice none 0 0 ∧ i = .int .i64 0 ∧ wr = w) (fun _ _ _ => 0)
  case atStart => exact ⟨rfl, rfl, rfl⟩
  case round =>
    obtain ⟨rfl, rfl, rfl⟩ := hrel
    go_wp2
    go_ret
    exact ⟨rfl, rfl⟩

set_option maxHeartbeats 8000000 in
set_option maxRecDepth 100000 in
theorem ring_ok : RingOk := by
  intro v D w h hD
  obtain ⟨a1, a2, a3, k1, k2, k3, rfl⟩ := h.agg'
  obtain ⟨W, hW⟩ : ∃ W, W = w.alloc (.cells #[.slice a1 D.roots.length k1, .slice a2 D.mods.length k2, .slice a3 D.faults.length k3] 32) := ⟨_, rfl⟩
  have hWB : Below w.heap.size w W := by rw [hW]; exact (Below.refl _ _).alloc (Nat.le_refl _) _
  have hWd := h.below hWB (Nat.le_refl _)
  have HW : Hid (W = w.alloc (.cells #[.slice a1 D.roots.length k1, .slice a2 D.mods.length k2, .slice a3 D.faults.length k3] 32)) := hW
  clear hW h
  by_cases hg : (wok D).1 = 0
  · have hcall := graphOf_good _ D W hWd hD hg
    have hmods : Mds W (.slice a2 D.mods.length k2) D.mods := by
      obtain ⟨r, m, f, hv, h1, h2, h3⟩ := hWd
      have : m = .slice a2 D.mods.length k2 := by simp at hv; exact hv.2.1.symm
      rw [← this]; exact h2
    have hmt : mdsT D.mods ≤ 1048576 := by unfold Wd.t at hD; omega
    have HMS : Hid (∀ m ∈ D.mods, m.name.length ≤ 1048576) := fun m hm => by
      have h1 : m.t ≤ (D.mods.map Md.t).sum := mem_le_sum _ _ (List.mem_map.2 ⟨m, hm, rfl⟩)
      exact (Md.small (m := m) (by unfold mdsT at hmt; omega)).1
    have hml := (wok_good hg).2.2
    have hEl := edgesOf_len D hD
    have hEt := edgesOf_to D
    have HNM : Hid (Nmd W.heap.size W (.slice a2 D.mods.length k2) D.mods) := by
      obtain ⟨a, cap, hv, hcap, hmax, hc⟩ := hmods
      cases hv
      exact ⟨a2, k2, rfl, hcap, fun k hk => by obtain ⟨b, o, s, ha, hb, h0, _⟩ := hc k hk; exact ⟨b, o, ha, hb, h0⟩⟩
    obtain ⟨E, hE⟩ : ∃ E, E = edgesOf D := ⟨_, rfl⟩
    have HRES : Hid (shortOf D = (bestUp E D.mods.length D.mods.length).map (nameK D.mods)) := by unfold Hid shortOf; rw [← hE]
    rw [← hE] at hcall hEl hEt
    have HBU : Hid (∀ n, n ≤ D.mods.length → (∀ y ∈ bestUp E D.mods.length n, y < D.mods.length) ∧ (bestUp E D.mods.length n).length ≤ D.mods.length) := bestUp_lt hEt
    have HET : Hid (∀ e ∈ E, e.to < (D.mods.length : Int)) := hEt
    clear hWd hg hD hmods hmt hEt hE
    go_enter Tryz.func21, Tryz.ntmps21
    go_wp2_with fail
    rw [← HW.out]
    refine hcall.mono ?_
    rintro e w1 ⟨B, mb, g, r, m, f, ve, S, DM, hagg, rfl, hG, hsh, hpl, hB⟩
    obtain ⟨rfl, rfl, rfl⟩ : r = .slice a1 D.roots.length k1 ∧ m = .slice a2 D.mods.length k2 ∧ f = .slice a3 D.faults.length k3 := by simp at hagg; exact ⟨hagg.1.symm, hagg.2.1.symm, hagg.2.2.symm⟩
    have c5 : w1.cell? ⟨B, 5, none⟩ = some (.slice (some ⟨g, 0, none⟩) D.mods.length D.mods.length) := hG.cells.2.2.2.2.2.1
    have HG1 : Hid (Grb w1.heap.size B g w1 (.slice a1 D.roots.length k1) (.slice a2 D.mods.length k2) (.slice a3 D.faults.length k3) (.map (some mb)) ve S E D.mods.length) := hG.grb
    clear hG hagg hsh hpl hcall
    have hl1 : W.heap.size ≤ w1.heap.size := hB.size
    go_wp2
    go_loopw [4, 14] (fun vb i wr => ∃ n : Nat, n ≤ D.mods.length ∧ i = .int .i64 n ∧ wr.ownsRow w1.heap.size 3 1 vb (bestUp E D.mods.length n).length ((bestUp E D.mods.length n).map numV) ∧ Below w1.heap.size w1 wr) (fun _ i _ => D.mods.length - (intOf i).toNat)
    case atStart => exact ⟨0, Nat.zero_le _, rfl, World.ownsRow_nil _ _ _ _, Below.refl _ _⟩
    case round =>
      obtain ⟨n, hn, rfl, hb, hBr⟩ := hrel
      have hsz := hBr.size
      obtain ⟨hb_lt, hb_len⟩ := HBU.out n hn
      have hst := bestUp_succ E D.mods.length n
      obtain ⟨b, hbe⟩ : ∃ b, b = bestUp E D.mods.length n := ⟨_, rfl⟩
      rw [← hbe] at hb hb_lt hb_len hst
      have HBE : Hid (b = bestUp E D.mods.length n) := hbe
      have HST : Hid (bestUp E D.mods.length (n + 1) = bestStep E D.mods.length b n) := hst
      have HBL : Hid (∀ y ∈ b, y < D.mods.length) := hb_lt
      clear hbe hst hb_lt
      obtain ⟨ab, cb, rfl, hcb, hgb⟩ := row_form hb
      by_cases hlt : n < D.mods.length
      · have hcall := ringFrom_any (k := n) ((HG1.out.below hBr).mono hsz) HET.out hEl (by omega) hlt
        obtain ⟨r, hr⟩ : ∃ r, r = ringK E D.mods.length n := ⟨_, rfl⟩
        have HS2 : Hid (bestStep E D.mods.length b n = if 0 < r.length ∧ (b.length = 0 ∨ r.length < b.length) then r else b) := by unfold Hid bestStep; rw [hr]
        have hrl : r.length ≤ D.mods.length := by rw [hr]; exact (ringK_lt HET.out hlt).2
        rw [← hr] at hcall
        clear hr
        go_wp2_with fail
        refine hcall.mono ?_
        rintro e w2 ⟨vr, rfl, rr2, hb2⟩
        obtain ⟨ar, cr, rfl, hcr, _⟩ := row_form rr2
        have hB2 : Below w1.heap.size w1 w2 := hBr.trans (hb2.mono hsz)
        have rr2' := own_mono rr2 hsz
        have bb2 := own_below hb hb2 (Nat.le_refl _)
        have HRW : Hid (w2.ownsRow w1.heap.size 3 1 (.slice ar r.length cr) r.length (r.map numV) ∧ w2.ownsRow w1.heap.size 3 1 (.slice ab b.length cb) b.length (b.map numV)) := ⟨rr2', bb2⟩
        clear hcall rr2 hb hb2 rr2' bb2
        by_cases hr0 : 0 < r.length
        · have hr0' : (0 : Int) < (r.length : Int) := by omega
          by_cases hb0 : b.length = 0
          · have HF : Hid (bestUp E D.mods.length (n + 1) = r) := by unfold Hid; rw [HST.out, HS2.out, if_pos ⟨hr0, .inl hb0⟩]
            have hbi : ((b.length : Int) == 0) = true := beq_iff_eq.2 (by omega)
            clear HS2 HST
            go_wp2
            go_roundw
            case rel => exact ⟨n + 1, by omega, by go_num, by rw [HF.out]; exact HRW.out.1, hB2⟩
            case measure => simp [intOf]; omega
          · have hbi : ((b.length : Int) == 0) = false := beq_eq_false_iff_ne.2 (by omega)
            by_cases hlb : r.length < b.length
            · have HF : Hid (bestUp E D.mods.length (n + 1) = r) := by unfold Hid; rw [HST.out, HS2.out, if_pos ⟨hr0, .inr hlb⟩]
              have hli : (r.length : Int) < (b.length : Int) := by omega
              clear HS2 HST
              go_wp2
              go_roundw
              case rel => exact ⟨n + 1, by omega, by go_num, by rw [HF.out]; exact HRW.out.1, hB2⟩
              case measure => simp [intOf]; omega
            · have HF : Hid (bestUp E D.mods.length (n + 1) = b) := by unfold Hid; rw [HST.out, HS2.out, if_neg (by omega)]
              have hli : ¬ (r.length : Int) < (b.length : Int) := by omega
              have hld : decide ((r.length : Int) < (b.length : Int)) = false := by simpa using hli
              clear HS2 HST
              go_wp2
              go_roundw
              case rel => exact ⟨n + 1, by omega, by go_num, by rw [HF.out]; exact HRW.out.2, hB2⟩
              case measure => simp [intOf]; omega
        · have HF : Hid (bestUp E D.mods.length (n + 1) = b) := by unfold Hid; rw [HST.out, HS2.out, if_neg (by omega)]
          have hr1 : ¬ (0 : Int) < (r.length : Int) := by omega
          have hrd : decide ((0 : Int) < (r.length : Int)) = false := by simpa using hr1
          clear HS2 HST
          go_wp2
          go_roundw
          case rel => exact ⟨n + 1, by omega, by go_num, by rw [HF.out]; exact HRW.out.2, hB2⟩
          case measure => simp [intOf]; omega
      · have hnN : n = D.mods.length := by omega
        have HR2 : Hid (shortOf D = b.map (nameK D.mods)) := by unfold Hid; rw [HBE.out, hnN]; exact HRES.out
        have hBW : Below W.heap.size W wr := hB.trans (hBr.mono hl1)
        have hnm := gnames_any ((HG1.out.below hBr).mono hsz) (Nat.le_refl _) D.mods ((HNM.out.below hBW).mono hBW.size) HMS.out _ b (ntl_own hb (Nat.le_refl _)) HBL.out (by omega)
        clear hnN HBE HST hb
        go_wp2_with fail
        refine hnm.mono ?_
        rintro e w4 ⟨v4, rfl, h4, hb4⟩
        obtain ⟨a4, c4, rfl, _, _⟩ := row_form h4
        have HO4 : Hid (w4.ownsRow w.heap.size 9 1 (.slice a4 b.length c4) (shortOf D).length ((shortOf D).map strV)) := by
          unfold Hid
          rw [HR2.out, List.length_map, List.map_map]
          exact own_mono h4 (by have := hWB.size; omega)
        clear h4
        go_wp2
        go_ret
        exact ⟨_, rfl, HO4.out, hWB.trans ((hBW.trans (hb4.mono hBW.size)).mono hWB.size)⟩
  · have hcall := graphOf_bad _ D W hWd hD hg
    have hE : shortOf D = [] := by
      have h1 : edgesOf D = [] := by unfold edgesOf; rw [if_neg hg]
      unfold shortOf; rw [h1, bestUp_no]; rfl
    rw [hE]
    clear hWd hg hE
    go_enter Tryz.func21, Tryz.ntmps21
    go_wp2_with fail
    rw [← HW.out]
    refine hcall.mono ?_
    rintro e w1 ⟨B, rfl, hWl, hG, hB⟩
    have c5 : w1.cell? ⟨B, 5, none⟩ = some (.slice none 0 0) := by unfold GBad at hG; simp [World.cell?, hG]
    clear hG
    go_wp2
    go_loopw [4, 14] (fun vb i wr => vb = .slice none 0 0 ∧ i = .int .i64 0 ∧ wr = w1) (fun _ _ _ => 0)
    case atStart => exact ⟨rfl, rfl, rfl⟩
    case round =>
      obtain ⟨rfl, rfl, rfl⟩ := hrel
      go_wp2_with fail
      refine (gnames_nil _ _).mono ?_
      rintro e w4 ⟨rfl, rfl⟩
      go_wp2
      go_ret
      exact ⟨_, rfl, World.ownsRow_nil _ _ _ _, hWB.trans (hB.mono hWB.size)⟩
end Go.Proofs.YtimgafblpmjajabGreat
