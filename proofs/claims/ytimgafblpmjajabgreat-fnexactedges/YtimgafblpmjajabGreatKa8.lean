import Derived.Test.YtimgafblpmjajabGreatRows
import Derived.WalkKit
import Derived.ProofKit
import Derived.OpenShut
import Derived.ShutString
import Derived.ChangeOld
import Derived.Below
import Derived.SliceStrings
import Derived.Deep.AppendLies
import Derived.Deep.RegionLaw
import Derived.Test.YtimgafblpmjajabGreatKa7
namespace Go.Proofs.YtimgafblpmjajabGreat

open Go.RowKit

theorem orderK_len (D : Wd) (n : List UInt8) : (orderK D n).length ≤ D.mods.length := by
  unfold orderK
  split
  · split
    · rename_i h0
      have hlt : toOf D nmain n < (D.mods.length : Int) := thereT_lt D _
      have h := (vis_inv (edgesOf_to D) (D.mods.length + 1) (toOf D nmain n).toNat _ 0 (by omega) (vinv_start D.mods.length)).1.2.1
      omega
    · simp
  · simp
theorem orderOf_len (D : Wd) (n : List UInt8) (hD : D.t ≤ 1048576) : (orderOf D n).length ≤ 1048576 := by
  have h := orderK_len D n
  unfold Wd.t mdsT at hD
  unfold orderOf; rw [List.length_map]; omega
/-- What is asked of impl.Order. -/
def OrderOk : Prop := ∀ (v : Value) (D : Wd) (n : ByteArray) (w : World), Wds w v D → D.t ≤ 1048576 → n.size ≤ 1048576 →
  Calls Tryz.prog 16 #[v, .string n] w fun e w' => ∃ v', e = .returned v' ∧ w'.ownsRow w.heap.size 9 1 v' (orderOf D n.data.toList).length ((orderOf D n.data.toList).map strV) ∧ Below w.heap.size w w'

set_option maxHeartbeats 16000000 in
set_option maxRecDepth 100000 in
theorem lawOrder (HI0 : OrderOk) (v : Value) (D : Wd) (nb : ByteArray) (w : World) (h : Wds w v D) (hok : D.ok) (hnm : nb.size ≤ maxLen) :
    Calls Tryz.prog 4 #[v, .string nb] w fun e w' => e = .returned (.bool true) ∧ Below w.heap.size w w' := by
  obtain ⟨a1, a2, a3, k1, k2, k3, rfl⟩ := h.agg
  obtain ⟨W, hW⟩ : ∃ W, W = w.alloc (.cells #[.slice a1 D.roots.length k1, .slice a2 D.mods.length k2, .slice a3 D.faults.length k3] 26) := ⟨_, rfl⟩
  have hWB : Below w.heap.size w W := by rw [hW]; exact (Below.refl _ _).alloc (Nat.le_refl _) _
  have hWs : W.heap.size = w.heap.size + 1 := by rw [hW]; simp
  have hW3 := new3 w (.slice a1 D.roots.length k1) (.slice a2 D.mods.length k2) (.slice a3 D.faults.length k3) 26
  rw [← hW] at hW3
  have hWd := h.below hWB (Nat.le_refl _)
  have HW : Hid (W = w.alloc (.cells #[.slice a1 D.roots.length k1, .slice a2 D.mods.length k2, .slice a3 D.faults.length k3] 26)) := hW
  have HD : Hid (Wds W (.agg #[.slice a1 D.roots.length k1, .slice a2 D.mods.length k2, .slice a3 D.faults.length k3]) D) := hWd
  have HI : Hid OrderOk := HI0
  unfold maxLen at hnm
  clear hW h HI0
  by_cases hnl : 1048576 < nb.size
  · go_enter Tryz.func4, Tryz.ntmps4
    go_wp2
    go_ret
    exact ⟨rfl, (Below.refl _ _).alloc (Nat.le_refl _) _⟩
  have hnb : nb.size ≤ 1048576 := by omega
  go_enter Tryz.func4, Tryz.ntmps4
  go_wp2_with fail
  rw [← HW.out]
  refine (szWorld_any _ D W hWd hok).mono ?_
  by_cases hle : D.t ≤ 1048576
  · rw [leftOf_step hle]
    obtain ⟨q, hq⟩ : ∃ q : Nat, q = 1048576 - D.t := ⟨_, rfl⟩
    rw [← hq]
    have hqb : q ≤ 1048576 := by omega
    have hEl := orderOf_len D nb.data.toList hle
    obtain ⟨E, hE⟩ : ∃ E, E = orderOf D nb.data.toList := ⟨_, rfl⟩
    have HE : Hid (E = orderOf D nb.data.toList) := hE
    rw [← hE] at hEl
    clear hq hE
    rintro e w1 ⟨rfl, B1⟩
    clear hWd
    obtain ⟨x0, x1, x2⟩ := keep3 B1 (by omega) hW3
    go_wp2_with fail
    refine (toWorld_any _ D w1 (HD.out.below B1 (Nat.le_refl _)) hle).mono ?_
    rintro e w2 ⟨v2, rfl, hv2, hb2⟩
    have B2 : Below W.heap.size W w2 := B1.trans (hb2.mono B1.size)
    clear hb2 x0 x1 x2 B1
    obtain ⟨y1, y2, y3, z1, z2, z3, rfl⟩ := hv2.agg
    go_wp2_with fail
    refine (specOrder_any _ D nb w2 hv2 hle hnb).mono ?_
    rw [← HE.out]
    rintro e w3 ⟨vw, rfl, rw3, hb3⟩
    have B3 : Below W.heap.size W w3 := B2.trans (hb3.mono B2.size)
    clear hb3 hv2
    obtain ⟨aw, cw, rfl, _, _⟩ := row_form rw3
    have hwlt : ∀ b, (Value.slice aw E.length cw).ownBlock = some b → b < w3.heap.size := fun b hb => (rw3.lt b hb).2
    have s23 := B3.size
    obtain ⟨x0, x1, x2⟩ := keep3 B3 (by omega) hW3
    go_wp2_with fail
    refine (toWorld_own _ D w3 (HD.out.below B3 (Nat.le_refl _)) hle).mono ?_
    rintro e w4 ⟨vx, rfl, hx4, hb4⟩
    have B4 : Below W.heap.size W w4 := B3.trans (hb4.mono B3.size)
    have rw4 := own_below rw3 hb4 (Nat.le_refl _)
    have s34 := hb4.size
    clear hb4 x0 x1 x2 rw3 B2
    obtain ⟨y1, y2, y3, z1, z2, z3, rfl⟩ := hx4.wds.agg
    obtain ⟨W4, hW4'⟩ : ∃ W4, W4 = w4.alloc (Obj.cells #[.slice y1 D.roots.length z1, .slice y2 D.mods.length z2, .slice y3 D.faults.length z3] 32) := ⟨_, rfl⟩
    have hc4 := new3 w4 (.slice y1 D.roots.length z1) (.slice y2 D.mods.length z2) (.slice y3 D.faults.length z3) 32
    rw [← hW4'] at hc4
    have hal : Below w4.heap.size w4 W4 := by rw [hW4']; exact (Below.refl _ _).alloc (Nat.le_refl _) _
    have hW4s : W4.heap.size = w4.heap.size + 1 := by rw [hW4']; simp
    have HW4 : Hid (W4 = w4.alloc (Obj.cells #[.slice y1 D.roots.length z1, .slice y2 D.mods.length z2, .slice y3 D.faults.length z3] 32)) := hW4'
    have BW4 : Below W.heap.size W W4 := B4.trans (hal.mono B4.size)
    have rwW4 := own_below rw4 hal (Nat.le_refl _)
    clear hW4' rw4
    go_wp2_with fail
    rw [← HW4.out]
    refine (HI.out _ D nb W4 (hx4.wds.below hal (Nat.le_refl _)) hle hnb).mono ?_
    rw [← HE.out]
    rintro e w5 ⟨vg, rfl, rg5, hb5⟩
    obtain ⟨ag, cg, rfl, _, _⟩ := row_form rg5
    have B5 : Below W.heap.size W w5 := BW4.trans (hb5.mono BW4.size)
    have rw5 := own_below rwW4 hb5 (Nat.le_refl _)
    have bx5 : Below w4.heap.size w4 w5 := hal.trans (hb5.mono hal.size)
    have c5 := keep3 hb5 (by omega) hc4
    have s45 : w4.heap.size < w5.heap.size := by have := hb5.size; omega
    clear hb5 rwW4 hc4 BW4 hal
    go_wp2_with fail
    refine (eqS_any _ _ E w5 (Strs.of_row rg5) (Strs.of_row rw5) hEl).mono ?_
    rintro e w6 ⟨rfl, nqw6, hqw6⟩
    have hb6 : Below w5.heap.size w5 w6 := by rw [hqw6]; exact below_drewN (Below.refl _ _) _
    clear hqw6
    have B6 : Below W.heap.size W w6 := B5.trans (hb6.mono B5.size)
    have rw6 := own_below rw5 hb6 (Nat.le_refl _)
    have rg6 := own_below rg5 hb6 (Nat.le_refl _)
    have bx6 : Below w4.heap.size w4 w6 := bx5.trans (hb6.mono bx5.size)
    obtain ⟨n0, n1, n2⟩ := keep3 hb6 s45 c5
    obtain ⟨x0, x1, x2⟩ := keep3 B6 (by omega) hW3
    have s56 : w4.heap.size < w6.heap.size := by have := hb6.size; omega
    clear hb6 rw5 rg5 bx5 c5 B5
    have HT : Hid (Calls Tryz.prog 8 #[.agg #[.slice a1 D.roots.length k1, .slice a2 D.mods.length k2, .slice a3 D.faults.length k3]] w6.drew fun e w' => ∃ v', e = .returned v' ∧ Wds w' v' D ∧ Below w6.heap.size w6.drew w') :=
      toWorld_any _ D w6.drew (HD.out.below B6.drew (Nat.le_refl _)) hle
    have HX : Hid (Wds w6 (.agg #[.slice y1 D.roots.length z1, .slice y2 D.mods.length z2, .slice y3 D.faults.length z3]) D) := hx4.wds.below bx6 (Nat.le_refl _)
    go_wp2
    go_region_with (first | (go_at_call 8; refine HT.out.mono ?_; rintro e w7 ⟨v7, rfl, hv8, hb8⟩; obtain ⟨j1, j2, j3, l1, l2, l3, rfl⟩ := hv8.agg; obtain ⟨m0, m1, m2⟩ := keep3 (W := w6.drew) hb8 s56 ⟨n0, n1, n2⟩) | (go_at_call 11; refine (eqWorld_any _ _ D w7 (HX.out.below (w' := w7) ((Below.refl w6.heap.size w6).drew.trans hb8) (Nat.le_refl _)) hv8 hle).mono ?_; rintro e w8 ⟨rfl, hb9⟩))
    all_goals
      have h68 : Below w6.heap.size w6 w8 := (Below.refl w6.heap.size w6).drew.trans (hb8.trans (hb9.mono hb8.size))
      have B8 : Below W.heap.size W w8 := B6.trans (h68.mono B6.size)
      have rw8 := own_below rw6 h68 (Nat.le_refl _)
      have rg8 := own_below rg6 h68 (Nat.le_refl _)
      have bx8 : Below w4.heap.size w4 w8 := bx6.trans (h68.mono bx6.size)
      have s68 := h68.size
      obtain ⟨o0, o1, o2⟩ := keep3 h68 s56 ⟨n0, n1, n2⟩
      have hmk := markWorld_any w3.heap.size w4.heap.size _ D w4 w8 hx4 (Nat.le_refl _) (by omega) bx8 hle
      clear x0 x1 x2 n0 n1 n2 m0 m1 m2 hb8 hb9 hv8 rw6 rg6 h68 bx8 B6
      go_wp2_with fail
      refine hmk.mono ?_
      rintro e w9 ⟨kk, rfl, hbt⟩
      have B9 : Below W.heap.size W w9 := B8.trans ((hbt.below (by omega)).mono (by omega))
      have rg9 := hbt.own rg8 (by omega)
      have rw9 := hbt.own_old rw8 hwlt
      have s89 := hbt.size
      clear hmk hbt rw8 rg8 o0 o1 o2 B8
      go_wp2_with fail
      refine (eqS_any _ _ E w9 (Strs.of_row rg9) (Strs.of_row rw9) hEl).mono ?_
      rintro e w10 ⟨rfl, nqw10, hqw10⟩
      have hb10 : Below w9.heap.size w9 w10 := by rw [hqw10]; exact below_drewN (Below.refl _ _) _
      clear hqw10
      have B10 : Below W.heap.size W w10 := B9.trans (hb10.mono B9.size)
      have rw10 := own_below rw9 hb10 (Nat.le_refl _)
      have rg10 := own_below rg9 hb10 (Nat.le_refl _)
      have s910 := hb10.size
      clear hb10 rw9 rg9 B9
      go_wp2_with fail
      refine (mark_any _ _ E.length _ w10 rg10 hEl).mono ?_
      rintro e w11 ⟨rfl, rg11, hg11⟩
      have rw11 := own_block (w' := w11) rw10 (fun b hb => hg11.block b (rw10.lt b hb).2 (fun e => by have h1 := (rg10.lt b e.symm).1; have h2 := hwlt b hb; omega))
      have B11 : Below W.heap.size W w11 := B10.grown hg11 B10.size (fun b e => by have h1 := (rg10.lt b e).1; omega)
      have s1011 := hg11.size
      clear hg11 rw10 rg10 B10
      go_wp2_with fail
      refine (held_any _ _ E.length w11 rg11 hEl).mono ?_
      rintro e w11' ⟨rfl, hb11⟩
      replace B11 : Below W.heap.size W w11' := B11.trans (hb11.mono B11.size)
      replace rw11 := own_below rw11 hb11 (Nat.le_refl _)
      replace rg11 := own_below rg11 hb11 (Nat.le_refl _)
      clear hb11
      obtain ⟨x0, x1, x2⟩ := keep3 B11 (by omega) hW3
      go_wp2_with fail
      refine (toWorld_any _ D w11' (HD.out.below B11 (Nat.le_refl _)) hle).mono ?_
      rintro e w12 ⟨v12, rfl, hv12, hb12⟩
      obtain ⟨t1, t2, t3, u1, u2, u3, rfl⟩ := hv12.agg
      have B12 : Below W.heap.size W w12 := B11.trans (hb12.mono B11.size)
      have rw12 := own_below rw11 hb12 (Nat.le_refl _)
      have rg12 := own_below rg11 hb12 (Nat.le_refl _)
      clear hb12 rw11 rg11 B11 x0 x1 x2
      go_wp2_with fail
      refine (HI.out _ D nb w12 hv12 hle hnb).mono ?_
      rw [← HE.out]
      rintro e w13 ⟨vh, rfl, rh13, hb13⟩
      obtain ⟨ah, ch, rfl, _, _⟩ := row_form rh13
      have B13 : Below W.heap.size W w13 := B12.trans (hb13.mono B12.size)
      have rw13 := own_below rw12 hb13 (Nat.le_refl _)
      have rg13 := own_below rg12 hb13 (Nat.le_refl _)
      clear hb13 rw12 rg12 B12 hv12
      go_wp2_with fail
      refine (eqS_any _ _ E w13 (Strs.of_row rh13) (Strs.of_row rw13) hEl).mono ?_
      rintro e w14 ⟨rfl, nqw14, hqw14⟩
      have hb14 : Below w13.heap.size w13 w14 := by rw [hqw14]; exact below_drewN (Below.refl _ _) _
      clear hqw14
      have B14 : Below W.heap.size W w14 := B13.trans (hb14.mono B13.size)
      have rg14 := own_below rg13 hb14 (Nat.le_refl _)
      clear hb14 rw13 rg13 rh13 B13
      go_wp2_with fail
      refine (held_any _ _ E.length w14 rg14 hEl).mono ?_
      rintro e w14' ⟨rfl, hb15⟩
      go_wp2
      go_ret
      exact ⟨rfl, hWB.trans ((B14.trans (hb15.mono B14.size)).mono hWB.size)⟩
  · rw [leftOf_neg hle]
    rintro e w1 ⟨rfl, B1⟩
    go_wp2
    go_ret
    exact ⟨rfl, hWB.trans (B1.mono hWB.size)⟩
end Go.Proofs.YtimgafblpmjajabGreat
namespace Go.Proofs.YtimgafblpmjajabGreat.fnExactOrder

open Go.ChangeShapes Go.WideShapes Go.ChangeAt Go.RowKit

open Go.ChangeMaps (open_string shut_string)
set_option linter.unusedVariables false

theorem own : ownKnob Tryz.prog.godebug = none := by kernel_rfl
theorem laidOut : laidOutB Tryz.prog = true := by kernel_rfl

set_option maxRecDepth 100000 in
theorem lifted (HI : OrderOk) (os : Os) (started : os.Started) (H : Type) (enc : TypeId × Value → H) :
    ReturnsInHanded {} Tryz.checked os 4 .any (Rows.fnExactOrderSpec.pre6 enc Tryz.prog Tryz.f4 Rows.fnExactOrderRow.domain false) (Rows.fnExactOrderSpec.post enc Tryz.prog Tryz.f4 false true false false) := by
  refine returnsInHanded_of_change (C := Tryz.checked) own started (by kernel_rfl) Tryz.func4
    (ChangeSpec.witness6 (enc := enc) (C := Tryz.checked) false ⟨#[], #[.agg #[.slice none 0 0, .slice none 0 0, .slice none 0 0], .string ByteArray.empty], []⟩ 8 (by kernel_rfl) (by kernel_rfl) (by kernel_rfl) (by kernel_rfl)) ?_
  intro W base args ds gs before hval0 hW hcnd _
  have hval : ∀ (j : Nat) t v, Tryz.f4.params[j]? = some t → args[j]? = some v → Value.okWide Tryz.prog W .any base t v := hval0
  have hW' := hW
  obtain ⟨p, q, hA0, hV, rfl, hfz, hnd⟩ := hW
  have hA : DataW.TrodAll enc Tryz.prog W 0 (fun _ => true) true Tryz.f4.params.toList args.toList ds p := hA0
  rw [Tryz.params4] at hA hval
  obtain ⟨v0, vs0, d0, ds0, p0, q0, hargs, rfl, rfl, h0, r0⟩ := trodAll_cons hA
  obtain ⟨v1, vs1, d1, ds1, p1, q1, rfl, rfl, rfl, h1, r1⟩ := trodAll_cons r0
  obtain ⟨rfl, rfl, rfl⟩ := trodAll_nil r1
  obtain rfl : args = #[v0, v1] := by cases args; simp_all
  obtain ⟨rfl, rfl⟩ := trodVars_none hV
  obtain ⟨a1, rfl, rfl, rfl, w1⟩ := open_string Tryz.underlying9 (hval 1 9 v1 rfl rfl) h1
  obtain ⟨cs, rfl, hcs⟩ := okWide_struct Tryz.underlying26 (hval 0 26 v0 rfl rfl)
  have k0 := h0
  have lt0 : ∀ x ∈ p0, x.block < W.heap.size := by obtain ⟨m, hm⟩ := k0; exact DataW.trod_lt m _ _ _ hm
  obtain ⟨D, hD1, hD2⟩ : ∃ D, Wds W (.agg cs) D ∧ D.ok := by
    obtain ⟨fuel, hf⟩ := h0
    obtain ⟨r, m, f, D, hcs', hD, hok⟩ := open_wds hf
    have hcs2 : cs.toList = [r, m, f] := hcs'
    have : cs = #[r, m, f] := by cases cs; simp_all
    exact ⟨D, by rw [this]; exact hD, hok⟩
  clear hA0 hval0
  refine (lawOrder HI (.agg cs) D a1 W hD1 hD2 w1).mono fun e W' ⟨he, bel⟩ => ?_
  subst he
  exact ⟨_, rfl, _, _, _, [], _, [], hW', trodAll_mk1 (shut_bool Tryz.underlying4 _), (trodAll_cons_mk (Below.trod laidOut (by kernel_rfl) (of_decide_eq_true (by kernel_rfl)) k0 bel lt0) (trodAll_cons_mk (shut_string Tryz.underlying9 w1) trodAll_mk0)), rfl, bel.frame _, fun h => by cases h⟩

theorem over (HI : OrderOk) : Rows.fnExactOrderRow.holds Tryz.pinned (OpenSpec.ofChange Rows.fnExactOrderSpec) :=
  OpenClaim.holds_of_wide 4 Tryz.f4 rfl rfl rfl rfl rfl rfl rfl ⟨rfl, rfl, rfl, rfl, rfl⟩ rfl rfl rfl rfl rfl (by kernel_rfl) Tryz.func4 (by kernel_rfl)
    (of_decide_eq_true (by kernel_rfl)) (by unfold Func.isWrapper; first | (rw [if_pos (by decide +kernel)]; kernel_rfl) | (rw [if_neg (by decide +kernel)]; exact ⟨rfl, rfl⟩))
    (fun os started H enc _ => lifted HI os started H enc)

theorem proved (HI : OrderOk) : Rows.FnExactOrderSaid := over HI
end Go.Proofs.YtimgafblpmjajabGreat.fnExactOrder
namespace Go.Proofs.YtimgafblpmjajabGreat
theorem fnExactOrder_of (HI : OrderOk) : Rows.FnExactOrderSaid := fnExactOrder.proved HI
end Go.Proofs.YtimgafblpmjajabGreat
namespace Go.Proofs.YtimgafblpmjajabGreat
open Go.RowKit Go.Maps

/-- A slice of places that lies below. -/
def Ntl (lo : Nat) (w : World) (v : Value) (L : List Nat) : Prop := ∃ a c, v = .slice a L.length c ∧ L.length ≤ c ∧ ∀ i (hi : i < L.length), ∃ b o, a = some ⟨b, o, none⟩ ∧ b < lo ∧ w.cell? ⟨b, o + i, none⟩ = some (numV L[i])
theorem Ntl.below {lo : Nat} {w w' : World} {v : Value} {L : List Nat} (h : Ntl lo w v L) (hb : Below lo w w') : Ntl lo w' v L := by
  obtain ⟨a, c, hv, hk, hc⟩ := h
  exact ⟨a, c, hv, hk, fun i hi => by obtain ⟨b, o, ha, hl, h0⟩ := hc i hi; exact ⟨b, o, ha, hl, below_cell0 hb hl h0⟩⟩
theorem ntl_own {base lo : Nat} {w : World} {v : Value} {L : List Nat} (h : w.ownsRow base 3 1 v L.length (L.map numV)) (hlo : w.heap.size ≤ lo) : Ntl lo w v L := by
  rcases h.2 with ⟨hv, hn⟩ | ⟨g, cap, cur, hv, hg, hh, hc, hm, _⟩
  · exact ⟨none, 0, by rw [hv, hn], by omega, fun k hk => by omega⟩
  · subst hv
    have hca := h.cellAt
    exact ⟨_, cap, rfl, hc, fun i hi => ⟨g, 0, rfl, Nat.lt_of_lt_of_le (Array.getElem?_eq_some_iff.1 hh).1 hlo, by rw [Nat.zero_add, hca i (by omega)]; simp [hi]⟩⟩
/-- A made graph, all of it below. -/
structure Grb (lo B g : Nat) (w : World) (r m f st ve : Value) (S : List Value) (E : List Eg) (N : Nat) : Prop where
  blk : w.heap[B]? = some (.cells #[r, m, f, st, ve, .slice (some ⟨g, 0, none⟩) N N] 62 (0, 0))
  lowB : B < lo
  gblk : w.heap[g]? = some (.cells S.toArray 24 (0, 0))
  lowg : g < lo
  len : S.length = N
  row : ∀ j s, S[j]? = some s → Ntl lo w s (leadsOf E j)
theorem Grb.below {lo B g : Nat} {w w' : World} {r m f st ve : Value} {S : List Value} {E : List Eg} {N : Nat} (h : Grb lo B g w r m f st ve S E N) (hb : Below lo w w') : Grb lo B g w' r m f st ve S E N :=
  ⟨(hb.block B h.lowB).trans h.blk, h.lowB, (hb.block g h.lowg).trans h.gblk, h.lowg, h.len, fun j s hs => (h.row j s hs).below hb⟩
theorem Gst.grb {lo B mb g : Nat} {w : World} {r m f ve : Value} {S : List Value} {F E : List Eg} {N : Nat} {DM : DataW Unit} (h : Gst lo B mb g w r m f ve S F E N DM) : Grb w.heap.size B g w r m f (.map (some mb)) ve S E N :=
  ⟨h.blk, h.lt.1, h.lds.blk, h.lt.2.1, h.len, fun j s hs => ntl_own (h.lds.row j s hs) (Nat.le_refl _)⟩

set_option maxHeartbeats 1000000 in
set_option maxRecDepth 100000 in
theorem leadsTo_any {lo B g : Nat} {w : World} {r m f st ve : Value} {S : List Value} {E : List Eg} {N : Nat} (h : Grb lo B g w r m f st ve S E N) (k : Nat) (hk : k < N) :
    Calls Tryz.prog 39 #[.pointer (some ⟨B, 0, none⟩), .int .i64 k] w fun e w' => ∃ s, e = .returned s ∧ Ntl lo w' s (leadsOf E k) ∧ Below w.heap.size w w' := by
  obtain ⟨s, hs⟩ : ∃ s, S[k]? = some s := ⟨_, List.getElem?_eq_getElem (by rw [h.len]; exact hk)⟩
  have hrow := h.row k s hs
  have c5 : w.cell? ⟨B, 5, none⟩ = some (.slice (some ⟨g, 0, none⟩) N N) := by have := h.blk; simp [World.cell?, this]
  have cg : w.cell? ⟨g, k, none⟩ = some s := by have := h.gblk; simp [World.cell?, this, hs]
  obtain ⟨a, c, rfl, _, _⟩ := id hrow
  have HR : Hid (Ntl lo w (.slice a (leadsOf E k).length c) (leadsOf E k)) := hrow
  clear hrow h hs
  go_enter Tryz.func39, Tryz.ntmps39
  go_wp2
  go_ret
  exact ⟨_, rfl, HR.out, Below.refl _ _⟩
end Go.Proofs.YtimgafblpmjajabGreat
namespace Go.Proofs.YtimgafblpmjajabGreat
open Go.RowKit Go.Maps

set_option maxHeartbeats 4000000 in
set_option maxRecDepth 100000 in
theorem gnames_any {lo B g : Nat} {w : World} {r m f st ve : Value} {S : List Value} {E : List Eg} {N : Nat} (h : Grb lo B g w r m f st ve S E N) (hlo : lo ≤ w.heap.size) (M : List Md) (hN : Nmd lo w m M) (hns : ∀ m ∈ M, m.name.length ≤ 1048576) (v : Value) (K : List Nat) (hv : Ntl lo w v K) (hK : ∀ k ∈ K, k < M.length) (hKl : K.length ≤ 1048576) :
    Calls Tryz.prog 41 #[.pointer (some ⟨B, 0, none⟩), v] w fun e w' => ∃ v', e = .returned v' ∧ w'.ownsRow w.heap.size 9 1 v' K.length (K.map (nmV M)) ∧ Below w.heap.size w w' := by
  obtain ⟨i9, hi9, hz0, hz1, hz2⟩ := info_parts Tryz.info9
  have c1 : w.cell? ⟨B, 1, none⟩ = some m := by have := h.blk; simp [World.cell?, this]
  have hBl : B < w.heap.size := Nat.lt_of_lt_of_le h.lowB hlo
  obtain ⟨av, cv, rfl, hcv, hcell⟩ := hv
  obtain ⟨am, km, rfl, hkm, hcm⟩ := hN
  have HC : Hid (∀ i (hi : i < K.length), ∃ b o, av = some ⟨b, o, none⟩ ∧ b < lo ∧ w.cell? ⟨b, o + i, none⟩ = some (numV K[i])) := hcell
  have HM : Hid (∀ k (hk : k < M.length), ∃ b o, am = some ⟨b, o, none⟩ ∧ b < lo ∧ w.cell? ⟨b, o + k * 2, none⟩ = some (strV M[k].name)) := hcm
  have HK : Hid (∀ k ∈ K, k < M.length) := hK
  have HNS : Hid (∀ m ∈ M, m.name.length ≤ 1048576) := hns
  clear h hcell hcm hK hns
  go_enter Tryz.func41, Tryz.ntmps41
  go_wp2
  go_loopw [5, 10] (fun vo i wr => ∃ n : Nat, n ≤ K.length ∧ i = .int .i64 n ∧ wr.ownsRow w.heap.size 9 1 vo (K.take n).length ((K.take n).map (nmV M)) ∧ Below w.heap.size w wr) (fun _ i _ => K.length - (intOf i).toNat)
  case atStart => exact ⟨0, Nat.zero_le _, rfl, World.ownsRow_nil _ _ _ _, Below.refl _ _⟩
  case round =>
    obtain ⟨n, hn, rfl, hown, hB⟩ := hrel
    obtain ⟨ao, co, rfl, hco, _⟩ := row_form hown
    have htl : (K.take n).length = n := by rw [List.length_take]; omega
    rw [htl] at hown
    have hsz := hB.size
    by_cases hlt : n < K.length
    · obtain ⟨b, o, rfl, hb, hc⟩ := HC.out n hlt
      have hkM := HK.out _ (List.getElem_mem hlt)
      obtain ⟨b2, o2, rfl, hb2, hc2⟩ := HM.out _ hkM
      have hTS : (K.take (n + 1)).map (nmV M) = (K.take n).map (nmV M) ++ [strV M[K[n]].name] := by
        rw [List.take_succ_eq_append_getElem hlt, List.map_append, List.map_singleton]
        congr 2
        unfold nmV; rw [List.getElem?_eq_getElem hkM]; rfl
      have hnl : M[K[n]].name.length ≤ 1048576 := HNS.out _ (List.getElem_mem hkM)
      obtain ⟨ns, hns⟩ : ∃ ns : ByteArray, ns.data.toList = M[K[n]].name := ⟨⟨M[K[n]].name.toArray⟩, by simp⟩
      have hnv : strV M[K[n]].name = .string ns := by rw [← hns, strV_data]
      rw [hnv] at hTS hc2
      have hnsz : ns.size ≤ 4194304 := by rw [size_data, hns]; omega
      have m0 := below_cell0 hB (Nat.lt_of_lt_of_le hb hlo) hc
      have m1 := below_cell0 hB (Nat.lt_of_lt_of_le hb2 hlo) hc2
      have x1 := below_cell0 hB hBl c1
      obtain ⟨k, hk⟩ : ∃ k, k = K[n] := ⟨_, rfl⟩
      rw [← hk] at m0 m1 hkM
      have hkI : (k : Int) < (M.length : Int) := by omega
      unfold numV at m0
      have HT : Hid ((K.take (n + 1)).map (nmV M) = (K.take n).map (nmV M) ++ [.string ns]) := hTS
      have HO : Hid (wr.ownsRow w.heap.size 9 1 (.slice ao n co) n ((K.take n).map (nmV M))) := hown
      clear hTS hnv hns hc hc2 hnl hown hk
      rw [htl]
      go_wp2_with fail
      refine (clone_any ns _ hnsz).mono ?_
      rintro e w2 ⟨rfl, hb2'⟩
      have hown2 := own_below HO.out hb2' (Nat.le_refl _)
      have hB2 : Below w.heap.size w w2 := hB.trans (hb2'.mono hsz)
      have hsz2 := hB2.size
      clear m0 m1 x1
      go_wp2_with (at_builtin; refine wpList_app1 _ rfl _ _ 22 rfl w.heap.size 9 i9 (.string ByteArray.empty) 16 Tryz.underlying22 hi9 hz0 hz1 hz2 rfl _ _ _ rfl (hown2.alloc _) ⟨_, 0, none⟩ 1 (.string ns) rfl (cell_one_new _ _ _) (by simp [Value.oneCell']) (by unfold maxLen; omega) (by omega) (by simp; omega) ?_; intro v4 w4 h4 hg4 hl4)
      have hB4 : Below w.heap.size w w4 := (hB2.alloc hsz2 _).grown hg4 (by simp; omega) (fun b e' => (hown2.lt b e').1)
      go_roundw
      case rel => exact ⟨n + 1, by omega, by go_num, by rw [List.length_take, Nat.min_eq_left (by omega), HT.out]; exact h4, hB4⟩
      case measure => simp [intOf]; omega
    · have HKT : Hid (K.take n = K) := List.take_of_length_le (by omega)
      rw [HKT.out] at hown
      obtain rfl : n = K.length := by omega
      rw [HKT.out]
      go_wp2
      go_ret
      exact ⟨_, rfl, hown, hB⟩
end Go.Proofs.YtimgafblpmjajabGreat
namespace Go.Proofs.YtimgafblpmjajabGreat

open Go.RowKit

/-- The edges of a module that was met, one by one: whether one leads back, what was met by then. -/
def rin (k x : Nat) : List Eg → List Int × List Nat → Bool × (List Int × List Nat)
  | [], s => (false, s)
  | e :: r, s => if e.src = (x : Int) ∧ 0 ≤ e.to then
      (if e.to = (k : Int) then (true, s) else if (s.1[e.to.toNat]?).getD 0 < 0 then rin k x r (s.1.set e.to.toNat (x : Int), s.2 ++ [e.to.toNat]) else rin k x r s)
    else rin k x r s
def rout (E : List Eg) (k : Nat) : Nat → Nat → List Int × List Nat → Option (Nat × List Int)
  | 0, _, _ => none
  | f + 1, i, s => match s.2[i]? with
    | none => none
    | some x => if (rin k x E s).1 then some (x, (rin k x E s).2.1) else rout E k f (i + 1) (rin k x E s).2
def backP (fr : List Int) (k : Nat) : Nat → Nat → List Nat
  | 0, _ => []
  | f + 1, x => if x = k then [] else x :: backP fr k f ((fr[x]?).getD 0).toNat
def ringOut (k N : Nat) : Option (Nat × List Int) → List Nat
  | none => []
  | some r => k :: (backP r.2 k (N + 1) r.1).reverse
def ringK (E : List Eg) (N k : Nat) : List Nat := ringOut k N (rout E k (N + 1) 0 (List.replicate N (-1), [k]))
def negs (l : List Int) : Nat := (l.filter (fun x => decide (x < 0))).length
theorem negs_rep (n : Nat) : negs (List.replicate n (-1)) = n := by
  induction n with
  | zero => rfl
  | succ n ih => rw [List.replicate_succ]; simp [negs] at ih ⊢
theorem negs_set : ∀ (l : List Int) (k : Nat) (y x : Int), l[k]? = some y → y < 0 → 0 ≤ x → negs (l.set k x) + 1 = negs l
  | [], k, y, x, h, _, _ => by simp at h
  | b :: r, 0, y, x, h, hy, hx => by
    simp at h; subst h
    have h1 : ¬ x < 0 := by omega
    simp [negs, hy, h1]
  | b :: r, k + 1, y, x, h, hy, hx => by
    have := negs_set r k y x (by simpa using h) hy hx
    by_cases hb : b < 0 <;> simp [negs, hb] at this ⊢ <;> omega
theorem negs_pos : ∀ (l : List Int) (k : Nat) (y : Int), l[k]? = some y → y < 0 → 1 ≤ negs l
  | [], k, y, h, _ => by simp at h
  | b :: r, 0, y, h, hy => by simp at h; subst h; simp [negs, hy]
  | b :: r, k + 1, y, h, hy => by
    have := negs_pos r k y (by simpa using h) hy
    by_cases hb : b < 0 <;> simp [negs, hb] at this ⊢ <;> omega
/-- What holds of the search all along. -/
structure RI (N k : Nat) (s : List Int × List Nat) : Prop where
  len : s.1.length = N
  cnt : s.2.length + negs s.1 = N + 1
  self : ∃ y, s.1[k]? = some y ∧ y < 0
  lt : ∀ y ∈ s.2, y < N
  head : s.2[0]? = some k
  chain : ∀ j, 0 < j → (hj : j < s.2.length) → ∃ j' y', j' < j ∧ s.2[j']? = some y' ∧ s.1[s.2[j]]? = some (y' : Int)
theorem RI.room {N k : Nat} {s : List Int × List Nat} (h : RI N k s) : s.2.length ≤ N := by
  obtain ⟨y, h1, h2⟩ := h.self
  have := negs_pos _ _ _ h1 h2
  have := h.cnt; omega
theorem RI.start (N k : Nat) (hk : k < N) : RI N k (List.replicate N (-1), [k]) :=
  ⟨by simp, by simp [negs_rep]; omega, ⟨-1, by simp [hk], by omega⟩, by intro y hy; simp at hy; omega, by simp, fun j h0 hj => by simp at hj; omega⟩
theorem RI.put {N k : Nat} {s : List Int × List Nat} (h : RI N k s) {x t i : Nat} (hx : s.2[i]? = some x) (ht : t < N) (htk : t ≠ k) (hneg : (s.1[t]?).getD 0 < 0) : RI N k (s.1.set t (x : Int), s.2 ++ [t]) := by
  have htl : t < s.1.length := by rw [h.len]; exact ht
  have hg : s.1[t]? = some s.1[t] := List.getElem?_eq_getElem htl
  rw [hg] at hneg
  have hn := negs_set s.1 t _ (x : Int) hg (by simpa using hneg) (by omega)
  refine ⟨by simp [h.len], by have := h.cnt; simp only [List.length_append, List.length_singleton]; omega, ?_, ?_, ?_, ?_⟩
  · obtain ⟨y, h1, h2⟩ := h.self
    exact ⟨y, by simp only []; rw [List.getElem?_set_ne htk]; exact h1, h2⟩
  · intro y hy
    simp only [List.mem_append, List.mem_singleton] at hy
    rcases hy with hy | rfl
    · exact h.lt y hy
    · exact ht
  · have h0 : 0 < s.2.length := by
      rcases Nat.eq_zero_or_pos s.2.length with h0 | h0
      · have := h.head; rw [List.getElem?_eq_none (by omega)] at this; cases this
      · exact h0
    simp only []; rw [List.getElem?_append_left h0]; exact h.head
  · intro j h0 hj
    simp only [List.length_append, List.length_singleton] at hj
    by_cases hjl : j < s.2.length
    · obtain ⟨j', y', h1, h2, h3⟩ := h.chain j h0 hjl
      refine ⟨j', y', h1, by simp only []; rw [List.getElem?_append_left (by omega)]; exact h2, ?_⟩
      simp only []
      rw [List.getElem_append_left hjl]
      have hne : t ≠ s.2[j] := fun e => by
        rw [← e, hg] at h3
        have : s.1[t] = (y' : Int) := by simpa using h3
        rw [this] at hneg; simp at hneg; omega
      rw [List.getElem?_set_ne hne]; exact h3
    · have hje : j = s.2.length := by omega
      subst hje
      have hil : i < s.2.length := by
        rcases Nat.lt_or_ge i s.2.length with hi | hi
        · exact hi
        · rw [List.getElem?_eq_none hi] at hx; cases hx
      refine ⟨i, x, hil, by simp only []; rw [List.getElem?_append_left hil]; exact hx, ?_⟩
      simp only [List.getElem_concat_length]
      rw [List.getElem?_set_self htl]
/-- The place of a module in the line. -/
def posL (l : List Nat) (x : Nat) : Nat := place (fun y => decide (y = x)) l
theorem posL_lt {l : List Nat} {j x : Nat} (h : l[j]? = some x) : posL l x ≤ j ∧ posL l x < l.length ∧ l[posL l x]? = some x := by
  have hj : j < l.length := by
    rcases Nat.lt_or_ge j l.length with hi | hi
    · exact hi
    · rw [List.getElem?_eq_none hi] at h; cases h
  have hx : l[j] = x := by rw [List.getElem?_eq_getElem hj] at h; simpa using h
  have hle : posL l x ≤ j := by
    rcases Nat.lt_or_ge j (posL l x) with h1 | h1
    · have := place_miss (p := fun y => decide (y = x)) hj h1
      simp [hx] at this
    · exact h1
  have hlt : place (fun y => decide (y = x)) l < l.length := by unfold posL at hle; omega
  have hp := place_lt hlt
  exact ⟨hle, hlt, by unfold posL; rw [List.getElem?_eq_getElem hlt]; simpa using hp⟩
/-- One step back. -/
theorem RI.back {N k : Nat} {s : List Int × List Nat} (h : RI N k s) {x j : Nat} (hx : s.2[j]? = some x) (hk : x ≠ k) : ∃ y' : Nat, s.1[x]? = some (y' : Int) ∧ (∃ j' : Nat, s.2[j']? = some y') ∧ posL s.2 y' < posL s.2 x := by
  obtain ⟨h1, h2, h3⟩ := posL_lt hx
  have h0 : 0 < posL s.2 x := by
    rcases Nat.eq_zero_or_pos (posL s.2 x) with h0 | h0
    · rw [h0, h.head] at h3; exact absurd (by simpa using h3.symm) hk
    · exact h0
  obtain ⟨j', y', h4, h5, h6⟩ := h.chain _ h0 h2
  have hxe : s.2[posL s.2 x] = x := by rw [List.getElem?_eq_getElem h2] at h3; simpa using h3
  rw [hxe] at h6
  exact ⟨y', h6, ⟨j', h5⟩, Nat.lt_of_le_of_lt (posL_lt h5).1 h4⟩
end Go.Proofs.YtimgafblpmjajabGreat
namespace Go.Proofs.YtimgafblpmjajabGreat

open Go.RowKit

def natV (n : Nat) : Value := .int .i64 (n : Int)
theorem lit_int (W : World) (B : Nat) (x : Nat) (hB : B ≤ W.heap.size) : (W.alloc (.cells #[natV x] 3)).ownsRow B 3 1 (.slice (some ⟨W.heap.size, 0, none⟩) 1 1) [x].length ([x].map natV) :=
  World.ownsRow_lit W #[natV x] 1 hB (by decide) rfl

set_option maxHeartbeats 16000000 in
set_option maxRecDepth 100000 in
theorem l4ring_any (v : Value) (E : List Eg) (N k : Nat) (w : World) (h : Egs w v E) (hEl : E.length ≤ 1048576) (hN : N ≤ 1048576) (hk : k < N) (hE : ∀ e ∈ E, e.to < (N : Int)) :
    Calls Tryz.prog 43 #[v, .int .i64 N, .int .i64 k] w fun e w' => ∃ v', e = .returned v' ∧ w'.ownsRow w.heap.size 3 1 v' (ringK E N k).length ((ringK E N k).map natV) ∧ Below w.heap.size w w' := by
  obtain ⟨i3, hi, hz0, hz1, hz2⟩ := info_parts Tryz.info3
  obtain ⟨ae, ce, rfl, hce, _, hc⟩ := h
  have HC : Hid (∀ j, (hj : j < E.length) → ∃ b o, ae = some ⟨b, o, none⟩ ∧ b < w.heap.size ∧
    w.cell? ⟨b, o + j * 3, none⟩ = some (.int .i64 E[j].src) ∧ w.cell? ⟨b, o + j * 3 + 1, none⟩ = some (.int .i64 E[j].line) ∧ w.cell? ⟨b, o + j * 3 + 2, none⟩ = some (.int .i64 E[j].to)) := hc
  have HE : Hid (∀ e ∈ E, e.to < (N : Int)) := hE
  have hib : i3.bytes * N ≤ 281474976710656 := by rw [hz2]; omega
  have hlm : N ≤ maxLen := by unfold maxLen; omega
  obtain ⟨K, hK⟩ : ∃ K, K = ringK E N k := ⟨_, rfl⟩
  rw [← hK]
  have HK : Hid (K = ringOut k N (rout E k (N + 1) 0 (List.replicate N (-1), [k]))) := hK
  clear hc hE hK
  go_enter Tryz.func43, Tryz.ntmps43
  go_wp2_with (at_make; refine wpList_make_full _ rfl _ _ 24 rfl w.heap.size 3 i3 _ 1 Tryz.underlying24 hi hz0 hz1 .i64 .i64 _ _ N rfl rfl rfl rfl hib hlm (Nat.le_refl _) ?_; intro w1 hown hgrow)
  have hB1 : Below w.heap.size w w1 := (Below.refl _ _).grown hgrow (Nat.le_refl _) (fun k e => by cases e)
  have hs1 : w.heap.size < w1.heap.size := (own_lt hown).2
  clear hgrow
  go_loopw [8, 21] (fun _ i wr => ∃ (n : Nat) (X : List Value), n ≤ N ∧ i = .int .i64 n ∧ wr.ownsRow w.heap.size 3 1 (.slice (some ⟨w.heap.size, 0, none⟩) N N) N X ∧ (∀ j, j < n → X[j]? = some (.int .i64 (-1))) ∧ Below w.heap.size w wr ∧ w.heap.size < wr.heap.size) (fun _ i _ => N - (intOf i).toNat)
  case atStart => exact ⟨0, _, Nat.zero_le _, rfl, hown, fun j hj => absurd hj (by omega), hB1, hs1⟩
  case round =>
    obtain ⟨n, X, hn, rfl, hown, hX, hB, hsz⟩ := hrel
    have hXl : X.length = N * 1 := hown.1
    by_cases hlt : n < N
    · have HX : Hid (∀ j, j < n → X[j]? = some (.int .i64 (-1))) := hX
      obtain ⟨u0, e0⟩ := row_cell hown n (by omega)
      have f0 := hown.frozenAt n
      clear hX
      go_wp2
      go_roundw
      case rel =>
        refine ⟨n + 1, _, by omega, by go_num, (hown.stored _ _).1, fun j hj => ?_, hB.setCell (p := ⟨w.heap.size, n, none⟩) (Nat.le_refl _) _, by simpa [World.setCell] using hsz⟩
        by_cases hjn : j = n
        · subst hjn; rw [List.getElem?_set_self (by omega)]
        · rw [List.getElem?_set_ne (by omega)]; exact HX.out j (by omega)
      case measure => simp [intOf]; omega
    · have hXe : X = (List.replicate N (-1 : Int)).map i64V := by
        apply List.ext_getElem?
        intro i
        by_cases hi : i < N
        · rw [hX i (by omega)]; simp [hi]; rfl
        · rw [List.getElem?_eq_none (by omega), List.getElem?_eq_none (by simp; omega)]
      rw [hXe] at hown
      clear hX hXl hXe
      have hl0 := lit_int wr (w.heap.size + 1) k (by omega)
      have hB2 : Below w.heap.size w (wr.alloc (.cells #[natV k] 3)) := hB.alloc (by omega) _
      have hF2 := hown.alloc (.cells #[natV k] 3)
      obtain ⟨W2, hW2⟩ : ∃ W2, W2 = wr.alloc (.cells #[natV k] 3) := ⟨_, rfl⟩
      have HW2 : Hid (W2 = wr.alloc (.cells #[natV k] 3)) := hW2
      rw [← hW2] at hl0 hB2 hF2
      obtain ⟨wo, rfl⟩ : ∃ wo, wo = wr := ⟨_, rfl⟩
      unfold natV at HW2
      clear hW2 hown hB
      go_wp2
      rw [← HW2.out]
      go_loopw [9, 10] (fun vl i wr => ∃ (n f : Nat) (s : List Int × List Nat), i = .int .i64 n ∧ f + n = N + 1 ∧ n ≤ s.2.length ∧ RI N k s ∧ Hid (K = ringOut k N (rout E k f n s)) ∧ wr.ownsRow w.heap.size 3 1 (.slice (some ⟨w.heap.size, 0, none⟩) N N) N (s.1.map i64V) ∧ wr.ownsRow (w.heap.size + 1) 3 1 vl s.2.length (s.2.map natV) ∧ Below w.heap.size w wr ∧ w.heap.size < wr.heap.size) (fun _ i _ => N + 1 - (intOf i).toNat)
      case atStart => exact ⟨0, N + 1, _, rfl, by omega, by simp, RI.start N k hk, HK.out, hF2, hl0, hB2, by rw [HW2.out]; simp; omega⟩
      case round =>
        obtain ⟨n, f, s, rfl, hfn, hns, hRI, hKs, hF, hL, hB, hsz⟩ := hrel
        have hroom := hRI.room
        obtain ⟨al, cl, rfl, hcl, hgl⟩ := row_form hL
        by_cases hlt : n < s.2.length
        · obtain ⟨gl, rfl⟩ := hgl (by omega)
          obtain ⟨f', rfl⟩ : ∃ f', f = f' + 1 := ⟨f - 1, by omega⟩
          obtain ⟨x, hx⟩ : ∃ x, s.2[n]? = some x := ⟨_, List.getElem?_eq_getElem hlt⟩
          obtain ⟨RR, hRR⟩ : ∃ RR, RR = rin k x E s := ⟨_, rfl⟩
          have hK2 : K = ringOut k N (if RR.1 then some (x, RR.2.1) else rout E k f' (n + 1) RR.2) := by
            rw [hKs.out, rout, hx, hRR]
          have HK2 : Hid (K = ringOut k N (if RR.1 then some (x, RR.2.1) else rout E k f' (n + 1) RR.2)) := hK2
          have HRR : Hid (rin k x E s = RR) := hRR.symm
          have hxN : x < N := hRI.lt x (List.mem_of_getElem? hx)
          obtain ⟨wq, rfl⟩ : ∃ wq, wq = wr := ⟨_, rfl⟩
          clear hK2 hRR hKs HK
          go_wp2
          go_loopw [9, 38] (fun vl j wr => ∃ (m : Nat) (s' : List Int × List Nat), j = .int .i64 m ∧ m ≤ E.length ∧ Hid (rin k x (E.drop m) s' = RR) ∧ RI N k s' ∧ s'.2[n]? = some x ∧ wr.ownsRow w.heap.size 3 1 (.slice (some ⟨w.heap.size, 0, none⟩) N N) N (s'.1.map i64V) ∧ wr.ownsRow (w.heap.size + 1) 3 1 vl s'.2.length (s'.2.map natV) ∧ Below w.heap.size w wr ∧ w.heap.size < wr.heap.size) (fun _ j _ => E.length - (intOf j).toNat)
          case atStart => exact ⟨0, s, rfl, Nat.zero_le _, HRR, hRI, hx, hF, hL, hB, hsz⟩
          case round =>
            obtain ⟨m, s', rfl, hm, hRm, hRI', hx', hF', hL', hB', hsz'⟩ := hrel
            have hroom' := hRI'.room
            obtain ⟨al', cl', rfl, hcl', hgl'⟩ := row_form hL'
            have hn' : n < s'.2.length := by
              rcases Nat.lt_or_ge n s'.2.length with h | h
              · exact h
              · rw [List.getElem?_eq_none h] at hx'; cases hx'
            obtain ⟨gl', rfl⟩ := hgl' (by omega)
            by_cases hlm' : m < E.length
            · obtain ⟨b, o, rfl, hb, h0, h1, h2⟩ := HC.out m hlm'
              have m0 := below_cell0 hB' hb h0
              have m1 := below_cell0 hB' hb h1
              have m2 := below_cell0 hB' hb h2
              have hto := HE.out _ (List.getElem_mem hlm')
              have hdrop : E.drop m = E[m] :: E.drop (m + 1) := List.drop_eq_getElem_cons hlm'
              obtain ⟨es, hes⟩ : ∃ es, es = E[m].src := ⟨_, rfl⟩
              obtain ⟨el, hel⟩ : ∃ el, el = E[m].line := ⟨_, rfl⟩
              obtain ⟨et, het⟩ : ∃ et, et = E[m].to := ⟨_, rfl⟩
              have hrin : rin k x (E.drop m) s' = if es = (x : Int) ∧ 0 ≤ et then
                  (if et = (k : Int) then (true, s') else if (s'.1[et.toNat]?).getD 0 < 0 then rin k x (E.drop (m + 1)) (s'.1.set et.toNat (x : Int), s'.2 ++ [et.toNat]) else rin k x (E.drop (m + 1)) s')
                else rin k x (E.drop (m + 1)) s' := by rw [hdrop, rin, hes, het]
              rw [← hes] at m0
              rw [← hel] at m1
              rw [← het] at m2 hto
              have HRIN : Hid (RR = if es = (x : Int) ∧ 0 ≤ et then
                  (if et = (k : Int) then (true, s') else if (s'.1[et.toNat]?).getD 0 < 0 then rin k x (E.drop (m + 1)) (s'.1.set et.toNat (x : Int), s'.2 ++ [et.toNat]) else rin k x (E.drop (m + 1)) s')
                else rin k x (E.drop (m + 1)) s') := by unfold Hid; rw [← hrin]; exact hRm.out.symm
              obtain ⟨Wb, hWb⟩ : ∃ Wb, Wb = wr.alloc (.cells #[.int .i64 es, .int .i64 el, .int .i64 et] 54) := ⟨_, rfl⟩
              have hbb : Below wr.heap.size wr Wb := by rw [hWb]; exact (Below.refl _ _).alloc (Nat.le_refl _) _
              have hbs : Wb.heap.size = wr.heap.size + 1 := by rw [hWb]; simp
              have q := cells3 wr (.int .i64 es) (.int .i64 el) (.int .i64 et) 54
              rw [← hWb] at q
              obtain ⟨q0, q1, q2⟩ := q
              have hFb := own_below hF' hbb (Nat.le_refl _)
              have hLb := own_below hL' hbb (Nat.le_refl _)
              have hBb : Below w.heap.size w Wb := hB'.trans (hbb.mono (by omega))
              have hlc : Wb.cell? ⟨gl', n, none⟩ = some (.int .i64 (x : Int)) := by
                rw [hLb.cellAt n (by omega), List.getElem?_map, hx']; rfl
              have HWb : Hid (Wb = wr.alloc (.cells #[.int .i64 es, .int .i64 el, .int .i64 et] 54)) := hWb
              have hszb : w.heap.size < Wb.heap.size := by omega
              clear h0 h1 h2 hdrop hes hel het hrin hRm hWb hF' hL'
              have hnI : (n : Int) < (s'.2.length : Int) := by omega
              go_wp2_with fail
              rw [← HWb.out]
              by_cases hA : es = (x : Int)
              · subst hA
                by_cases hBn : et < 0
                · have HR2 : Hid (rin k x (E.drop (m + 1)) s' = RR) := by unfold Hid; rw [HRIN.out, if_neg (by omega)]
                  have hd1 : ((x : Int) != (x : Int)) = false := by simp
                  have hd2 : decide (et < 0) = true := by simpa using hBn
                  clear HRIN
                  go_quiet (fail)
                  go_wp2
                  go_roundw
                  case rel => exact ⟨m + 1, s', by go_num, by omega, HR2, hRI', hx', hFb, hLb, below_drewN hBb _, hszb⟩
                  case measure => simp [intOf]; omega
                · obtain ⟨tn, rfl⟩ : ∃ tn : Nat, et = (tn : Int) := ⟨et.toNat, by omega⟩
                  have htn : tn < N := by omega
                  have hd1 : ((x : Int) != (x : Int)) = false := by simp
                  have hd2 : decide ((tn : Int) < 0) = false := by simp
                  have htl : tn < s'.1.length := by rw [hRI'.len]; exact htn
                  obtain ⟨fr, hfr⟩ : ∃ fr, s'.1[tn]? = some fr := ⟨_, List.getElem?_eq_getElem htl⟩
                  have hfc : Wb.cell? ⟨w.heap.size, tn, none⟩ = some (.int .i64 fr) := by
                    rw [hFb.cellAt tn (by omega), List.getElem?_map, hfr]; rfl
                  have HRIN2 : Hid (RR = if tn = k then (true, s') else if fr < 0 then rin k x (E.drop (m + 1)) (s'.1.set tn (x : Int), s'.2 ++ [tn]) else rin k x (E.drop (m + 1)) s') := by
                    unfold Hid
                    rw [HRIN.out, if_pos ⟨rfl, by omega⟩]
                    simp only [Int.toNat_natCast, hfr, Option.getD_some]
                    by_cases htk : tn = k
                    · rw [if_pos (by omega), if_pos htk]
                    · rw [if_neg (by omega), if_neg htk]
                  clear HRIN hBn
                  by_cases htk : tn = k
                  · have HRR2 : Hid (RR = (true, s')) := by unfold Hid; rw [HRIN2.out, if_pos htk]
                    obtain ⟨Bt, hBt⟩ : ∃ Bt, Bt = backP s'.1 k (N + 1) x := ⟨_, rfl⟩
                    have HKB : Hid (K = k :: Bt.reverse) := by unfold Hid; rw [HK2.out, HRR2.out, hBt]; rfl
                    have HBT : Hid (backP s'.1 k (N + 1) x = Bt) := hBt.symm
                    have hkk : ((tn : Int) == (k : Int)) = true := by simp; omega
                    obtain ⟨hp1, hp2, hp3⟩ := posL_lt hx'
                    have HP : Hid (posL s'.2 x < N + 1) := by unfold Hid; omega
                    have HPN : Hid (posL s'.2 x ≤ N) := by unfold Hid; omega
                    subst htk
                    clear HRIN2 hBt HK2 hp1 hp2 hp3
                    go_quiet (fail)
                    obtain ⟨wp, rfl⟩ : ∃ wp, wp = wr := ⟨_, rfl⟩
                    go_wp2
                    go_loopw [13, 14] (fun vb yv wr => ∃ (f y j : Nat) (b : List Nat), yv = .int .i64 (y : Int) ∧ s'.2[j]? = some y ∧ posL s'.2 y < f ∧ b.length + posL s'.2 y ≤ N ∧ Hid (b ++ backP s'.1 tn f y = Bt) ∧ wr.ownsRow Wb.heap.size 3 1 vb b.length (b.map natV) ∧ Below Wb.heap.size Wb wr) (fun _ yv _ => posL s'.2 (intOf yv).toNat)
                    case atStart => exact ⟨N + 1, x, n, [], rfl, hx', HP.out, by simpa using HPN.out, by unfold Hid; rw [List.nil_append]; exact HBT.out, World.ownsRow_nil _ _ _ _, below_drewN (Below.refl _ _) _⟩
                    case round =>
                      obtain ⟨f2, y, jy, b, rfl, hjy, hpf, hbl, hbt, hb2, hB2⟩ := hrel
                      have hF2' := own_below hFb hB2 (Nat.le_refl _)
                      have hs2 := hB2.size
                      obtain ⟨ab, cb, rfl, hcb, hgb⟩ := row_form hb2
                      have hyN : y < N := hRI'.lt y (List.mem_of_getElem? hjy)
                      by_cases hyk : y = tn
                      · have HBE : Hid (K = tn :: b.reverse) := by
                          unfold Hid
                          obtain ⟨f3, rfl⟩ : ∃ f3, f2 = f3 + 1 := ⟨f2 - 1, by omega⟩
                          have : b = Bt := by rw [← hbt.out, backP, if_pos hyk, List.append_nil]
                          rw [HKB.out, ← this]
                        have hyc : ((y : Int) != (tn : Int)) = false := by simp; omega
                        have hbl2 : b.length ≤ 1048576 := by omega
                        subst hyk
                        obtain ⟨wz, rfl⟩ : ∃ wz, wz = wr := ⟨_, rfl⟩
                        have hl5 := lit_int wz wz.heap.size y (Nat.le_refl _)
                        have HD0 : Hid (b.drop b.length = []) := List.drop_length
                        have HB5 : Hid (Below w.heap.size w wz) := hBb.trans (hB2.mono (by omega))
                        have hzz : w.heap.size ≤ wz.heap.size := by omega
                        unfold natV at hl5
                        clear hbt hpf hbl HKB HBT HP HPN
                        go_wp2
                        go_loopw [15, 16] (fun vo jv wr => ∃ j : Nat, j ≤ b.length ∧ jv = .int .i64 ((j : Int) - 1) ∧ wr.ownsRow wz.heap.size 3 1 vo (y :: (b.drop j).reverse).length ((y :: (b.drop j).reverse).map natV) ∧ Below wz.heap.size wz wr) (fun _ jv _ => (intOf jv + 1).toNat)
                        case atStart => exact ⟨b.length, Nat.le_refl _, rfl, by rw [HD0.out]; exact hl5, (Below.refl _ _).alloc (Nat.le_refl _) _⟩
                        case round =>
                          obtain ⟨j5, hj5, rfl, ho5, hB5⟩ := hrel
                          have hs5 := hB5.size
                          obtain ⟨OL, hOL⟩ : ∃ OL, OL = y :: (b.drop j5).reverse := ⟨_, rfl⟩
                          rw [← hOL] at ho5
                          have HOL : Hid (OL = y :: (b.drop j5).reverse) := hOL
                          clear hOL
                          obtain ⟨ao, co, rfl, hco, _⟩ := row_form ho5
                          by_cases hpos : 0 < j5
                          · obtain ⟨j6, rfl⟩ : ∃ j6, j5 = j6 + 1 := ⟨j5 - 1, by omega⟩
                            have hj6 : j6 < b.length := by omega
                            obtain ⟨gb, rfl⟩ := hgb (by omega)
                            have hb5 := own_below hb2 hB5 (Nat.le_refl _)
                            have hbc : wr.cell? ⟨gb, j6, none⟩ = some (.int .i64 (b[j6] : Int)) := by
                              rw [hb5.cellAt j6 (by omega), List.getElem?_map, List.getElem?_eq_getElem hj6]; rfl
                            have HDR : Hid (y :: (b.drop j6).reverse = OL ++ [b[j6]]) := by
                              unfold Hid; rw [HOL.out, List.drop_eq_getElem_cons hj6]; simp
                            have hol : OL.length ≤ 1048577 := by rw [HOL.out]; simp; omega
                            obtain ⟨bj, hbj⟩ : ∃ bj, bj = b[j6] := ⟨_, rfl⟩
                            rw [← hbj] at hbc HDR
                            have hjI : ((j6 + 1 : Nat) : Int) - 1 = (j6 : Int) := by omega
                            rw [hjI]
                            have hgbl := (hb5.lt gb rfl).2
                            clear hbj hb5
                            go_wp2_with (at_builtin; refine wpList_app1 _ rfl (.tmp 82) (.tmp 87) 24 rfl wz.heap.size 3 i3 (.int .i64 0) 8 Tryz.underlying24 hi hz0 hz1 hz2 rfl _ _ _ rfl (ho5.alloc _) ⟨_, 0, none⟩ 1 (.int .i64 (bj : Int)) rfl (cell_one_new _ _ _) (by simp [Value.oneCell']) (by unfold maxLen; omega) (by omega) (by simp; omega) ?_; intro vo2 w4 ho4 hg4 hs4; have hB4 : Below wz.heap.size wz w4 := below_append hB5 hs5 ho5 hg4)
                            go_roundw
                            case rel => exact ⟨j6, by omega, by go_num, by rw [HDR.out]; simp only [List.length_append, List.length_singleton, List.map_append, List.map_singleton]; exact ho4, hB4⟩
                            case measure => simp [intOf]
                          · have hj0 : j5 = 0 := by omega
                            subst hj0
                            have hlt0 : ((0 : Nat) : Int) - 1 < 0 := by omega
                            have HOK : Hid (K = OL) := by unfold Hid; rw [HOL.out, List.drop_zero]; exact HBE.out
                            go_wp2
                            go_ret
                            exact ⟨_, rfl, by rw [HOK.out]; exact own_mono ho5 hzz, HB5.out.trans (hB5.mono hzz)⟩
                      · obtain ⟨y', h6, ⟨j', h5⟩, h4⟩ := hRI'.back hjy hyk
                        have hyc : ((y : Int) != (tn : Int)) = true := by simp; omega
                        obtain ⟨f3, rfl⟩ : ∃ f3, f2 = f3 + 1 := ⟨f2 - 1, by omega⟩
                        have HBT2 : Hid ((b ++ [y]) ++ backP s'.1 tn f3 y' = Bt) := by
                          unfold Hid
                          rw [← hbt.out, backP, if_neg hyk, h6]
                          simp
                        have HH4 : Hid (posL s'.2 y' < posL s'.2 y) := h4
                        have HP3 : Hid (posL s'.2 y' < f3) := by unfold Hid; omega
                        have HPB : Hid ((b ++ [y]).length + posL s'.2 y' ≤ N) := by unfold Hid; simp only [List.length_append, List.length_singleton]; omega
                        have hbl2 : b.length ≤ 1048576 := by omega
                        have h6c : (s'.1.map i64V)[y]? = some (.int .i64 (y' : Int)) := by rw [List.getElem?_map, h6]; rfl
                        clear hbt hpf h6 h4 hbl
                        go_wp2_with (at_builtin; refine wpList_app1 _ rfl (.tmp 69) (.tmp 71) 24 rfl Wb.heap.size 3 i3 (.int .i64 0) 8 Tryz.underlying24 hi hz0 hz1 hz2 rfl _ _ _ rfl (hb2.alloc _) ⟨_, 0, none⟩ 1 (.int .i64 (y : Int)) rfl (cell_one_new _ _ _) (by simp [Value.oneCell']) (by unfold maxLen; omega) (by omega) (by simp; omega) ?_; intro vb2 w4 hb4 hg4 hs4; have hB4 : Below Wb.heap.size Wb w4 := below_append hB2 hs2 hb2 hg4; have hF4 := own_below hFb hB4 (Nat.le_refl _); have hc4 : w4.cell? ⟨w.heap.size, y, none⟩ = some (.int .i64 (y' : Int)) := (by rw [hF4.cellAt y (by omega)]; exact h6c))
                        go_roundw
                        case rel => exact ⟨f3, y', j', b ++ [y], rfl, h5, HP3.out, HPB.out, HBT2, by simp only [List.length_append, List.length_singleton, List.map_append, List.map_singleton]; exact hb4, hB4⟩
                        case measure => simp [intOf]; exact HH4.out
                  · have hkk : ((tn : Int) == (k : Int)) = false := by simp; omega
                    by_cases hneg : fr < 0
                    · have HR2 : Hid (rin k x (E.drop (m + 1)) (s'.1.set tn (x : Int), s'.2 ++ [tn]) = RR) := by unfold Hid; rw [HRIN2.out, if_neg htk, if_pos hneg]
                      have hRI2 := hRI'.put hx' htn htk (by rw [hfr]; exact hneg)
                      have hff := hFb.frozenAt tn
                      have hFs := hFb.stored tn (.int .i64 (x : Int))
                      have HRI2 : Hid (RI N k (s'.1.set tn (x : Int), s'.2 ++ [tn])) := hRI2
                      clear HRIN2 hRI2 hFs
                      have hzl : w.heap.size + 1 ≤ Wb.heap.size := by omega
                      go_quiet (fail)
                      go_wp2
                      go_region
                      have hL2 := own_set (own_drewN hLb (nq + 1)) (B := w.heap.size) (by omega) tn (.int .i64 (x : Int))
                      have hF2' := ((own_drewN hFb (nq + 1)).stored tn (.int .i64 (x : Int)))
                      have hB2' : Below w.heap.size w ((Wb.drewN (nq + 1)).setCell ⟨w.heap.size, tn, none⟩ (.int .i64 (x : Int))) := (below_drewN hBb (nq + 1)).setCell (p := ⟨w.heap.size, tn, none⟩) (Nat.le_refl _) _
                      have hszU : ((Wb.drewN (nq + 1)).setCell ⟨w.heap.size, tn, none⟩ (.int .i64 (x : Int))).heap.size = Wb.heap.size := by simp [World.setCell, World.drewN]
                      have hcn := cell_one_new ((Wb.drewN (nq + 1)).setCell ⟨w.heap.size, tn, none⟩ (.int .i64 (x : Int))) (.int .i64 (tn : Int)) 3
                      rw [hszU, hbs] at hcn
                      have HCN : Hid _ := hcn
                      clear hcn
                      go_wp2_with (at_builtin; refine wpList_app1 _ rfl (.tmp 104) (.tmp 107) 24 rfl (w.heap.size + 1) 3 i3 (.int .i64 0) 8 Tryz.underlying24 hi hz0 hz1 hz2 rfl _ _ _ rfl (hL2.alloc _) ⟨_, 0, none⟩ 1 (.int .i64 (tn : Int)) rfl HCN.out (by simp [Value.oneCell']) (by unfold maxLen; omega) (by omega) (by simp [World.setCell, World.drewN]; omega) ?_; intro vl2 w4 hL4 hg4 hs4)
                      have hB4 : Below w.heap.size w w4 := (hB2'.alloc (by rw [hszU]; omega) _).grown hg4 (by simp [World.setCell, World.drewN]; omega) (fun b e => by have := (hL2.lt b e).1; omega)
                      have hsz4 : w.heap.size < w4.heap.size := by have := hg4.size; rw [World.size_alloc, hszU] at this; omega
                      have hF4 : w4.ownsRow w.heap.size 3 1 (.slice (some ⟨w.heap.size, 0, none⟩) N N) N ((s'.1.set tn (x : Int)).map i64V) := by
                        have h := hF2'.1
                        rw [show (s'.1.map i64V).set tn (.int .i64 (x : Int)) = (s'.1.set tn (x : Int)).map i64V by rw [List.map_set]; rfl] at h
                        exact own_block (h.alloc _) (fun b hb' => hg4.block b (((h.alloc _).lt b hb').2) (fun e => by
                          have h1 := (hL2.lt b e.symm).1
                          have h2 : b = w.heap.size := by simp [Value.ownBlock] at hb'; exact hb'.symm
                          omega))
                      clear hg4 hs4 hL2 hF2' hB2'
                      go_roundw
                      case rel => exact ⟨m + 1, _, by go_num, by omega, HR2, HRI2.out, by simp only []; rw [List.getElem?_append_left hn']; exact hx', hF4, by simp only [List.length_append, List.length_singleton, List.map_append, List.map_singleton]; exact hL4, hB4, hsz4⟩
                      case measure => simp [intOf]; omega
                    · have HR2 : Hid (rin k x (E.drop (m + 1)) s' = RR) := by unfold Hid; rw [HRIN2.out, if_neg htk, if_neg hneg]
                      clear HRIN2
                      go_quiet (fail)
                      go_wp2
                      go_roundw
                      case rel => exact ⟨m + 1, s', by go_num, by omega, HR2, hRI', hx', hFb, hLb, below_drewN hBb _, hszb⟩
                      case measure => simp [intOf]; omega
              · have HR2 : Hid (rin k x (E.drop (m + 1)) s' = RR) := by unfold Hid; rw [HRIN.out, if_neg (fun h => hA h.1)]
                have hd1 : (es != (x : Int)) = true := by simpa using hA
                clear HRIN
                go_quiet (fail)
                go_wp2
                go_roundw
                case rel => exact ⟨m + 1, s', by go_num, by omega, HR2, hRI', hx', hFb, hLb, below_drewN hBb _, hszb⟩
                case measure => simp [intOf]; omega
            · have hdrop : E.drop m = [] := List.drop_of_length_le (by omega)
              have HRR2 : Hid (RR = (false, s')) := by unfold Hid; rw [← hRm.out, hdrop, rin]
              have HK3 : Hid (K = ringOut k N (rout E k f' (n + 1) s')) := by unfold Hid; rw [HK2.out, HRR2.out]; rfl
              clear hRm hdrop
              go_wp2
              go_roundw
              case rel => exact ⟨n + 1, f', s', by go_num, by omega, by omega, hRI', HK3, hF', hL', hB', hsz'⟩
              case measure => simp [intOf]; omega
        · have HKN : Hid (K = []) := by
            unfold Hid
            rw [hKs.out]
            cases f with
            | zero => rfl
            | succ f => rw [rout, List.getElem?_eq_none (by omega)]; rfl
          clear hKs HK
          go_wp2
          go_ret
          exact ⟨_, rfl, by rw [HKN.out]; exact World.ownsRow_nil _ _ _ _, hB⟩
end Go.Proofs.YtimgafblpmjajabGreat
namespace Go.Proofs.YtimgafblpmjajabGreat

open Go.RowKit

theorem rin_inv {N k x i : Nat} : ∀ (L : List Eg) (s : List Int × List Nat), (∀ e ∈ L, e.to < (N : Int)) → RI N k s → s.2[i]? = some x → RI N k (rin k x L s).2 ∧ (rin k x L s).2.2[i]? = some x
  | [], s, _, h, hx => ⟨h, hx⟩
  | e :: r, s, hL, h, hx => by
    have hr : ∀ e ∈ r, e.to < (N : Int) := fun y hy => hL y (by simp [hy])
    have he := hL e (by simp)
    rw [rin]
    split
    · rename_i hc
      split
      · exact ⟨h, hx⟩
      · rename_i hk
        split
        · rename_i hneg
          have hp := h.put hx (t := e.to.toNat) (by omega) (by omega) hneg
          refine rin_inv r _ hr hp ?_
          have hil : i < s.2.length := by
            rcases Nat.lt_or_ge i s.2.length with hi | hi
            · exact hi
            · rw [List.getElem?_eq_none hi] at hx; cases hx
          simp only []; rw [List.getElem?_append_left hil]; exact hx
        · exact rin_inv r s hr h hx
    · exact rin_inv r s hr h hx
theorem rout_inv {E : List Eg} {N k : Nat} (hE : ∀ e ∈ E, e.to < (N : Int)) : ∀ (f i : Nat) (s : List Int × List Nat) (x : Nat) (fr : List Int), RI N k s → rout E k f i s = some (x, fr) → ∃ (s' : List Int × List Nat) (j : Nat), RI N k s' ∧ s'.1 = fr ∧ s'.2[j]? = some x
  | 0, _, _, _, _, _, h => by simp [rout] at h
  | f + 1, i, s, x, fr, hI, h => by
    rw [rout] at h
    cases hx : s.2[i]? with
    | none => rw [hx] at h; simp at h
    | some y =>
      rw [hx] at h
      obtain ⟨h1, h2⟩ := rin_inv (k := k) E s hE hI hx
      simp only [] at h
      split at h
      · simp only [Option.some.injEq, Prod.mk.injEq] at h
        obtain ⟨rfl, rfl⟩ := h
        exact ⟨_, i, h1, rfl, h2⟩
      · exact rout_inv hE f (i + 1) _ x fr h1 h
theorem backP_lt {N k : Nat} {s : List Int × List Nat} (h : RI N k s) : ∀ (f x j : Nat), s.2[j]? = some x → (∀ y ∈ backP s.1 k f x, y < N) ∧ (backP s.1 k f x).length ≤ posL s.2 x
  | 0, x, _, _ => by simp [backP]
  | f + 1, x, j, hx => by
    rw [backP]
    split
    · simp
    · rename_i hk
      obtain ⟨y', h6, ⟨j', h5⟩, h7⟩ := h.back hx hk
      obtain ⟨i1, i2⟩ := backP_lt h f y' j' h5
      rw [h6]
      simp only [Option.getD_some, Int.toNat_natCast]
      refine ⟨fun y hy => ?_, by simp only [List.length_cons]; omega⟩
      rcases List.mem_cons.1 hy with rfl | hy
      · exact h.lt _ (List.mem_of_getElem? hx)
      · exact i1 y hy
theorem ringK_lt {E : List Eg} {N k : Nat} (hE : ∀ e ∈ E, e.to < (N : Int)) (hk : k < N) : (∀ y ∈ ringK E N k, y < N) ∧ (ringK E N k).length ≤ N := by
  unfold ringK
  cases hr : rout E k (N + 1) 0 (List.replicate N (-1), [k]) with
  | none => simp [ringOut]
  | some r =>
    obtain ⟨x, fr⟩ := r
    obtain ⟨s', j, h1, rfl, h3⟩ := rout_inv hE _ _ _ _ _ (RI.start N k hk) hr
    obtain ⟨i1, i2⟩ := backP_lt h1 (N + 1) x j h3
    have hp := (posL_lt h3).2.1
    have hrm := h1.room
    simp only [ringOut]
    refine ⟨fun y hy => ?_, by simp only [List.length_cons, List.length_reverse]; omega⟩
    rcases List.mem_cons.1 hy with rfl | hy
    · exact hk
    · exact i1 y (List.mem_reverse.1 hy)
def bestStep (E : List Eg) (N : Nat) (best : List Nat) (k : Nat) : List Nat := if 0 < (ringK E N k).length ∧ (best.length = 0 ∨ (ringK E N k).length < best.length) then ringK E N k else best
def bestUp (E : List Eg) (N n : Nat) : List Nat := (List.range n).foldl (bestStep E N) []
theorem bestUp_succ (E : List Eg) (N n : Nat) : bestUp E N (n + 1) = bestStep E N (bestUp E N n) n := by unfold bestUp; rw [List.range_succ, List.foldl_append]; rfl
theorem bestUp_lt {E : List Eg} {N : Nat} (hE : ∀ e ∈ E, e.to < (N : Int)) : ∀ n, n ≤ N → (∀ y ∈ bestUp E N n, y < N) ∧ (bestUp E N n).length ≤ N
  | 0, _ => by simp [bestUp]
  | n + 1, h => by
    rw [bestUp_succ]
    unfold bestStep
    split
    · exact ringK_lt hE (by omega)
    · exact bestUp_lt hE n (by omega)
def shortOf (D : Wd) : List (List UInt8) := (bestUp (edgesOf D) D.mods.length D.mods.length).map (nameK D.mods)
theorem shortOf_len (D : Wd) (hD : D.t ≤ 1048576) : (shortOf D).length ≤ 1048576 := by
  have h := (bestUp_lt (edgesOf_to D) D.mods.length (Nat.le_refl _)).2
  unfold Wd.t mdsT at hD
  unfold shortOf; rw [List.length_map]; omega
theorem nmV_name (M : List Md) (k : Nat) : nmV M k = strV (nameK M k) := rfl

set_option maxHeartbeats 16000000 in
set_option maxRecDepth 100000 in
theorem specRing_any (v : Value) (D : Wd) (w : World) (h : Wds w v D) (hD : D.t ≤ 1048576) :
    Calls Tryz.prog 20 #[v] w fun e w' => ∃ v', e = .returned v' ∧ w'.ownsRow w.heap.size 9 1 v' (shortOf D).length ((shortOf D).map strV) ∧ Below w.heap.size w w' := by
  obtain ⟨i9, hi, hz0, hz1, hz2⟩ := info_parts Tryz.info9
  obtain ⟨a1, a2, a3, k1, k2, k3, rfl⟩ := h.agg'
  obtain ⟨W, hW⟩ : ∃ W, W = w.alloc (.cells #[.slice a1 D.roots.length k1, .slice a2 D.mods.length k2, .slice a3 D.faults.length k3] 32) := ⟨_, rfl⟩
  have hWB : Below w.heap.size w W := by rw [hW]; exact (Below.refl _ _).alloc (Nat.le_refl _) _
  have hWs : W.heap.size = w.heap.size + 1 := by rw [hW]; simp
  have hc3 := cells3 w (.slice a1 D.roots.length k1) (.slice a2 D.mods.length k2) (.slice a3 D.faults.length k3) 32
  rw [← hW] at hc3
  have hWd := h.below hWB (Nat.le_refl _)
  have hmods : Mds W (.slice a2 D.mods.length k2) D.mods := by
    obtain ⟨r, m, f, hv, h1, h2, h3⟩ := hWd
    have : m = .slice a2 D.mods.length k2 := by simp at hv; exact hv.2.1.symm
    rw [← this]; exact h2
  have HNM : Hid (∀ k (hk : k < D.mods.length), ∃ b o, a2 = some ⟨b, o, none⟩ ∧ b < W.heap.size ∧ W.cell? ⟨b, o + k * 2, none⟩ = some (strV D.mods[k].name)) := by
    obtain ⟨a, cap, hv, hcap, hmax, hc⟩ := hmods
    cases hv
    exact fun k hk => by obtain ⟨b, o, s, ha, hb, h0, _⟩ := hc k hk; exact ⟨b, o, ha, hb, h0⟩
  have hk2 : D.mods.length ≤ k2 := by obtain ⟨a, cap, hv, hcap, _⟩ := hmods; cases hv; exact hcap
  have hml : D.mods.length ≤ 1048576 := by unfold Wd.t mdsT at hD; omega
  have HW : Hid (W = w.alloc (.cells #[.slice a1 D.roots.length k1, .slice a2 D.mods.length k2, .slice a3 D.faults.length k3] 32)) := hW
  have hed := specEdges_any _ D W hWd hD
  have hEl := edgesOf_len D hD
  have hEt := edgesOf_to D
  obtain ⟨E, hE⟩ : ∃ E, E = edgesOf D := ⟨_, rfl⟩
  obtain ⟨N, hN⟩ : ∃ N, N = D.mods.length := ⟨_, rfl⟩
  have HRES : Hid (shortOf D = (bestUp E N N).map (nameK D.mods)) := by unfold Hid shortOf; rw [← hE, ← hN]
  rw [← hE] at hed hEl hEt
  rw [← hN] at hml hEt hk2 hc3 HW
  have HBU : Hid (∀ n, n ≤ N → (∀ y ∈ bestUp E N n, y < N) ∧ (bestUp E N n).length ≤ N) := bestUp_lt hEt
  have HRG : Hid (∀ (vv : Value) (k : Nat) (V : World), Egs V vv E → k < N → Calls Tryz.prog 43 #[vv, .int .i64 N, .int .i64 k] V fun e w' => ∃ v', e = .returned v' ∧ w'.ownsRow V.heap.size 3 1 v' (ringK E N k).length ((ringK E N k).map natV) ∧ Below V.heap.size V w') := fun vv k V hV hk => l4ring_any vv E N k V hV hEl hml hk hEt
  have HNN : Hid (N = D.mods.length) := hN
  rw [← hN] at hed
  clear hW h hWd hmods hE hEt hN hD
  go_enter Tryz.func20, Tryz.ntmps20
  rw [← HNN.out]
  go_wp2_with fail
  rw [← HW.out]
  refine hed.mono ?_
  rintro e w1 ⟨ve, rfl, re1, hb1⟩
  obtain ⟨ea, ec, rfl, _, _⟩ := row_form re1
  have x1 := below_cell0 hb1 (by omega) hc3.2.1
  have hs1 := hb1.size
  go_wp2
  go_loopw [4, 15] (fun vb i wr => ∃ n : Nat, n ≤ N ∧ i = .int .i64 n ∧ wr.ownsRow w1.heap.size 3 1 vb (bestUp E N n).length ((bestUp E N n).map natV) ∧ Below w1.heap.size w1 wr) (fun _ i _ => N - (intOf i).toNat)
  case atStart => exact ⟨0, Nat.zero_le _, rfl, World.ownsRow_nil _ _ _ _, Below.refl _ _⟩
  case round =>
    obtain ⟨n, hn, rfl, hb, hB⟩ := hrel
    have hBW : Below W.heap.size W wr := hb1.trans (hB.mono hs1)
    have hsz := hB.size
    obtain ⟨hb_lt, hb_len⟩ := HBU.out n hn
    have hst := bestUp_succ E N n
    obtain ⟨b, hbe⟩ : ∃ b, b = bestUp E N n := ⟨_, rfl⟩
    rw [← hbe] at hb hb_lt hb_len hst
    have HBE : Hid (b = bestUp E N n) := hbe
    have HST : Hid (bestUp E N (n + 1) = bestStep E N b n) := hst
    clear hbe hst
    obtain ⟨ab, cb, rfl, hcb, hgb⟩ := row_form hb
    by_cases hlt : n < N
    · have y1 := below_cell0 hBW (by omega) hc3.2.1
      have hcall := HRG.out (.slice ea E.length ec) n wr ((egs_own re1).below hB (Nat.le_refl _)) hlt
      obtain ⟨r, hr⟩ : ∃ r, r = ringK E N n := ⟨_, rfl⟩
      have HS2 : Hid (bestStep E N b n = if 0 < r.length ∧ (b.length = 0 ∨ r.length < b.length) then r else b) := by unfold Hid bestStep; rw [hr]
      rw [← hr] at hcall
      clear hr
      go_wp2_with fail
      refine hcall.mono ?_
      rintro e w2 ⟨vr, rfl, rr2, hb2⟩
      obtain ⟨ar, cr, rfl, hcr, _⟩ := row_form rr2
      have hB2 : Below w1.heap.size w1 w2 := hB.trans (hb2.mono hsz)
      have rr2' := own_mono rr2 hsz
      have bb2 := own_below hb hb2 (Nat.le_refl _)
      clear hcall rr2 hb hb2
      by_cases hr0 : 0 < r.length
      · have hr0' : (0 : Int) < (r.length : Int) := by omega
        by_cases hb0 : b.length = 0
        · have HF : Hid (bestUp E N (n + 1) = r) := by unfold Hid; rw [HST.out, HS2.out, if_pos ⟨hr0, .inl hb0⟩]
          have hbi : ((b.length : Int) == 0) = true := beq_iff_eq.2 (by omega)
          clear HS2 HST
          go_wp2
          go_roundw
          case rel => exact ⟨n + 1, by omega, by go_num, by rw [HF.out]; exact rr2', hB2⟩
          case measure => simp [intOf]; omega
        · have hbi : ((b.length : Int) == 0) = false := beq_eq_false_iff_ne.2 (by omega)
          by_cases hlb : r.length < b.length
          · have HF : Hid (bestUp E N (n + 1) = r) := by unfold Hid; rw [HST.out, HS2.out, if_pos ⟨hr0, .inr hlb⟩]
            have hli : (r.length : Int) < (b.length : Int) := by omega
            clear HS2 HST
            go_wp2
            go_roundw
            case rel => exact ⟨n + 1, by omega, by go_num, by rw [HF.out]; exact rr2', hB2⟩
            case measure => simp [intOf]; omega
          · have HF : Hid (bestUp E N (n + 1) = b) := by unfold Hid; rw [HST.out, HS2.out, if_neg (by omega)]
            have hli : ¬ (r.length : Int) < (b.length : Int) := by omega
            have hld : decide ((r.length : Int) < (b.length : Int)) = false := by simpa using hli
            clear HS2 HST
            go_wp2
            go_roundw
            case rel => exact ⟨n + 1, by omega, by go_num, by rw [HF.out]; exact bb2, hB2⟩
            case measure => simp [intOf]; omega
      · have HF : Hid (bestUp E N (n + 1) = b) := by unfold Hid; rw [HST.out, HS2.out, if_neg (by omega)]
        have hr1 : ¬ (0 : Int) < (r.length : Int) := by omega
        have hrd : decide ((0 : Int) < (r.length : Int)) = false := by simpa using hr1
        clear HS2 HST
        go_wp2
        go_roundw
        case rel => exact ⟨n + 1, by omega, by go_num, by rw [HF.out]; exact bb2, hB2⟩
        case measure => simp [intOf]; omega
    · have hnN : n = N := by omega
      subst hnN
      have HR2 : Hid (shortOf D = b.map (nameK D.mods)) := by unfold Hid; rw [HBE.out]; exact HRES.out
      obtain ⟨wo, rfl⟩ : ∃ wo, wo = wr := ⟨_, rfl⟩
      clear HBU HRG HST
      go_wp2
      go_loopw [7, 43] (fun vo i wr => ∃ m : Nat, m ≤ b.length ∧ i = .int .i64 m ∧ wr.ownsRow wo.heap.size 9 1 vo ((b.take m).map (nmV D.mods)).length ((b.take m).map (nmV D.mods)) ∧ Below wo.heap.size wo wr) (fun _ i _ => b.length - (intOf i).toNat)
      case atStart => exact ⟨0, Nat.zero_le _, rfl, World.ownsRow_nil _ _ _ _, Below.refl _ _⟩
      case round =>
        obtain ⟨m, hm, rfl, ho, hB3⟩ := hrel
        have hs3 := hB3.size
        have hbo := own_below hb hB3 (Nat.le_refl _)
        have hBW3 : Below W.heap.size W wr := hBW.trans (hB3.mono (by omega))
        obtain ⟨OL, hOL⟩ : ∃ OL, OL = (b.take m).map (nmV D.mods) := ⟨_, rfl⟩
        rw [← hOL] at ho
        have HOL : Hid (OL = (b.take m).map (nmV D.mods)) := hOL
        have hol : OL.length ≤ 1048578 := by rw [hOL, List.length_map, List.length_take]; omega
        clear hOL
        obtain ⟨ao, co, rfl, hco, _⟩ := row_form ho
        by_cases hlt2 : m < b.length
        · obtain ⟨gb, rfl⟩ := hgb (by omega)
          have hbm := hb_lt b[m] (List.getElem_mem hlt2)
          obtain ⟨bm, hbm'⟩ : ∃ bm, bm = b[m] := ⟨_, rfl⟩
          have hbc : wr.cell? ⟨gb, m, none⟩ = some (.int .i64 (bm : Int)) := by
            rw [hbo.cellAt m (by omega), List.getElem?_map, List.getElem?_eq_getElem hlt2, ← hbm']; rfl
          rw [← hbm'] at hbm
          obtain ⟨mb, mo, rfl, hmb, hmc⟩ := HNM.out bm (by have := HNN.out; omega)
          have y1 := below_cell0 hBW3 (by omega) hc3.2.1
          obtain ⟨ns, hns⟩ : ∃ ns, strV (D.mods[bm]'(by have := HNN.out; omega)).name = .string ns := ⟨_, rfl⟩
          rw [hns] at hmc
          have hmc3 := below_cell0 hBW3 hmb hmc
          have HNV : Hid (nmV D.mods bm = .string ns) := by unfold Hid nmV; rw [List.getElem?_eq_getElem (by have := HNN.out; omega)]; exact hns
          have HNX : Hid ((b.take (m + 1)).map (nmV D.mods) = OL ++ [.string ns]) := by
            unfold Hid; rw [List.take_succ_eq_append_getElem hlt2, List.map_append, List.map_singleton, ← hbm', HNV.out, HOL.out]
          have hgbl := (hbo.lt gb rfl).2
          have hbmI : (bm : Int) < (n : Int) := by omega
          clear hbm' hmc hns hbo
          go_wp2_with (at_builtin; refine wpList_app1 _ rfl (.tmp 47) (.tmp 54) 22 rfl wo.heap.size 9 i9 (.string ByteArray.empty) 16 Tryz.underlying22 hi hz0 hz1 hz2 rfl _ _ _ rfl (ho.alloc _) ⟨_, 0, none⟩ 1 (.string ns) rfl (cell_one_new _ _ _) (by simp [Value.oneCell']) (by unfold maxLen; omega) (by omega) (by simp; omega) ?_; intro vo2 w4 ho4 hg4 hs4; have hB4 : Below wo.heap.size wo w4 := below_append hB3 hs3 ho hg4)
          go_roundw
          case rel => exact ⟨m + 1, by omega, by go_num, by rw [HNX.out, List.length_append, List.length_singleton]; exact ho4, hB4⟩
          case measure => simp [intOf]; omega
        · have HOK : Hid ((shortOf D).map strV = OL) := by
            unfold Hid; rw [HR2.out, HOL.out, List.take_of_length_le (by omega), List.map_map]; rfl
          have HOKL : Hid ((shortOf D).length = OL.length) := by unfold Hid; rw [← HOK.out, List.length_map]
          go_wp2
          go_ret
          exact ⟨_, rfl, by rw [HOK.out, HOKL.out]; exact own_mono ho (by omega), hWB.trans (hBW3.mono hWB.size)⟩
end Go.Proofs.YtimgafblpmjajabGreat
namespace Go.Proofs.YtimgafblpmjajabGreat
open Go.RowKit

theorem fold_leads (E : List Eg) (f k : Nat) : ∀ (L : List Eg) (s : List Bool × List Nat), L.foldl (visStep E f k) s = (leadsOf L k).foldl (fun s t => vis E f t s) s
  | [], s => rfl
  | e :: r, s => by
    rw [List.foldl_cons, fold_leads E f k r, leadsOf_cons, List.foldl_append]
    unfold visStep
    split <;> rfl
/-- The search's inner round, over where a module's imports lead. -/
def rinL (k x : Nat) : List Nat → List Int × List Nat → Bool × (List Int × List Nat)
  | [], s => (false, s)
  | t :: r, s => if t = k then (true, s) else if (s.1[t]?).getD 0 < 0 then rinL k x r (s.1.set t (x : Int), s.2 ++ [t]) else rinL k x r s
theorem rin_leads (k x : Nat) : ∀ (L : List Eg) (s : List Int × List Nat), rin k x L s = rinL k x (leadsOf L x) s
  | [], s => rfl
  | e :: r, s => by
    rw [rin, leadsOf_cons]
    by_cases h : e.src = (x : Int) ∧ 0 ≤ e.to
    · rw [if_pos h, if_pos h]
      simp only [List.cons_append, List.nil_append, rinL]
      have hk : e.to = (k : Int) ↔ e.to.toNat = k := by omega
      by_cases h1 : e.to = (k : Int)
      · rw [if_pos h1, if_pos (hk.1 h1)]
      · rw [if_neg h1, if_neg (fun h => h1 (hk.2 h))]
        split
        · exact rin_leads k x r _
        · exact rin_leads k x r _
    · rw [if_neg h, if_neg h]; exact rin_leads k x r s
/-- A way back to the first module. -/
def Chn (fr : List Int) (k : Nat) : List Nat → Prop
  | [] => False
  | [x] => x = k
  | x :: y :: r => x ≠ k ∧ fr[x]? = some (y : Int) ∧ Chn fr k (y :: r)
theorem Chn.put {fr : List Int} {k t : Nat} (v : Int) (ht : (fr[t]?).getD 0 < 0) : ∀ {c : List Nat}, Chn fr k c → Chn (fr.set t v) k c
  | [], h => h
  | [_], h => h
  | x :: y :: r, h => by
    obtain ⟨h1, h2, h3⟩ := h
    have hne : t ≠ x := fun e => by rw [e, h2] at ht; simp at ht; omega
    exact ⟨h1, by rw [List.getElem?_set_ne hne]; exact h2, Chn.put v ht h3⟩
theorem Chn.back {fr : List Int} {k : Nat} : ∀ {x : Nat} {r : List Nat} (f : Nat), Chn fr k (x :: r) → r.length ≤ f → k :: (backP fr k f x).reverse = (x :: r).reverse
  | x, [], f, h, _ => by
    have hx : x = k := h
    subst hx
    cases f <;> simp [backP]
  | x, y :: r, 0, _, hf => by simp at hf
  | x, y :: r, f + 1, h, hf => by
    obtain ⟨h1, h2, h3⟩ := h
    rw [backP, if_neg h1, h2]
    simp only [Option.getD_some, Int.toNat_natCast]
    have ih := Chn.back (x := y) (r := r) f h3 (by simpa using hf)
    rw [List.reverse_cons (a := x), List.reverse_cons (a := x), ← ih]
    simp
/-- The ways by which the modules of the line were met. -/
structure Cs (k : Nat) (s : List Int × List Nat) (C : List (List Nat)) : Prop where
  len : C.length = s.2.length
  way : ∀ i (hi : i < s.2.length), ∃ c, C[i]? = some (s.2[i] :: c) ∧ Chn s.1 k (s.2[i] :: c) ∧ c.length ≤ i
theorem Cs.start (N k : Nat) : Cs k (List.replicate N (-1), [k]) [[k]] :=
  ⟨rfl, fun i hi => by
    have h0 : i = 0 := by simp at hi; omega
    subst h0
    exact ⟨[], rfl, rfl, Nat.le_refl _⟩⟩
theorem Cs.put {k : Nat} {s : List Int × List Nat} {C : List (List Nat)} (h : Cs k s C) {x t i : Nat} {c : List Nat} (hx : s.2[i]? = some x) (hc : C[i]? = some (x :: c)) (ht : t < s.1.length) (htk : t ≠ k) (hneg : (s.1[t]?).getD 0 < 0) : Cs k (s.1.set t (x : Int), s.2 ++ [t]) (C ++ [t :: x :: c]) := by
  refine ⟨by simp [h.len], fun j hj => ?_⟩
  simp only [List.length_append, List.length_singleton] at hj
  by_cases hjl : j < s.2.length
  · obtain ⟨c', h1, h2, h3⟩ := h.way j hjl
    refine ⟨c', ?_, ?_, h3⟩
    · rw [List.getElem?_append_left (by rw [h.len]; exact hjl)]
      simp only [List.getElem_append_left hjl]; exact h1
    · simp only [List.getElem_append_left hjl]
      exact h2.put _ hneg
  · have hje : j = s.2.length := by omega
    subst hje
    have hil : i < s.2.length := by
      rcases Nat.lt_or_ge i s.2.length with hi | hi
      · exact hi
      · rw [List.getElem?_eq_none hi] at hx; cases hx
    obtain ⟨c', h1, h2, h3⟩ := h.way i hil
    have hxe : s.2[i] = x := by rw [List.getElem?_eq_getElem hil] at hx; simpa using hx
    rw [hxe] at h1 h2
    rw [hc] at h1
    have hcc : c = c' := by simpa using h1
    subst hcc
    refine ⟨x :: c, ?_, ?_, ?_⟩
    · rw [List.getElem?_append_right (by rw [h.len]; exact Nat.le_refl _), h.len]; simp
    · simp only [List.getElem_concat_length]
      exact ⟨htk, by rw [List.getElem?_set_self ht], h2.put _ hneg⟩
    · simp only [List.length_cons]; omega
theorem Cs.at {k : Nat} {s : List Int × List Nat} {C : List (List Nat)} (h : Cs k s C) {i x : Nat} (hx : s.2[i]? = some x) : ∃ c, C[i]? = some (x :: c) ∧ Chn s.1 k (x :: c) ∧ c.length ≤ i := by
  have hil : i < s.2.length := by
    rcases Nat.lt_or_ge i s.2.length with hi | hi
    · exact hi
    · rw [List.getElem?_eq_none hi] at hx; cases hx
  have hxe : s.2[i] = x := by rw [List.getElem?_eq_getElem hil] at hx; simpa using hx
  obtain ⟨c, h1, h2, h3⟩ := h.way i hil
  rw [hxe] at h1 h2
  exact ⟨c, h1, h2, h3⟩
/-- Where the search ends, the way is the ring. -/
theorem ring_way {k N x i : Nat} {s : List Int × List Nat} {c : List Nat} (hR : RI N k s) (hx : s.2[i]? = some x) (hc : Chn s.1 k (x :: c)) (hl : c.length ≤ i) : ringOut k N (some (x, s.1)) = (x :: c).reverse := by
  have hil : i < s.2.length := by
    rcases Nat.lt_or_ge i s.2.length with hi | hi
    · exact hi
    · rw [List.getElem?_eq_none hi] at hx; cases hx
  have := hR.room
  exact hc.back (N + 1) (by omega)
theorem rinL_cons (k x t : Nat) (r : List Nat) (s : List Int × List Nat) : rinL k x (t :: r) s = if t = k then (true, s) else if (s.1[t]?).getD 0 < 0 then rinL k x r (s.1.set t (x : Int), s.2 ++ [t]) else rinL k x r s := rfl
theorem rout_at {E : List Eg} {k f i x : Nat} {s : List Int × List Nat} (hx : s.2[i]? = some x) : rout E k (f + 1) i s = if (rinL k x (leadsOf E x) s).1 then some (x, (rinL k x (leadsOf E x) s).2.1) else rout E k f (i + 1) (rinL k x (leadsOf E x) s).2 := by
  rw [rout, hx]
  simp only [rin_leads]
theorem rout_end {E : List Eg} {k f i : Nat} {s : List Int × List Nat} (hx : s.2.length ≤ i) : rout E k f i s = none := by
  cases f with
  | zero => rfl
  | succ f => rw [rout, List.getElem?_eq_none hx]
end Go.Proofs.YtimgafblpmjajabGreat
namespace Go.Proofs.YtimgafblpmjajabGreat
open Go.RowKit Go.Maps

theorem Tryz.markInt : Tryz.prog.underlying 108 = some (.int .i64) := by kernel_rfl
theorem zeroMark (w : World) : (zeroValue 108).run Tryz.prog w = .ok (.int .i64 0) w := by kernel_rfl
theorem law3 : Keyed Tryz.prog 3 := int_keyed Tryz.underlying3
theorem key3 (k : Nat) (hk : k ≤ 1048576) : keyOf Tryz.prog 3 (.int .i64 (k : Int)) = some (.int .i64 (k : Int)) := by
  exact keyOf_int_mk Tryz.underlying3 (WalkArith.wf_i64 (by omega))
/-- The marks are those of the places that were met. -/
def Marked (s : List Bool) (D : DataW Unit) : Prop := IsMap D ∧ ∀ k (hk : k < s.length), D.atKey (.int .i64 (k : Int)) (.lit (.int .i64 0)) = .lit (.int .i64 (if s[k] then 1 else 0))
theorem mrk_start (n : Nat) : Marked (List.replicate n false) (.map []) := ⟨isMap_empty, fun k hk => by simp; rfl⟩
theorem mrk_set {s : List Bool} {D : DataW Unit} (h : Marked s D) (k : Nat) (hk1 : k ≤ 1048576) : Marked (s.set k true) (D.put (.int .i64 (k : Int)) (.lit (.int .i64 1))) := by
  refine ⟨h.1.put _ _, fun j hj => ?_⟩
  have hj' : j < s.length := by simpa using hj
  by_cases he : j = k
  · subst he
    rw [atKey_put_same h.1 (law3.key (key3 j hk1))]; simp
  · have hne : (Lit.int IntKind.i64 (j : Int)) ≠ .int .i64 (k : Int) := fun e => he (by injection e with e1 e2; omega)
    rw [atKey_put_other hne, h.2 j hj']
    simp [List.getElem_set_ne (Ne.symm he)]
theorem map_keep {w w' : World} {b n : Nat} {k : TypeId} {R : Value → Option (DataW Unit × List MemPlace)} {D : DataW Unit} (hm : w.ownsMap Tryz.prog k R b n D) (h : w'.heap[b]? = w.heap[b]?) : w'.ownsMap Tryz.prog k R b n D := by
  obtain ⟨es, clock, hh, r⟩ := hm
  exact ⟨es, clock, h.trans hh, r⟩
theorem map_ne {w : World} {b n : Nat} {k : TypeId} {R : Value → Option (DataW Unit × List MemPlace)} {D : DataW Unit} (hm : w.ownsMap Tryz.prog k R b n D) {C : Nat} {cs : Array Value} {t : TypeId} {fr : Nat × Nat} (h : w.heap[C]? = some (.cells cs t fr)) : b ≠ C := fun e => by
  obtain ⟨es, clock, hh, r⟩ := hm
  rw [e, h] at hh; cases hh
theorem map_row {w : World} {b n : Nat} {k : TypeId} {R : Value → Option (DataW Unit × List MemPlace)} {D : DataW Unit} (hm : w.ownsMap Tryz.prog k R b n D) {lo : Nat} {t : TypeId} {sz l : Nat} {v : Value} {xs : List Value} (h : w.ownsRow lo t sz v l xs) : v.ownBlock ≠ some b := fun e => by
  obtain ⟨_, j2 | ⟨q, c, cur, rfl, _, hq, _⟩⟩ := h
  · rw [j2.1] at e; cases e
  · simp [Value.ownBlock] at e
    exact map_ne hm hq e.symm
/-- A search that puts places behind those that they lead to. -/
structure Dst (lo C mk : Nat) (w : World) (vo : Value) (s : List Bool × List Nat) : Prop where
  blk : w.heap[C]? = some (.cells #[vo] 76 (0, 0))
  lowC : lo ≤ C
  row : w.ownsRow lo 3 1 vo s.2.length (s.2.map numV)
  map : ∃ n D, w.ownsMap Tryz.prog 3 (plainElem Tryz.prog 108) mk n D ∧ Marked s.1 D ∧ n + unmet s.1 ≤ s.1.length
  lowM : lo ≤ mk
theorem Dst.keep {lo C mk : Nat} {w w' : World} {vo : Value} {s : List Bool × List Nat} (h : Dst lo C mk w vo s) (hb : ∀ b, b < w.heap.size → w'.heap[b]? = w.heap[b]?) : Dst lo C mk w' vo s := by
  obtain ⟨n, D, h1, h2, h3⟩ := h.map
  exact ⟨(hb C (Array.getElem?_eq_some_iff.1 h.blk).1).trans h.blk, h.lowC, own_block h.row (fun b e => hb b (h.row.lt b e).2), ⟨n, D, (Kg.of_keep hb).map h1, h2, h3⟩, h.lowM⟩

set_option maxHeartbeats 4000000 in
set_option maxRecDepth 100000 in
theorem add_any {lo C mk : Nat} {w : World} {vo : Value} {s : List Bool × List Nat} (h : Dst lo C mk w vo s) (k : Nat) (hl : s.2.length ≤ 1048576) :
    Calls Tryz.prog 40 #[.pointer (some ⟨C, 0, none⟩), .int .i64 k] w fun e w' => e = .returned (.tuple #[]) ∧ (∃ vo', Dst lo C mk w' vo' (s.1, s.2 ++ [k])) ∧ Below lo w w' := by
  obtain ⟨i3, hi3, jz0, jz1, jz2⟩ := info_parts Tryz.info3
  have c0 : w.cell? ⟨C, 0, none⟩ = some vo := by have := h.blk; simp [World.cell?, this]
  have hCl : C < w.heap.size := (Array.getElem?_eq_some_iff.1 h.blk).1
  have hlo : lo ≤ w.heap.size := Nat.le_trans h.lowC (Nat.le_of_lt hCl)
  obtain ⟨av, cv, rfl, hcv, _⟩ := row_form h.row
  have HD : Hid (Dst lo C mk w.drew (.slice av s.2.length cv) s) := h.keep (fun _ _ => rfl)
  have c0' : ∀ o', (w.alloc o').cell? ⟨C, 0, none⟩ = some (.slice av s.2.length cv) := fun o' => below_cell0 ((Below.refl w.heap.size w).alloc (Nat.le_refl _) o') hCl c0
  have HN : Hid (∀ j u, [Value.int .i64 (k : Int)][j]? = some u → (w.drew.alloc (.cells #[.int .i64 (k : Int)] 3)).cell? ((⟨w.heap.size, 0, none⟩ : Addr).add j) = some u) := cell_one_new w.drew _ 3
  clear h
  go_enter Tryz.func40, Tryz.ntmps40
  go_wp2_with (at_builtin; refine wpList_append_lies _ rfl _ _ 24 rfl lo 3 i3 _ 1 8 Tryz.underlying24 hi3 jz0 jz1 jz2 rfl (by decide) (.slice av s.2.length cv) s.2.length (s.2.map numV) rfl (HD.out.row.alloc (.cells #[.int .i64 (k : Int)] 3)) ⟨w.heap.size, 0, none⟩ 1 1 [.int .i64 (k : Int)] rfl rfl HN.out (by intro u hu; simp at hu; subst hu; rfl) (by decide) (by unfold maxLen; omega) (by omega) (by simp; omega) (w.heap.size + 1) (by simp) ?_; intro gs cap4 w4 hown4 hgrow4 hat4 hlt4; have hbC : w4.heap[C]? = some (.cells #[.slice av s.2.length cv] 76 (0, 0)) := (grown_keep hgrow4 (by simp; omega) (blk_ne HD.out.blk HD.out.row (by decide))).trans ((old_blk w.drew _ hCl).trans HD.out.blk); have v0 : w4.cell? ⟨C, 0, none⟩ = some (.slice av s.2.length cv) := (by simp [World.cell?, hbC]); have vf : w4.frozen? ⟨C, 0, none⟩ = false := (by simp [World.frozen?, hbC]))
  obtain ⟨nm, DM, hm1, hm2, hm3⟩ := HD.out.map
  have hmk : w4.heap[mk]? = w.heap[mk]? := (grown_keep hgrow4 (by have := hm1.lt; simp; exact Nat.lt_succ_of_lt this) (map_row hm1 HD.out.row)).trans (old_blk w.drew _ hm1.lt)
  have hD4 : Dst lo C mk (w4.setCell ⟨C, 0, none⟩ (.slice (some ⟨gs, 0, none⟩) (s.2.length + 1) cap4)) (.slice (some ⟨gs, 0, none⟩) (s.2.length + 1) cap4) (s.1, s.2 ++ [k]) := by
    refine ⟨?_, HD.out.lowC, ?_, ⟨nm, DM, ?_, hm2, hm3⟩, HD.out.lowM⟩
    · rw [heap_setCell_same w4 C 0 _ _ _ hbC]; rfl
    · rw [List.length_append, List.length_singleton, List.map_append, List.map_singleton]
      exact own_block hown4 (fun b hb => Below.heap_setCell _ _ _ _ (fun e' => blk_ne hbC hown4 (by decide) (by rw [hb]; exact congrArg some e')))
    · exact map_keep hm1 ((Below.heap_setCell _ _ _ _ (map_ne hm1 HD.out.blk)).trans hmk)
  have hB4 : Below lo w (w4.setCell ⟨C, 0, none⟩ (.slice (some ⟨gs, 0, none⟩) (s.2.length + 1) cap4)) :=
    (((Below.refl lo w).alloc hlo _).grown hgrow4 (by simp; omega) (fun b e' => (HD.out.row.lt b e').1)).setCell (p := ⟨C, 0, none⟩) HD.out.lowC _
  first | go_end0 | refine bodyPost_ret (results_none rfl _ _ _) rfl ?_
  exact ⟨rfl, ⟨_, hD4⟩, hB4⟩

theorem fold_vis {E : List Eg} {N : Nat} (hE : ∀ e ∈ E, e.to < (N : Int)) (fu : Nat) : ∀ (L : List Nat), (∀ t ∈ L, t < N) → ∀ (s : List Bool × List Nat) (c : Nat), VInv N c s → VInv N c (L.foldl (fun s t => vis E fu t s) s) ∧ unmet (L.foldl (fun s t => vis E fu t s) s).1 ≤ unmet s.1
  | [], _, _, _, h => ⟨h, Nat.le_refl _⟩
  | t :: r, hL, s, c, h => by
    have h1 := vis_inv hE fu t s c (hL t (by simp)) h
    have h2 := fold_vis hE fu r (fun x hx => hL x (by simp [hx])) _ c h1.1
    exact ⟨h2.1, Nat.le_trans h2.2 h1.2⟩

set_option maxHeartbeats 8000000 in
set_option maxRecDepth 100000 in
theorem deepest_any {B g : Nat} {r m f st ve : Value} {S : List Value} {E : List Eg} {N : Nat} (hE : ∀ e ∈ E, e.to < (N : Int)) (hEl : E.length ≤ 1048576) (hN : N ≤ 1048576) : ∀ (fu : Nat) (lo C mk : Nat) (vo : Value) (s : List Bool × List Nat) (k : Nat) (w : World),
    Grb lo B g w r m f st ve S E N → Dst lo C mk w vo s → VInv N 0 s → s.1[k]? = some false → unmet s.1 ≤ fu →
    Calls Tryz.prog 38 #[.int .i64 k, .map (some mk), .func (.func 39) #[.pointer (some ⟨B, 0, none⟩)] #[], .func (.func 40) #[.pointer (some ⟨C, 0, none⟩)] #[]] w fun e w' => e = .returned (.tuple #[]) ∧ (∃ vo', Dst lo C mk w' vo' (vis E fu k s)) ∧ Below lo w w'
  | 0, _, _, _, _, s, k, _, _, _, _, hk, hu => by have := unmet_set s.1 k hk; omega
  | fu + 1, lo, C, mk, vo, s, k, w, hG, hD, hI, hk, hu => by
    have IH := deepest_any (B := B) (g := g) (r := r) (m := m) (f := f) (st := st) (ve := ve) (S := S) hE hEl hN fu
    have hkN : k < N := by
      rcases Nat.lt_or_ge k s.1.length with h1 | h1
      · rw [← hI.1]; exact h1
      · rw [List.getElem?_eq_none h1] at hk; cases hk
    obtain ⟨nm, DM, hm1, hm2, hm3⟩ := hD.map
    have hus := unmet_set s.1 k hk
    have hkey := key3 k (by omega)
    have hmk := hm1.lt
    have hroom : nm < maxLen := by have := hI.1; unfold maxLen; omega
    have HD : Hid (Dst lo C mk w vo s ∧ Marked s.1 DM ∧ nm + unmet s.1 ≤ s.1.length) := ⟨hD, hm2, hm3⟩
    have HG : Hid (Grb lo B g w r m f st ve S E N) := hG
    have HIH : Hid (∀ (lo C mk : Nat) (vo : Value) (s : List Bool × List Nat) (k : Nat) (w : World),
      Grb lo B g w r m f st ve S E N → Dst lo C mk w vo s → VInv N 0 s → s.1[k]? = some false → unmet s.1 ≤ fu →
      Calls Tryz.prog 38 #[.int .i64 k, .map (some mk), .func (.func 39) #[.pointer (some ⟨B, 0, none⟩)] #[], .func (.func 40) #[.pointer (some ⟨C, 0, none⟩)] #[]] w fun e w' => e = .returned (.tuple #[]) ∧ (∃ vo', Dst lo C mk w' vo' (vis E fu k s)) ∧ Below lo w w') := IH
    clear IH hG hD hm2 hm3
    go_enter Tryz.func38, Tryz.ntmps38
    go_wp2_with (at_mapUpdate; refine wpList_mapUpdate_own _ rfl _ _ _ 78 rfl 3 108 law3 Tryz.underlying78 (plainElem (H := Unit) Tryz.prog 108) mk nm DM rfl hm1 hroom _ _ (.int .i64 (k : Int)) rfl rfl hkey _ [] (plainElem_int Tryz.markInt (by decide)) ?_; intro w1 hm4 hgrow1)
    have hD1 : Dst lo C mk w1 vo (s.1.set k true, s.2) := by
      obtain ⟨h1, h2, h3⟩ := HD.out
      refine ⟨?_, h1.lowC, ?_, ⟨nm + 1, _, hm4, mrk_set h2 k (by omega), ?_⟩, h1.lowM⟩
      · rw [grown_keep hgrow1 (Array.getElem?_eq_some_iff.1 h1.blk).1 (fun e => map_ne hm1 h1.blk (Option.some.inj e))]; exact h1.blk
      · exact own_block h1.row (fun b hb => grown_keep hgrow1 (h1.row.lt b hb).2 (fun e => map_row hm1 h1.row (by rw [hb]; exact e.symm)))
      · show nm + 1 + unmet (s.1.set k true) ≤ (s.1.set k true).length
        rw [List.length_set]; omega
    have hB1 : Below lo w w1 := (Below.refl lo w).grown hgrow1 (by have := HD.out.1.lowM; omega) (fun b e' => by have := Option.some.inj e'; have := HD.out.1.lowM; omega)
    have hI1 : VInv N 1 (s.1.set k true, s.2) := ⟨by simp [hI.1], by have := hI.2.1; simp only []; omega, hI.2.2⟩
    have HV : Hid (vis E (fu + 1) k s = (((leadsOf E k).foldl (fun s t => vis E fu t s) (s.1.set k true, s.2)).1, ((leadsOf E k).foldl (fun s t => vis E fu t s) (s.1.set k true, s.2)).2 ++ [k])) := by unfold Hid; rw [vis_eq E fu k s hk, fold_leads]
    have HLT : Hid (∀ t ∈ leadsOf E k, t < N) := leadsOf_lt hE k
    have hLl := leadsOf_len E k
    have hu1 : unmet (s.1.set k true) ≤ fu := by omega
    obtain ⟨s0, hs0⟩ : ∃ s0, s0 = (s.1.set k true, s.2) := ⟨_, rfl⟩
    have hu0 : unmet s0.1 ≤ fu := by rw [hs0]; exact hu1
    rw [← hs0] at hD1 hI1 HV
    obtain ⟨L, hL⟩ : ∃ L, L = leadsOf E k := ⟨_, rfl⟩
    have hlt1 := leadsTo_any (HG.out.below hB1) k hkN
    rw [← hL] at hlt1 HV HLT hLl
    have HFV : Hid (∀ n, VInv N 1 ((L.take n).foldl (fun s t => vis E fu t s) s0) ∧ unmet ((L.take n).foldl (fun s t => vis E fu t s) s0).1 ≤ unmet s0.1) := fun n => fold_vis hE fu (L.take n) (fun t ht => HLT.out t (List.mem_of_mem_take ht)) _ _ hI1
    have HG1 : Hid (Grb lo B g w1 r m f st ve S E N) := HG.out.below hB1
    have HB1 : Hid (Below lo w w1) := hB1
    have hlo1 : lo ≤ w1.heap.size := by have := HD.out.1.lowM; have := hgrow1.size; omega
    have HD1 : Hid (Dst lo C mk w1 vo s0) := hD1
    clear hs0 hL hD1 hI1 hB1 hm1 hm4 hgrow1 HD HG hus hu hk hI hkey hmk hroom hu1 hE
    refine hlt1.mono ?_
    rintro e w2 ⟨vl, rfl, hvl, hb2⟩
    have hD2 := HD1.out.keep (fun b hb => hb2.block b hb)
    have hG2 := HG1.out.below (hb2.mono hlo1)
    have hB2 : Below lo w w2 := HB1.out.trans (hb2.mono hlo1)
    have hlo2 : lo ≤ w2.heap.size := Nat.le_trans hlo1 hb2.size
    obtain ⟨al, cl, rfl, hcl, hcell⟩ := hvl
    have HC : Hid (∀ i (hi : i < L.length), ∃ b o, al = some ⟨b, o, none⟩ ∧ b < lo ∧ w2.cell? ⟨b, o + i, none⟩ = some (numV L[i])) := hcell
    have HG2 : Hid (Grb lo B g w2 r m f st ve S E N) := hG2
    clear hcell hb2 HD1 HG1 HB1 hlt1 hG2
    go_wp2
    go_loopw [16] (fun i wr => ∃ (n : Nat) (vo' : Value), n ≤ L.length ∧ i = .int .i64 n ∧ Dst lo C mk wr vo' ((L.take n).foldl (fun s t => vis E fu t s) s0) ∧ Below lo w2 wr) (fun i _ => L.length - (intOf i).toNat)
    case atStart => exact ⟨0, vo, Nat.zero_le _, rfl, hD2, Below.refl _ _⟩
    case round =>
      obtain ⟨n, vn, hn, rfl, hDn, hBn⟩ := hrel
      obtain ⟨hIn, hUn⟩ := HFV.out n
      obtain ⟨sn, hsn⟩ : ∃ sn, sn = (L.take n).foldl (fun s t => vis E fu t s) s0 := ⟨_, rfl⟩
      rw [← hsn] at hDn hIn hUn
      have HSN : Hid (sn = (L.take n).foldl (fun s t => vis E fu t s) s0) := hsn
      clear hsn
      by_cases hlt : n < L.length
      · have HSS : Hid ((L.take (n + 1)).foldl (fun s t => vis E fu t s) s0 = vis E fu L[n] sn) := by unfold Hid; rw [List.take_succ_eq_append_getElem hlt, List.foldl_append, ← HSN.out]; rfl
        obtain ⟨b, o, rfl, hb, hc⟩ := HC.out n hlt
        have htN : L[n] < N := HLT.out _ (List.getElem_mem hlt)
        have m0 := below_cell0 hBn hb hc
        obtain ⟨t, ht⟩ : ∃ t, t = L[n] := ⟨_, rfl⟩
        rw [← ht] at m0 htN HSS
        unfold numV at m0
        obtain ⟨nm', DM', hm1, hm2, hm3⟩ := hDn.map
        have htl : t < sn.1.length := by rw [hIn.1]; exact htN
        have hkey := key3 t (by omega)
        have hat0 := hm2.2 t htl
        have HDN : Hid (Dst lo C mk wr vn sn) := hDn
        have HGN : Hid (Grb lo B g wr r m f st ve S E N) := HG2.out.below hBn
        clear ht hm2 hm3 hc hDn
        cases hbt : sn.1[t] with
        | true =>
          rw [hbt] at hat0
          have HM : Hid (vis E fu t sn = sn) := vis_met E fu t sn (by rw [List.getElem?_eq_getElem htl, hbt]; simp)
          have HAT : Hid (DM'.atKey (.int .i64 (t : Int)) (.lit (.int .i64 0)) = .lit (.int .i64 1)) := hat0
          clear hat0 hbt
          go_wp2_with (at_lookup; refine wpList_lookup_own_int _ rfl _ _ 78 rfl 3 108 .i64 law3 Tryz.underlying78 Tryz.markInt (zeroMark _) mk nm' DM' rfl hm1 _ (.int .i64 (t : Int)) rfl hkey ?_; intro c hat hwc; rw [HAT.out] at hat; obtain rfl : c = 1 := (by simpa using hat.symm))
          go_roundw
          case rel => exact ⟨n + 1, vn, by omega, by go_num, by rw [HSS.out, HM.out]; exact HDN.out, hBn⟩
          case measure => simp [intOf]; omega
        | false =>
          rw [hbt] at hat0
          have HAT : Hid (DM'.atKey (.int .i64 (t : Int)) (.lit (.int .i64 0)) = .lit (.int .i64 0)) := hat0
          have hrec := HIH.out lo C mk vn sn t wr HGN.out HDN.out ⟨hIn.1, by have := hIn.2.1; omega, hIn.2.2⟩ (by rw [List.getElem?_eq_getElem htl, hbt]) (by omega)
          clear hat0 hbt
          go_wp2_with (first | (at_lookup; refine wpList_lookup_own_int _ rfl _ _ 78 rfl 3 108 .i64 law3 Tryz.underlying78 Tryz.markInt (zeroMark _) mk nm' DM' rfl hm1 _ (.int .i64 (t : Int)) rfl hkey ?_; intro c hat hwc; rw [HAT.out] at hat; obtain rfl : c = 0 := (by simpa using hat.symm)))
          refine hrec.mono ?_
          rintro e w4 ⟨rfl, ⟨vo4, hD4⟩, hb4⟩
          go_wp2
          go_roundw
          case rel => exact ⟨n + 1, vo4, by omega, by go_num, by rw [HSS.out]; exact hD4, hBn.trans hb4⟩
          case measure => simp [intOf]; omega
      · have HK : Hid (L.take n = L) := List.take_of_length_le (by omega)
        rw [HK.out] at HSN
        have hadd := add_any hDn k (by have := hIn.2.1; omega)
        go_wp2_with fail
        refine hadd.mono ?_
        rintro e w4 ⟨rfl, ⟨vo4, hD4⟩, hb4⟩
        go_wp2
        first | go_end0 | refine bodyPost_ret (results_none rfl _ _ _) rfl ?_
        exact ⟨rfl, ⟨vo4, by rw [HV.out, ← HSN.out]; exact hD4⟩, hB2.trans (hBn.trans hb4)⟩
end Go.Proofs.YtimgafblpmjajabGreat
