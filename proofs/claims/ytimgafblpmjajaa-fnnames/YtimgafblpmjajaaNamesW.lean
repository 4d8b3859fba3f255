import Derived.Test.YtimgafblpmjajaaForms
import Derived.Test.YtimgafblpmjajaaTriesW
import Derived.Test.YtimgafblpmjajaaDrawT
import Derived.Deep.DeepCutAuto
import Derived.Deep.RegionHeld3
namespace Go.Proofs.Ytimgafblpmjajaa
open Go.RowKit

set_option maxHeartbeats 1000000 in
set_option maxRecDepth 100000 in
theorem wTexts_any (v v' : Value) (L : List (List UInt8)) (w : World) (h : Strs w v L) (h' : Strs w v' L) (hL : L.length ≤ 1048576) :
    Calls Try.prog 12 #[v, v'] w fun e w' => e = .returned (.bool true) ∧ ∃ n, w' = w.drewN n := by
  obtain ⟨a, cap, rfl, hcap, hmax, hc⟩ := h
  obtain ⟨a', cap', rfl, hcap', hmax', hc'⟩ := h'
  have HC : Hid (∀ k, (hk : k < L.length) → ∃ b o, a = some ⟨b, o, none⟩ ∧ b < w.heap.size ∧ w.cell? ⟨b, o + k, none⟩ = some (strV L[k])) := hc
  have HC' : Hid (∀ k, (hk : k < L.length) → ∃ b o, a' = some ⟨b, o, none⟩ ∧ b < w.heap.size ∧ w.cell? ⟨b, o + k, none⟩ = some (strV L[k])) := hc'
  clear hc hmax hc' hmax'
  go_enter Try.func12, Try.ntmps12
  go_wp2
  go_loopw [13] (fun i wr => ∃ k : Nat, k ≤ L.length ∧ i = .int .i64 k ∧ ∃ n, wr = w.drewN n) (fun i _ => L.length - (intOf i).toNat)
  case atStart => exact ⟨0, Nat.zero_le _, rfl, 0, rfl⟩
  case round =>
    obtain ⟨k, hk, rfl, n, rfl⟩ := hrel
    by_cases hlt : k < L.length
    · obtain ⟨b, o, rfl, hb, hcell⟩ := HC.out k hlt
      obtain ⟨b', o', rfl, hb', hcell'⟩ := HC'.out k hlt
      have hc1 : w.cell? ⟨b, o + k, none⟩ = some (.string ⟨L[k].toArray⟩) := hcell
      have hc2 : w.cell? ⟨b', o' + k, none⟩ = some (.string ⟨L[k].toArray⟩) := hcell'
      clear hcell hcell'
      go_wp2
      go_quiet (fail)
      go_wp2
      go_roundw
      case rel => exact ⟨k + 1, by omega, by go_num, n + nq, by simp [World.drewN]⟩
      case measure => simp [intOf]; omega
    · go_wp2
      go_ret
      exact ⟨rfl, n, rfl⟩

theorem field1 (c : Int) (y : ByteArray) (w : World) : (Instr.field 25 (.agg #[.int .i64 c, .string y]) 1).run Try.prog w = .ok (.string y) w := by
  simp [Instr.field, asAgg, go_sem]
theorem field0 (c : Int) (y : ByteArray) (w : World) : (Instr.field 25 (.agg #[.int .i64 c, .string y]) 0).run Try.prog w = .ok (.int .i64 c) w := by
  simp [Instr.field, asAgg, go_sem]

theorem keep2 {w2 w3 : World} {u0 u1 : Value} {t : TypeId} (hb : Below (w2.alloc (.cells #[u0, u1] t)).drew.heap.size (w2.alloc (.cells #[u0, u1] t)).drew w3) :
    w3.cell? ⟨w2.heap.size, 0, none⟩ = some u0 ∧ w3.cell? ⟨w2.heap.size, 1, none⟩ = some u1 ∧ w2.heap.size < w3.heap.size ∧ Below w2.heap.size w2 w3 := by
  have hb' : Below (w2.alloc (.cells #[u0, u1] t)).heap.size (w2.alloc (.cells #[u0, u1] t)) w3 := ⟨hb.os, hb.tape, hb.output, hb.size, hb.block⟩
  obtain ⟨hc, _⟩ := bcell hb'
  have hz : w2.heap.size < w3.heap.size := by have := hb'.size; simp at this; omega
  exact ⟨by rw [hc _ _ (by simp)]; simp, by rw [hc _ _ (by simp)]; simp, hz, below_one hb'⟩

set_option maxHeartbeats 4000000 in
set_option maxRecDepth 100000 in
theorem lawNames (a : Option Addr) (len cap : Nat) (w : World) (hlc : len ≤ cap) (hl : len ≤ 1048576) (h : ∀ i, i < len → ∃ b o z, a = some ⟨b, o, none⟩ ∧ b < w.heap.size ∧ 0 ≤ z ∧ z ≤ 255 ∧ w.cell? ⟨b, o + i, none⟩ = some (.int .u8 z)) :
    Calls Try.prog 3 #[.slice a len cap] w fun e w' => e = .returned (.bool true) ∧ Below w.heap.size w w' := by
  have HCODE : Hid (∀ i, i < len → ∃ b o z, a = some ⟨b, o, none⟩ ∧ b < w.heap.size ∧ 0 ≤ z ∧ z ≤ 255 ∧ w.cell? ⟨b, o + i, none⟩ = some (.int .u8 z)) := h
  clear h
  go_enter Try.func3, Try.ntmps3
  go_wp2_with fail
  refine (drawClean_any a len cap w hlc hl HCODE.out).mono ?_
  rintro e w1 ⟨q, rfl, hq, hb1⟩
  go_wp2_with fail
  obtain ⟨c, x, hn⟩ : ∃ c x, Pl.nm [] q.data.toList = (c, x) := ⟨_, _, rfl⟩
  obtain ⟨t, ht⟩ : ∃ t : ByteArray, strV x = .string t := ⟨_, rfl⟩
  have htd : t.data.toList = x := by unfold strV at ht; cases ht; rfl
  have hclean : ∀ W : World, Calls Try.prog 8 #[.string q] W fun e w' => e = .returned (.agg #[.int .i64 c, .string t]) ∧ Below W.heap.size W w' := fun W => by
    have := implClean_any q W; rw [hn, namedV, ht] at this; exact this
  have hspecc : ∀ W : World, Calls Try.prog 9 #[.string q] W fun e w' => e = .returned (.agg #[.int .i64 c, .string t]) ∧ Below W.heap.size W w' := fun W => by
    have := specClean_all q W; rw [hn, namedV, ht] at this; exact this
  have hclean2 : c = 0 → ∀ W : World, Calls Try.prog 8 #[.string t] W fun e w' => e = .returned (.agg #[.int .i64 c, .string t]) ∧ Below W.heap.size W w' := fun hc W => by
    have := implClean_any t W
    subst hc
    rw [htd, Pl.nm_idem _ _ hn, namedV, ht] at this; exact this
  refine (hclean w1).mono ?_
  rintro e w2 ⟨rfl, hb2⟩
  have HSP : Hid (∀ W : World, Calls Try.prog 9 #[.string q] W fun e w' => e = .returned (.agg #[.int .i64 c, .string t]) ∧ Below W.heap.size W w') := hspecc
  have HCL : Hid (c = 0 → ∀ W : World, Calls Try.prog 8 #[.string t] W fun e w' => e = .returned (.agg #[.int .i64 c, .string t]) ∧ Below W.heap.size W w') := hclean2
  clear hclean hspecc hclean2 hn ht htd
  have hB2 : Below w.heap.size w w2 := hb1.trans (hb2.mono hb1.size)
  have hs2 := hB2.size
  clear hb1 hb2
  go_upto_region 5 with fail
  go_cut [36] (fun s36 wx => s36 = .bool false ∧ Below w.heap.size w wx)
  case first =>
    by_cases hc0 : c = 0
    · have hcl := HCL.out hc0
      subst hc0
      go_region_held3 (fun w' => w'.cell? ⟨w2.heap.size, 0, none⟩ = some (.int .i64 0) ∧ w'.cell? ⟨w2.heap.size, 1, none⟩ = some (.string t)) (first | go_keep | exact ⟨by assumption, by assumption⟩) (first | (go_at_call 9; refine (HSP.out _).mono ?_; rintro e w3 ⟨rfl, hb3⟩; obtain ⟨k0, k1, kz, kb⟩ := keep2 hb3) | (go_at_call 8; refine (hcl _).mono ?_; rintro e w4 ⟨rfl, hb4⟩; have j0 := (hb4.cell (p := ⟨w2.heap.size, 0, none⟩) kz).trans k0; have j1 := (hb4.cell (p := ⟨w2.heap.size, 1, none⟩) kz).trans k1))
      all_goals
        have hbx : Below w.heap.size w w4 := (hB2.trans (kb.mono hs2)).trans (hb4.mono (by omega))
        go_wp2_with fail
        go_meet
        exact ⟨rfl, hbx⟩
    · have hcb : (c == 0) = false := by simpa using hc0
      have hcd : decide (c = 0) = false := by simpa using hc0
      clear HCL
      first | (go_region_with (first | (go_at_call 9; refine (HSP.out _).mono ?_; rintro e w3 ⟨rfl, hb3⟩; obtain ⟨k0, k1, kz, kb⟩ := keep2 hb3))) | fail
      all_goals
        have hbx : Below w.heap.size w w3 := hB2.trans (kb.mono hs2)
        go_wp2_with fail
        go_meet
        exact ⟨rfl, hbx⟩
  case rest =>
    obtain ⟨rfl, hBx⟩ := hcut
    clear HSP HCL hB2
    have hsx := hBx.size
    go_wp2_with fail
    refine (drawTries_any a len cap wc hlc hl (fun i hi => by obtain ⟨b, o, z, ha, hb, h0, h255, hcell⟩ := HCODE.out i hi; exact ⟨b, o, z, ha, by omega, h0, h255, (hBx.cell (p := ⟨b, o + i, none⟩) hb).trans hcell⟩)).mono ?_
    rintro e w3 ⟨vr, R, f, s, rfl, rr3, hRt, hf, hs, hb3⟩
    have hB3 : Below w.heap.size w w3 := hBx.trans (hb3.mono hsx)
    have hz3 := hb3.size
    have hTl := tries_len R f.data.toList s.data.toList
    have hTc := Pl.tries_clean R f.data.toList s.data.toList
    have himpl : ∀ W : World, W.ownsRow wc.heap.size 9 1 vr R.length (R.map strV) → Calls Try.prog 11 #[vr, .string f, .string s] W fun e w' => ∃ v', e = .returned v' ∧ w'.ownsRow W.heap.size 9 1 v' (Pl.tries R f.data.toList s.data.toList).length ((Pl.tries R f.data.toList s.data.toList).map strV) ∧ Below W.heap.size W w' := fun W h => implTries_any vr R f s W (Strs.of_row h) (by omega) (by omega)
    have hspec : ∀ W : World, W.ownsRow wc.heap.size 9 1 vr R.length (R.map strV) → Calls Try.prog 13 #[vr, .string f, .string s] W fun e w' => ∃ v', e = .returned v' ∧ w'.ownsRow W.heap.size 9 1 v' (Pl.tries R f.data.toList s.data.toList).length ((Pl.tries R f.data.toList s.data.toList).map strV) ∧ Below W.heap.size W w' := fun W h => specTries_any vr R f s W (Strs.of_row h) (by omega) (by omega) (by omega)
    generalize Pl.tries R f.data.toList s.data.toList = T at *
    have HI : Hid (∀ W : World, W.ownsRow wc.heap.size 9 1 vr R.length (R.map strV) → Calls Try.prog 11 #[vr, .string f, .string s] W fun e w' => ∃ v', e = .returned v' ∧ w'.ownsRow W.heap.size 9 1 v' T.length (T.map strV) ∧ Below W.heap.size W w') := himpl
    have HS : Hid (∀ W : World, W.ownsRow wc.heap.size 9 1 vr R.length (R.map strV) → Calls Try.prog 13 #[vr, .string f, .string s] W fun e w' => ∃ v', e = .returned v' ∧ w'.ownsRow W.heap.size 9 1 v' T.length (T.map strV) ∧ Below W.heap.size W w') := hspec
    have HTC : Hid ((∀ t ∈ T, Pl.nm [] t = (0, t)) ∧ T.Nodup) := hTc
    clear himpl hspec hTc hb3 hBx
    go_wp2_with fail
    refine (HI.out _ rr3).mono ?_
    rintro e w4 ⟨vl, rfl, rl4, hb4⟩
    have hB4 : Below w.heap.size w w4 := hB3.trans (hb4.mono hB3.size)
    have rr4 := own_below rr3 hb4 (Nat.le_refl _)
    have aprl := apart_of_lt rr3 rl4 (Nat.le_refl _)
    have hz4 := hb4.size
    clear hb4 rr3 hB3
    go_wp2_with fail
    refine (HS.out _ rr4).mono ?_
    rintro e w5 ⟨vw, rfl, rw5, hb5⟩
    have hB5 : Below w.heap.size w w5 := hB4.trans (hb5.mono hB4.size)
    have rr5 := own_below rr4 hb5 (Nat.le_refl _)
    have rl5 := own_below rl4 hb5 (Nat.le_refl _)
    have hz5 := hb5.size
    clear hb5 rr4 rl4 hB4
    go_wp2_with fail
    refine (wTexts_any vl vw T w5 (Strs.of_row rl5) (Strs.of_row rw5) hTl).mono ?_
    rintro e w6 ⟨rfl, n1, rfl⟩
    have hB6 : Below w.heap.size w (w5.drewN n1) := below_drewN hB5 n1
    have rr6 := own_drewN rr5 n1
    have rl6 := own_drewN rl5 n1
    obtain ⟨al, capl, rfl, hcapl, _, _⟩ := row_shape rl6
    clear rr5 rl5 rw5 hB5
    obtain ⟨W0, hW0⟩ : ∃ W0, W0 = w5.drewN n1 := ⟨_, rfl⟩
    rw [← hW0] at rr6 rl6 hB6 ⊢
    clear hW0
    go_wp2
    go_loopw [56] (fun i wr => ∃ k : Nat, k ≤ T.length ∧ i = .int .i64 k ∧ Below W0.heap.size W0 wr) (fun i _ => T.length - (intOf i).toNat)
    case atStart => exact ⟨0, Nat.zero_le _, rfl, Below.refl _ _⟩
    case round =>
      obtain ⟨k, hk, rfl, hBk⟩ := hrel
      by_cases hlt : k < T.length
      · obtain ⟨_, _, hve, _, _, hcellT⟩ := row_shape (own_below rl6 hBk (Nat.le_refl _))
        cases hve
        obtain ⟨g, rfl, _, hgl, hck⟩ := hcellT k hlt
        obtain ⟨y, hy⟩ : ∃ y : ByteArray, y = ⟨T[k].toArray⟩ := ⟨_, rfl⟩
        have hyd : y.data.toList = T[k] := by rw [hy]
        have hcy : wr.cell? ⟨g, k, none⟩ = some (.string y) := by rw [hck, hy]; rfl
        have hcl : ∀ W : World, Calls Try.prog 8 #[.string y] W fun e w' => e = .returned (.agg #[.int .i64 0, .string y]) ∧ Below W.heap.size W w' := fun W => by
          have := implClean_any y W
          rw [hyd, HTC.out.1 _ (List.getElem_mem hlt), namedV, ← hyd, strV_data] at this; exact this
        have HNE : Hid (∀ j, (hj : j < k) → ∃ z : ByteArray, (z.toList == y.toList) = false ∧ wr.cell? ⟨g, j, none⟩ = some (.string z)) := fun j hj => by
          obtain ⟨g', hg', _, _, hcj⟩ := hcellT j (by omega)
          cases hg'
          refine ⟨⟨(T[j]'(by omega)).toArray⟩, ?_, hcj⟩
          rw [beq_eq_false_iff_ne, Go.ByteArray.toList_eq, Go.ByteArray.toList_eq, hyd]
          intro e
          have e' : (T[j]'(by omega)) = T[k] := by simpa using e
          have := (List.getElem_inj HTC.out.2).1 e'
          omega
        clear hck hy hyd hcellT
        go_wp2_with fail
        refine (hcl _).mono ?_
        rintro e w7 ⟨rfl, hb7⟩
        have hB7 : Below W0.heap.size W0 w7 := hBk.trans (hb7.mono hBk.size)
        have hfld := field1 0 y w7
        go_wp2
        go_loop [11] (fun i => ∃ j : Nat, j ≤ k ∧ i = .int .i64 j) (fun i => k - (intOf i).toNat)
        case atStart => exact ⟨0, Nat.zero_le _, rfl⟩
        case round =>
          obtain ⟨j, hj, rfl⟩ := hrel
          by_cases hjk : j < k
          · obtain ⟨z, hz, hcz⟩ := HNE.out j hjk
            have hcz7 : w7.cell? ⟨g, j, none⟩ = some (.string z) := (hb7.cell (p := ⟨g, j, none⟩) hgl).trans hcz
            go_wp2
            go_round
            case rel => exact ⟨j + 1, by omega, by go_num⟩
            case measure => simp [intOf]; omega
          · go_wp2
            go_roundw
            case rel => exact ⟨k + 1, by omega, by go_num, hB7⟩
            case measure => simp [intOf]; omega
      · have rr7 := own_below rr6 hBk (Nat.le_refl _)
        have rl7 := own_below rl6 hBk (Nat.le_refl _)
        have hB7 : Below w.heap.size w wr := hB6.trans (hBk.mono hB6.size)
        obtain ⟨W1, hW1⟩ : ∃ W1, W1 = wr := ⟨_, rfl⟩
        rw [← hW1] at rr7 rl7 hB7 ⊢
        clear hW1
        have hal : 0 < T.length → ∃ g, al = some ⟨g, 0, none⟩ := fun h0 => by
          obtain ⟨_, _, hve, _, _, hcellT⟩ := row_shape rl7
          cases hve
          obtain ⟨g, hg, _⟩ := hcellT 0 h0
          exact ⟨g, hg⟩
        clear rr6 rl6 hB6 hBk
        go_wp2
        go_loopw [80] (fun i wr' => ∃ (k : Nat) (xs : List Value), k ≤ T.length ∧ i = .int .i64 k ∧ wr'.ownsRow w3.heap.size 9 1 (.slice al T.length capl) T.length xs ∧ W1.grownBy wr' (Value.slice al T.length capl).ownBlock) (fun i _ => T.length - (intOf i).toNat)
        case atStart => exact ⟨0, _, Nat.zero_le _, rfl, rl7, World.grownBy.refl _ _⟩
        case round =>
          obtain ⟨k3, xs, hk3, rfl, rl8, hg8⟩ := hrel
          by_cases hlt3 : k3 < T.length
          · obtain ⟨g, rfl⟩ := hal (by omega)
            have hst := rl8.stored k3 (.string ⟨#[111, 118, 101, 114]⟩)
            have hfz := rl8.frozenAt k3
            have hcx : ∃ u, wr.cell? ⟨g, k3, none⟩ = some u := by rw [rl8.cellAt k3 (by omega)]; exact ⟨_, List.getElem?_eq_getElem (by have := rl8.1; omega)⟩
            obtain ⟨u, hcu⟩ := hcx
            have hg9 := grown_trans hg8 hst.2
            go_wp2
            go_roundw
            case rel => exact ⟨k3 + 1, _, by omega, by go_num, hst.1, hg9⟩
            case measure => simp [intOf]; omega
          · have rr8 := rr7.kept hg8 aprl.1
            have hB8 : Below w.heap.size w wr := hB7.grown hg8 hB7.size (fun j e => by have := (rl8.lt j e).1; omega)
            clear rl7 rl8 hg8 rr7 hB7
            go_wp2_with fail
            refine (HI.out _ rr8).mono ?_
            rintro e w9 ⟨vh, rfl, rh9, hb9⟩
            have rr9 := own_below rr8 hb9 (Nat.le_refl _)
            have hB9 : Below w.heap.size w w9 := hB8.trans (hb9.mono hB8.size)
            go_wp2_with fail
            refine (HS.out _ rr9).mono ?_
            rintro e w10 ⟨vw2, rfl, rw10, hb10⟩
            have rh10 := own_below rh9 hb10 (Nat.le_refl _)
            have hB10 : Below w.heap.size w w10 := hB9.trans (hb10.mono hB9.size)
            clear rr8 rr9 rh9 hb9 hb10 hB8 hB9
            go_wp2_with fail
            refine (wTexts_any vh vw2 T w10 (Strs.of_row rh10) (Strs.of_row rw10) hTl).mono ?_
            rintro e w11 ⟨rfl, n2, rfl⟩
            have hB11 : Below w.heap.size w (w10.drewN n2) := below_drewN hB10 n2
            have hns : (⟨#[46, 47]⟩ ++ s : ByteArray).size = 2 + s.size := app_size _ _
            obtain ⟨s2, hs2'⟩ : ∃ s2 : ByteArray, s2 = ⟨#[46, 47]⟩ ++ s := ⟨_, rfl⟩
            have hs2s : s2.size ≤ 1048576 := by rw [hs2', hns]; omega
            obtain ⟨c5, x5, hn5⟩ : ∃ c5 x5, Pl.wn f.data.toList s2.data.toList = (c5, x5) := ⟨_, _, rfl⟩
            obtain ⟨t5, ht5⟩ : ∃ t5 : ByteArray, strV x5 = .string t5 := ⟨_, rfl⟩
            obtain ⟨c6, x6, hn6⟩ : ∃ c6 x6, Pl.nm [] f.data.toList = (c6, x6) := ⟨_, _, rfl⟩
            obtain ⟨t6, ht6⟩ : ∃ t6 : ByteArray, strV x6 = .string t6 := ⟨_, rfl⟩
            have hcode : c5 = 4 ↔ c6 ≠ 0 := by have := Pl.wn_code f.data.toList s2.data.toList; rw [hn5, hn6] at this; exact this
            have hwi : ∀ W : World, Calls Try.prog 14 #[.string f, .string s2] W fun e w' => e = .returned (.agg #[.int .i64 c5, .string t5]) ∧ Below W.heap.size W w' := fun W => by
              have := implWithin_any f s2 W; rw [hn5, namedV, ht5] at this; exact this
            have hws : ∀ W : World, Calls Try.prog 15 #[.string f, .string s2] W fun e w' => e = .returned (.agg #[.int .i64 c5, .string t5]) ∧ Below W.heap.size W w' := fun W => by
              have := specWithin_any f s2 W (by omega) hs2s; rw [hn5, namedV, ht5] at this; exact this
            have hci : ∀ W : World, Calls Try.prog 8 #[.string f] W fun e w' => e = .returned (.agg #[.int .i64 c6, .string t6]) ∧ Below W.heap.size W w' := fun W => by
              have := implClean_any f W; rw [hn6, namedV, ht6] at this; exact this
            have HWS : Hid (∀ W : World, Calls Try.prog 15 #[.string f, .string s2] W fun e w' => e = .returned (.agg #[.int .i64 c5, .string t5]) ∧ Below W.heap.size W w') := hws
            have HCI : Hid (∀ W : World, Calls Try.prog 8 #[.string f] W fun e w' => e = .returned (.agg #[.int .i64 c6, .string t6]) ∧ Below W.heap.size W w') := hci
            have HS2 : Hid (s2 = ⟨#[46, 47]⟩ ++ s) := hs2'
            clear hws hci hn5 hn6 ht5 ht6 hs2'
            go_wp2_with fail
            rw [← HS2.out]
            refine (hwi _).mono ?_
            rintro e w12 ⟨rfl, hb12⟩
            have hB12 : Below w.heap.size w w12 := hB11.trans (hb12.mono hB11.size)
            have hz12 := hB12.size
            clear hwi hb12 hB11 hB10 rw10 rh10
            have key : (c6 ≠ 0 ∧ c5 = 4) ∨ (c6 = 0 ∧ c5 ≠ 4) := by
              by_cases h6 : c6 = 0
              · exact .inr ⟨h6, fun h => (hcode.1 h) h6⟩
              · exact .inl ⟨h6, hcode.2 h6⟩
            rw [HS2.out] at HWS
            have hfl : ∀ W, (Instr.field 25 (.agg #[.int .i64 c6, .string t6]) 0).run Try.prog W = .ok (.int .i64 c6) W := fun W => field0 c6 t6 W
            clear hcode
            rcases key with ⟨h6, h5⟩ | ⟨h6, h5⟩
            · subst h5
              have b6 : (c6 != 0) = true := by simpa using h6
              clear h6 HCODE HI HS HTC HS2 hal aprl hns hs2s hRt hf hTl hcapl
              have hadd : ∀ W, (Op.stringOp .add ⟨#[46, 47]⟩ s).run Try.prog W = .ok (.string (⟨#[46, 47]⟩ ++ s)) W := fun W => run_string_add_sum W _ _ (by show 2 + s.size ≤ _; omega)
              go_upto_region 30 with fail
              go_cut [2] (fun r2 wx => r2 = .bool true ∧ Below w.heap.size w wx)
              case first =>
                go_region_held3 (fun w' => w'.cell? ⟨w12.heap.size, 0, none⟩ = some (.int .i64 4) ∧ w'.cell? ⟨w12.heap.size, 1, none⟩ = some (.string t5)) (first | go_keep | exact ⟨by assumption, by assumption⟩) (first | (go_at_call 15; refine (HWS.out _).mono ?_; rintro e w13 ⟨rfl, hb13⟩; obtain ⟨k0, k1, kz, kb⟩ := keep2 hb13) | (go_at_call 8; refine (HCI.out _).mono ?_; rintro e w14 ⟨rfl, hb14⟩; have j0 := (hb14.cell (p := ⟨w12.heap.size, 0, none⟩) kz).trans k0; have j1 := (hb14.cell (p := ⟨w12.heap.size, 1, none⟩) kz).trans k1))
                all_goals
                  have hbx : Below w.heap.size w w14 := (hB12.trans (kb.mono hz12)).trans (hb14.mono (by omega))
                  go_wp2_with fail
                  go_meet
                  exact ⟨rfl, hbx⟩
              case rest =>
                obtain ⟨rfl, hbx⟩ := hcut
                go_wp2
                go_ret
                exact ⟨rfl, hbx⟩
            · subst h6
              have b5 : (c5 == 4) = false := by simpa using h5
              clear h5 HCODE HI HS HTC HS2 hal aprl hns hs2s hRt hf hTl hcapl
              have hadd : ∀ W, (Op.stringOp .add ⟨#[46, 47]⟩ s).run Try.prog W = .ok (.string (⟨#[46, 47]⟩ ++ s)) W := fun W => run_string_add_sum W _ _ (by show 2 + s.size ≤ _; omega)
              go_upto_region 30 with fail
              go_cut [2] (fun r2 wx => r2 = .bool true ∧ Below w.heap.size w wx)
              case first =>
                go_region_held3 (fun w' => w'.cell? ⟨w12.heap.size, 0, none⟩ = some (.int .i64 c5) ∧ w'.cell? ⟨w12.heap.size, 1, none⟩ = some (.string t5)) (first | go_keep | exact ⟨by assumption, by assumption⟩) (first | (go_at_call 15; refine (HWS.out _).mono ?_; rintro e w13 ⟨rfl, hb13⟩; obtain ⟨k0, k1, kz, kb⟩ := keep2 hb13) | (go_at_call 8; refine (HCI.out _).mono ?_; rintro e w14 ⟨rfl, hb14⟩; have j0 := (hb14.cell (p := ⟨w12.heap.size, 0, none⟩) kz).trans k0; have j1 := (hb14.cell (p := ⟨w12.heap.size, 1, none⟩) kz).trans k1))
                all_goals
                  have hbx : Below w.heap.size w w14 := (hB12.trans (kb.mono hz12)).trans (hb14.mono (by omega))
                  go_wp2_with fail
                  go_meet
                  exact ⟨rfl, hbx⟩
              case rest =>
                obtain ⟨rfl, hbx⟩ := hcut
                go_wp2
                go_ret
                exact ⟨rfl, hbx⟩

end Go.Proofs.Ytimgafblpmjajaa
