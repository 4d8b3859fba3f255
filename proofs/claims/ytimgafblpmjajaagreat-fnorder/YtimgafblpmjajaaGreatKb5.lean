import Derived.Shelf.Slices.Reverse
import Derived.Sort.OwnSortedInts
import Derived.ArgAppend
import Derived.Test.YtimgafblpmjajaaGreatKb4
namespace Go.Proofs.YtimgafblpmjajaaGreat

open Go.RowKit

def natV (n : Nat) : Value := .int .i64 (n : Int)
theorem lit_int (W : World) (B : Nat) (x : Nat) (hB : B ≤ W.heap.size) : (W.alloc (.cells #[natV x] 3)).ownsRow B 3 1 (.slice (some ⟨W.heap.size, 0, none⟩) 1 1) [x].length ([x].map natV) :=
  World.ownsRow_lit W #[natV x] 1 hB (by decide) rfl

set_option maxHeartbeats 16000000 in
set_option maxRecDepth 100000 in
theorem l4ring_any (v : Value) (E : List Eg) (N k : Nat) (w : World) (h : Egs w v E) (hEl : E.length ≤ 1048576) (hN : N ≤ 1048576) (hk : k < N) (hE : ∀ e ∈ E, e.to < (N : Int)) :
    Calls Tryz.prog 24 #[v, .int .i64 N, .int .i64 k] w fun e w' => ∃ v', e = .returned v' ∧ w'.ownsRow w.heap.size 3 1 v' (ringK E N k).length ((ringK E N k).map natV) ∧ Below w.heap.size w w' := by
  obtain ⟨i3, hi, hz0, hz1, hz2⟩ := info_parts Tryz.info3
  obtain ⟨ae, ce, rfl, hce, _, hc⟩ := h
  have HC : Hid (∀ j, (hj : j < E.length) → ∃ b o, ae = some ⟨b, o, none⟩ ∧ b < w.heap.size ∧
    w.cell? ⟨b, o + j * 3, none⟩ = some (.int .i64 E[j].src) ∧ w.cell? ⟨b, o + j * 3 + 1, none⟩ = some (.int .i64 E[j].line) ∧ w.cell? ⟨b, o + j * 3 + 2, none⟩ = some (.int .i64 E[j].to)) := hc
  have HE : Hid (∀ e ∈ E, e.to < (N : Int)) := hE
  have hib : i3.bytes * N ≤ 281474976710656 := by rw [hz2]; omega
  have hlm : N ≤ maxLen := by unfold maxLen; omega
  obtain ⟨K, hK⟩ : ∃ K, K = ringK E N k := ⟨_, rfl⟩
  rw [← hK]
  have HK : Hid (K = ringOut k N (rout E k (N + 1) 0 (List.replicate N (-1), [k]))) := hK
  clear hc hE hK
  go_enter Tryz.func24, Tryz.ntmps24
  go_wp2_with (at_make; refine wpList_make_full _ rfl _ _ 25 rfl w.heap.size 3 i3 _ 1 Tryz.underlying25 hi hz0 hz1 .i64 .i64 _ _ N rfl rfl rfl rfl hib hlm (Nat.le_refl _) ?_; intro w1 hown hgrow)
  have hB1 : Below w.heap.size w w1 := (Below.refl _ _).grown hgrow (Nat.le_refl _) (fun k e => by cases e)
  have hs1 : w.heap.size < w1.heap.size := (own_lt hown).2
  clear hgrow
  go_loopw [8, 21] (fun _ i wr => ∃ (n : Nat) (X : List Value), n ≤ N ∧ i = .int .i64 n ∧ wr.ownsRow w.heap.size 3 1 (.slice (some ⟨w.heap.size, 0, none⟩) N N) N X ∧ (∀ j, j < n → X[j]? = some (.int .i64 (-1))) ∧ Below w.heap.size w wr ∧ w.heap.size < wr.heap.size) (fun _ i _ => N - (intOf i).toNat)
  case atStart => exact ⟨0, _, Nat.zero_le _, rfl, hown, fun j hj => absurd hj (by omega), hB1, hs1⟩
  case round =>
    obtain ⟨n, X, hn, rfl, hown, hX, hB, hsz⟩ := hrel
    have hXl : X.length = N * 1 := hown.1
    by_cases hlt : n < N
    · have HX : Hid (∀ j, j < n → X[j]? = some (.int .i64 (-1))) := hX
      obtain ⟨u0, e0⟩ := row_cell hown n (by omega)
      have f0 := hown.frozenAt n
      clear hX
      go_wp2
      go_roundw
      case rel =>
        refine ⟨n + 1, _, by omega, by go_num, (hown.stored _ _).1, fun j hj => ?_, hB.setCell (p := ⟨w.heap.size, n, none⟩) (Nat.le_refl _) _, by simpa [World.setCell] using hsz⟩
        by_cases hjn : j = n
        · subst hjn; rw [List.getElem?_set_self (by omega)]
        · rw [List.getElem?_set_ne (by omega)]; exact HX.out j (by omega)
      case measure => simp [intOf]; omega
    · have hXe : X = (List.replicate N (-1 : Int)).map i64V := by
        apply List.ext_getElem?
        intro i
        by_cases hi : i < N
        · rw [hX i (by omega)]; simp [hi]; rfl
        · rw [List.getElem?_eq_none (by omega), List.getElem?_eq_none (by simp; omega)]
      rw [hXe] at hown
      clear hX hXl hXe
      have hl0 := lit_int wr (w.heap.size + 1) k (by omega)
      have hB2 : Below w.heap.size w (wr.alloc (.cells #[natV k] 3)) := hB.alloc (by omega) _
      have hF2 := hown.alloc (.cells #[natV k] 3)
      obtain ⟨W2, hW2⟩ : ∃ W2, W2 = wr.alloc (.cells #[natV k] 3) := ⟨_, rfl⟩
      have HW2 : Hid (W2 = wr.alloc (.cells #[natV k] 3)) := hW2
      rw [← hW2] at hl0 hB2 hF2
      obtain ⟨wo, rfl⟩ : ∃ wo, wo = wr := ⟨_, rfl⟩
      unfold natV at HW2
      clear hW2 hown hB
      go_wp2
      rw [← HW2.out]
      go_loopw [9, 10] (fun vl i wr => ∃ (n f : Nat) (s : List Int × List Nat), i = .int .i64 n ∧ f + n = N + 1 ∧ n ≤ s.2.length ∧ RI N k s ∧ Hid (K = ringOut k N (rout E k f n s)) ∧ wr.ownsRow w.heap.size 3 1 (.slice (some ⟨w.heap.size, 0, none⟩) N N) N (s.1.map i64V) ∧ wr.ownsRow (w.heap.size + 1) 3 1 vl s.2.length (s.2.map natV) ∧ Below w.heap.size w wr ∧ w.heap.size < wr.heap.size) (fun _ i _ => N + 1 - (intOf i).toNat)
      case atStart => exact ⟨0, N + 1, _, rfl, by omega, by simp, RI.start N k hk, HK.out, hF2, hl0, hB2, by rw [HW2.out]; simp; omega⟩
      case round =>
        obtain ⟨n, f, s, rfl, hfn, hns, hRI, hKs, hF, hL, hB, hsz⟩ := hrel
        have hroom := hRI.room
        obtain ⟨al, cl, rfl, hcl, hgl⟩ := row_form hL
        by_cases hlt : n < s.2.length
        · obtain ⟨gl, rfl⟩ := hgl (by omega)
          obtain ⟨f', rfl⟩ : ∃ f', f = f' + 1 := ⟨f - 1, by omega⟩
          obtain ⟨x, hx⟩ : ∃ x, s.2[n]? = some x := ⟨_, List.getElem?_eq_getElem hlt⟩
          obtain ⟨RR, hRR⟩ : ∃ RR, RR = rin k x E s := ⟨_, rfl⟩
          have hK2 : K = ringOut k N (if RR.1 then some (x, RR.2.1) else rout E k f' (n + 1) RR.2) := by
            rw [hKs.out, rout, hx, hRR]
          have HK2 : Hid (K = ringOut k N (if RR.1 then some (x, RR.2.1) else rout E k f' (n + 1) RR.2)) := hK2
          have HRR : Hid (rin k x E s = RR) := hRR.symm
          have hxN : x < N := hRI.lt x (List.mem_of_getElem? hx)
          obtain ⟨wq, rfl⟩ : ∃ wq, wq = wr := ⟨_, rfl⟩
          clear hK2 hRR hKs HK
          go_wp2
          go_loopw [9, 38] (fun vl j wr => ∃ (m : Nat) (s' : List Int × List Nat), j = .int .i64 m ∧ m ≤ E.length ∧ Hid (rin k x (E.drop m) s' = RR) ∧ RI N k s' ∧ s'.2[n]? = some x ∧ wr.ownsRow w.heap.size 3 1 (.slice (some ⟨w.heap.size, 0, none⟩) N N) N (s'.1.map i64V) ∧ wr.ownsRow (w.heap.size + 1) 3 1 vl s'.2.length (s'.2.map natV) ∧ Below w.heap.size w wr ∧ w.heap.size < wr.heap.size) (fun _ j _ => E.length - (intOf j).toNat)
          case atStart => exact ⟨0, s, rfl, Nat.zero_le _, HRR, hRI, hx, hF, hL, hB, hsz⟩
          case round =>
            obtain ⟨m, s', rfl, hm, hRm, hRI', hx', hF', hL', hB', hsz'⟩ := hrel
            have hroom' := hRI'.room
            obtain ⟨al', cl', rfl, hcl', hgl'⟩ := row_form hL'
            have hn' : n < s'.2.length := by
              rcases Nat.lt_or_ge n s'.2.length with h | h
              · exact h
              · rw [List.getElem?_eq_none h] at hx'; cases hx'
            obtain ⟨gl', rfl⟩ := hgl' (by omega)
            by_cases hlm' : m < E.length
            · obtain ⟨b, o, rfl, hb, h0, h1, h2⟩ := HC.out m hlm'
              have m0 := below_cell0 hB' hb h0
              have m1 := below_cell0 hB' hb h1
              have m2 := below_cell0 hB' hb h2
              have hto := HE.out _ (List.getElem_mem hlm')
              have hdrop : E.drop m = E[m] :: E.drop (m + 1) := List.drop_eq_getElem_cons hlm'
              obtain ⟨es, hes⟩ : ∃ es, es = E[m].src := ⟨_, rfl⟩
              obtain ⟨el, hel⟩ : ∃ el, el = E[m].line := ⟨_, rfl⟩
              obtain ⟨et, het⟩ : ∃ et, et = E[m].to := ⟨_, rfl⟩
              have hrin : rin k x (E.drop m) s' = if es = (x : Int) ∧ 0 ≤ et then
                  (if et = (k : Int) then (true, s') else if (s'.1[et.toNat]?).getD 0 < 0 then rin k x (E.drop (m + 1)) (s'.1.set et.toNat (x : Int), s'.2 ++ [et.toNat]) else rin k x (E.drop (m + 1)) s')
                else rin k x (E.drop (m + 1)) s' := by rw [hdrop, rin, hes, het]
              rw [← hes] at m0
              rw [← hel] at m1
              rw [← het] at m2 hto
              have HRIN : Hid (RR = if es = (x : Int) ∧ 0 ≤ et then
                  (if et = (k : Int) then (true, s') else if (s'.1[et.toNat]?).getD 0 < 0 then rin k x (E.drop (m + 1)) (s'.1.set et.toNat (x : Int), s'.2 ++ [et.toNat]) else rin k x (E.drop (m + 1)) s')
                else rin k x (E.drop (m + 1)) s') := by unfold Hid; rw [← hrin]; exact hRm.out.symm
              obtain ⟨Wb, hWb⟩ : ∃ Wb, Wb = wr.alloc (.cells #[.int .i64 es, .int .i64 el, .int .i64 et] 33) := ⟨_, rfl⟩
              have hbb : Below wr.heap.size wr Wb := by rw [hWb]; exact (Below.refl _ _).alloc (Nat.le_refl _) _
              have hbs : Wb.heap.size = wr.heap.size + 1 := by rw [hWb]; simp
              have q := cells3 wr (.int .i64 es) (.int .i64 el) (.int .i64 et) 33
              rw [← hWb] at q
              obtain ⟨q0, q1, q2⟩ := q
              have hFb := own_below hF' hbb (Nat.le_refl _)
              have hLb := own_below hL' hbb (Nat.le_refl _)
              have hBb : Below w.heap.size w Wb := hB'.trans (hbb.mono (by omega))
              have hlc : Wb.cell? ⟨gl', n, none⟩ = some (.int .i64 (x : Int)) := by
                rw [hLb.cellAt n (by omega), List.getElem?_map, hx']; rfl
              have HWb : Hid (Wb = wr.alloc (.cells #[.int .i64 es, .int .i64 el, .int .i64 et] 33)) := hWb
              have hszb : w.heap.size < Wb.heap.size := by omega
              clear h0 h1 h2 hdrop hes hel het hrin hRm hWb hF' hL'
              have hnI : (n : Int) < (s'.2.length : Int) := by omega
              go_wp2_with fail
              rw [← HWb.out]
              by_cases hA : es = (x : Int)
              · subst hA
                by_cases hBn : et < 0
                · have HR2 : Hid (rin k x (E.drop (m + 1)) s' = RR) := by unfold Hid; rw [HRIN.out, if_neg (by omega)]
                  have hd1 : ((x : Int) != (x : Int)) = false := by simp
                  have hd2 : decide (et < 0) = true := by simpa using hBn
                  clear HRIN
                  go_quiet (fail)
                  go_wp2
                  go_roundw
                  case rel => exact ⟨m + 1, s', by go_num, by omega, HR2, hRI', hx', hFb, hLb, below_drewN hBb _, hszb⟩
                  case measure => simp [intOf]; omega
                · obtain ⟨tn, rfl⟩ : ∃ tn : Nat, et = (tn : Int) := ⟨et.toNat, by omega⟩
                  have htn : tn < N := by omega
                  have hd1 : ((x : Int) != (x : Int)) = false := by simp
                  have hd2 : decide ((tn : Int) < 0) = false := by simp
                  have htl : tn < s'.1.length := by rw [hRI'.len]; exact htn
                  obtain ⟨fr, hfr⟩ : ∃ fr, s'.1[tn]? = some fr := ⟨_, List.getElem?_eq_getElem htl⟩
                  have hfc : Wb.cell? ⟨w.heap.size, tn, none⟩ = some (.int .i64 fr) := by
                    rw [hFb.cellAt tn (by omega), List.getElem?_map, hfr]; rfl
                  have HRIN2 : Hid (RR = if tn = k then (true, s') else if fr < 0 then rin k x (E.drop (m + 1)) (s'.1.set tn (x : Int), s'.2 ++ [tn]) else rin k x (E.drop (m + 1)) s') := by
                    unfold Hid
                    rw [HRIN.out, if_pos ⟨rfl, by omega⟩]
                    simp only [Int.toNat_natCast, hfr, Option.getD_some]
                    by_cases htk : tn = k
                    · rw [if_pos (by omega), if_pos htk]
                    · rw [if_neg (by omega), if_neg htk]
                  clear HRIN hBn
                  by_cases htk : tn = k
                  · have HRR2 : Hid (RR = (true, s')) := by unfold Hid; rw [HRIN2.out, if_pos htk]
                    obtain ⟨Bt, hBt⟩ : ∃ Bt, Bt = backP s'.1 k (N + 1) x := ⟨_, rfl⟩
                    have HKB : Hid (K = k :: Bt.reverse) := by unfold Hid; rw [HK2.out, HRR2.out, hBt]; rfl
                    have HBT : Hid (backP s'.1 k (N + 1) x = Bt) := hBt.symm
                    have hkk : ((tn : Int) == (k : Int)) = true := by simp; omega
                    obtain ⟨hp1, hp2, hp3⟩ := posL_lt hx'
                    have HP : Hid (posL s'.2 x < N + 1) := by unfold Hid; omega
                    have HPN : Hid (posL s'.2 x ≤ N) := by unfold Hid; omega
                    subst htk
                    clear HRIN2 hBt HK2 hp1 hp2 hp3
                    go_quiet (fail)
                    obtain ⟨wp, rfl⟩ : ∃ wp, wp = wr := ⟨_, rfl⟩
                    go_wp2
                    go_loopw [13, 14] (fun vb yv wr => ∃ (f y j : Nat) (b : List Nat), yv = .int .i64 (y : Int) ∧ s'.2[j]? = some y ∧ posL s'.2 y < f ∧ b.length + posL s'.2 y ≤ N ∧ Hid (b ++ backP s'.1 tn f y = Bt) ∧ wr.ownsRow Wb.heap.size 3 1 vb b.length (b.map natV) ∧ Below Wb.heap.size Wb wr) (fun _ yv _ => posL s'.2 (intOf yv).toNat)
                    case atStart => exact ⟨N + 1, x, n, [], rfl, hx', HP.out, by simpa using HPN.out, by unfold Hid; rw [List.nil_append]; exact HBT.out, World.ownsRow_nil _ _ _ _, below_drewN (Below.refl _ _) _⟩
                    case round =>
                      obtain ⟨f2, y, jy, b, rfl, hjy, hpf, hbl, hbt, hb2, hB2⟩ := hrel
                      have hF2' := own_below hFb hB2 (Nat.le_refl _)
                      have hs2 := hB2.size
                      obtain ⟨ab, cb, rfl, hcb, hgb⟩ := row_form hb2
                      have hyN : y < N := hRI'.lt y (List.mem_of_getElem? hjy)
                      by_cases hyk : y = tn
                      · have HBE : Hid (K = tn :: b.reverse) := by
                          unfold Hid
                          obtain ⟨f3, rfl⟩ : ∃ f3, f2 = f3 + 1 := ⟨f2 - 1, by omega⟩
                          have : b = Bt := by rw [← hbt.out, backP, if_pos hyk, List.append_nil]
                          rw [HKB.out, ← this]
                        have hyc : ((y : Int) != (tn : Int)) = false := by simp; omega
                        have hbl2 : b.length ≤ 1048576 := by omega
                        subst hyk
                        obtain ⟨wz, rfl⟩ : ∃ wz, wz = wr := ⟨_, rfl⟩
                        have hl5 := lit_int wz wz.heap.size y (Nat.le_refl _)
                        have HD0 : Hid (b.drop b.length = []) := List.drop_length
                        have HB5 : Hid (Below w.heap.size w wz) := hBb.trans (hB2.mono (by omega))
                        have hzz : w.heap.size ≤ wz.heap.size := by omega
                        unfold natV at hl5
                        clear hbt hpf hbl HKB HBT HP HPN
                        go_wp2
                        go_loopw [15, 16] (fun vo jv wr => ∃ j : Nat, j ≤ b.length ∧ jv = .int .i64 ((j : Int) - 1) ∧ wr.ownsRow wz.heap.size 3 1 vo (y :: (b.drop j).reverse).length ((y :: (b.drop j).reverse).map natV) ∧ Below wz.heap.size wz wr) (fun _ jv _ => (intOf jv + 1).toNat)
                        case atStart => exact ⟨b.length, Nat.le_refl _, rfl, by rw [HD0.out]; exact hl5, (Below.refl _ _).alloc (Nat.le_refl _) _⟩
                        case round =>
                          obtain ⟨j5, hj5, rfl, ho5, hB5⟩ := hrel
                          have hs5 := hB5.size
                          obtain ⟨OL, hOL⟩ : ∃ OL, OL = y :: (b.drop j5).reverse := ⟨_, rfl⟩
                          rw [← hOL] at ho5
                          have HOL : Hid (OL = y :: (b.drop j5).reverse) := hOL
                          clear hOL
                          obtain ⟨ao, co, rfl, hco, _⟩ := row_form ho5
                          by_cases hpos : 0 < j5
                          · obtain ⟨j6, rfl⟩ : ∃ j6, j5 = j6 + 1 := ⟨j5 - 1, by omega⟩
                            have hj6 : j6 < b.length := by omega
                            obtain ⟨gb, rfl⟩ := hgb (by omega)
                            have hb5 := own_below hb2 hB5 (Nat.le_refl _)
                            have hbc : wr.cell? ⟨gb, j6, none⟩ = some (.int .i64 (b[j6] : Int)) := by
                              rw [hb5.cellAt j6 (by omega), List.getElem?_map, List.getElem?_eq_getElem hj6]; rfl
                            have HDR : Hid (y :: (b.drop j6).reverse = OL ++ [b[j6]]) := by
                              unfold Hid; rw [HOL.out, List.drop_eq_getElem_cons hj6]; simp
                            have hol : OL.length ≤ 1048577 := by rw [HOL.out]; simp; omega
                            obtain ⟨bj, hbj⟩ : ∃ bj, bj = b[j6] := ⟨_, rfl⟩
                            rw [← hbj] at hbc HDR
                            have hjI : ((j6 + 1 : Nat) : Int) - 1 = (j6 : Int) := by omega
                            rw [hjI]
                            have hgbl := (hb5.lt gb rfl).2
                            clear hbj hb5
                            go_wp2_with (at_builtin; refine wpList_app1 _ rfl (.tmp 82) (.tmp 87) 25 rfl wz.heap.size 3 i3 (.int .i64 0) 8 Tryz.underlying25 hi hz0 hz1 hz2 rfl _ _ _ rfl (ho5.alloc _) ⟨_, 0, none⟩ 1 (.int .i64 (bj : Int)) rfl (cell_one_new _ _ _) (by simp [Value.oneCell']) (by unfold maxLen; omega) (by omega) (by simp; omega) ?_; intro vo2 w4 ho4 hg4 hs4; have hB4 : Below wz.heap.size wz w4 := below_append hB5 hs5 ho5 hg4)
                            go_roundw
                            case rel => exact ⟨j6, by omega, by go_num, by rw [HDR.out]; simp only [List.length_append, List.length_singleton, List.map_append, List.map_singleton]; exact ho4, hB4⟩
                            case measure => simp [intOf]
                          · have hj0 : j5 = 0 := by omega
                            subst hj0
                            have hlt0 : ((0 : Nat) : Int) - 1 < 0 := by omega
                            have HOK : Hid (K = OL) := by unfold Hid; rw [HOL.out, List.drop_zero]; exact HBE.out
                            go_wp2
                            go_ret
                            exact ⟨_, rfl, by rw [HOK.out]; exact own_mono ho5 hzz, HB5.out.trans (hB5.mono hzz)⟩
                      · obtain ⟨y', h6, ⟨j', h5⟩, h4⟩ := hRI'.back hjy hyk
                        have hyc : ((y : Int) != (tn : Int)) = true := by simp; omega
                        obtain ⟨f3, rfl⟩ : ∃ f3, f2 = f3 + 1 := ⟨f2 - 1, by omega⟩
                        have HBT2 : Hid ((b ++ [y]) ++ backP s'.1 tn f3 y' = Bt) := by
                          unfold Hid
                          rw [← hbt.out, backP, if_neg hyk, h6]
                          simp
                        have HH4 : Hid (posL s'.2 y' < posL s'.2 y) := h4
                        have HP3 : Hid (posL s'.2 y' < f3) := by unfold Hid; omega
                        have HPB : Hid ((b ++ [y]).length + posL s'.2 y' ≤ N) := by unfold Hid; simp only [List.length_append, List.length_singleton]; omega
                        have hbl2 : b.length ≤ 1048576 := by omega
                        have h6c : (s'.1.map i64V)[y]? = some (.int .i64 (y' : Int)) := by rw [List.getElem?_map, h6]; rfl
                        clear hbt hpf h6 h4 hbl
                        go_wp2_with (at_builtin; refine wpList_app1 _ rfl (.tmp 69) (.tmp 71) 25 rfl Wb.heap.size 3 i3 (.int .i64 0) 8 Tryz.underlying25 hi hz0 hz1 hz2 rfl _ _ _ rfl (hb2.alloc _) ⟨_, 0, none⟩ 1 (.int .i64 (y : Int)) rfl (cell_one_new _ _ _) (by simp [Value.oneCell']) (by unfold maxLen; omega) (by omega) (by simp; omega) ?_; intro vb2 w4 hb4 hg4 hs4; have hB4 : Below Wb.heap.size Wb w4 := below_append hB2 hs2 hb2 hg4; have hF4 := own_below hFb hB4 (Nat.le_refl _); have hc4 : w4.cell? ⟨w.heap.size, y, none⟩ = some (.int .i64 (y' : Int)) := (by rw [hF4.cellAt y (by omega)]; exact h6c))
                        go_roundw
                        case rel => exact ⟨f3, y', j', b ++ [y], rfl, h5, HP3.out, HPB.out, HBT2, by simp only [List.length_append, List.length_singleton, List.map_append, List.map_singleton]; exact hb4, hB4⟩
                        case measure => simp [intOf]; exact HH4.out
                  · have hkk : ((tn : Int) == (k : Int)) = false := by simp; omega
                    by_cases hneg : fr < 0
                    · have HR2 : Hid (rin k x (E.drop (m + 1)) (s'.1.set tn (x : Int), s'.2 ++ [tn]) = RR) := by unfold Hid; rw [HRIN2.out, if_neg htk, if_pos hneg]
                      have hRI2 := hRI'.put hx' htn htk (by rw [hfr]; exact hneg)
                      have hff := hFb.frozenAt tn
                      have hFs := hFb.stored tn (.int .i64 (x : Int))
                      have HRI2 : Hid (RI N k (s'.1.set tn (x : Int), s'.2 ++ [tn])) := hRI2
                      clear HRIN2 hRI2 hFs
                      have hzl : w.heap.size + 1 ≤ Wb.heap.size := by omega
                      go_quiet (fail)
                      go_wp2
                      go_region
                      have hL2 := own_set (own_drewN hLb (nq + 1)) (B := w.heap.size) (by omega) tn (.int .i64 (x : Int))
                      have hF2' := ((own_drewN hFb (nq + 1)).stored tn (.int .i64 (x : Int)))
                      have hB2' : Below w.heap.size w ((Wb.drewN (nq + 1)).setCell ⟨w.heap.size, tn, none⟩ (.int .i64 (x : Int))) := (below_drewN hBb (nq + 1)).setCell (p := ⟨w.heap.size, tn, none⟩) (Nat.le_refl _) _
                      have hszU : ((Wb.drewN (nq + 1)).setCell ⟨w.heap.size, tn, none⟩ (.int .i64 (x : Int))).heap.size = Wb.heap.size := by simp [World.setCell, World.drewN]
                      have hcn := cell_one_new ((Wb.drewN (nq + 1)).setCell ⟨w.heap.size, tn, none⟩ (.int .i64 (x : Int))) (.int .i64 (tn : Int)) 3
                      rw [hszU, hbs] at hcn
                      have HCN : Hid _ := hcn
                      clear hcn
                      go_wp2_with (at_builtin; refine wpList_app1 _ rfl (.tmp 104) (.tmp 107) 25 rfl (w.heap.size + 1) 3 i3 (.int .i64 0) 8 Tryz.underlying25 hi hz0 hz1 hz2 rfl _ _ _ rfl (hL2.alloc _) ⟨_, 0, none⟩ 1 (.int .i64 (tn : Int)) rfl HCN.out (by simp [Value.oneCell']) (by unfold maxLen; omega) (by omega) (by simp [World.setCell, World.drewN]; omega) ?_; intro vl2 w4 hL4 hg4 hs4)
                      have hB4 : Below w.heap.size w w4 := (hB2'.alloc (by rw [hszU]; omega) _).grown hg4 (by simp [World.setCell, World.drewN]; omega) (fun b e => by have := (hL2.lt b e).1; omega)
                      have hsz4 : w.heap.size < w4.heap.size := by have := hg4.size; rw [World.size_alloc, hszU] at this; omega
                      have hF4 : w4.ownsRow w.heap.size 3 1 (.slice (some ⟨w.heap.size, 0, none⟩) N N) N ((s'.1.set tn (x : Int)).map i64V) := by
                        have h := hF2'.1
                        rw [show (s'.1.map i64V).set tn (.int .i64 (x : Int)) = (s'.1.set tn (x : Int)).map i64V by rw [List.map_set]; rfl] at h
                        exact own_block (h.alloc _) (fun b hb' => hg4.block b (((h.alloc _).lt b hb').2) (fun e => by
                          have h1 := (hL2.lt b e.symm).1
                          have h2 : b = w.heap.size := by simp [Value.ownBlock] at hb'; exact hb'.symm
                          omega))
                      clear hg4 hs4 hL2 hF2' hB2'
                      go_roundw
                      case rel => exact ⟨m + 1, _, by go_num, by omega, HR2, HRI2.out, by simp only []; rw [List.getElem?_append_left hn']; exact hx', hF4, by simp only [List.length_append, List.length_singleton, List.map_append, List.map_singleton]; exact hL4, hB4, hsz4⟩
                      case measure => simp [intOf]; omega
                    · have HR2 : Hid (rin k x (E.drop (m + 1)) s' = RR) := by unfold Hid; rw [HRIN2.out, if_neg htk, if_neg hneg]
                      clear HRIN2
                      go_quiet (fail)
                      go_wp2
                      go_roundw
                      case rel => exact ⟨m + 1, s', by go_num, by omega, HR2, hRI', hx', hFb, hLb, below_drewN hBb _, hszb⟩
                      case measure => simp [intOf]; omega
              · have HR2 : Hid (rin k x (E.drop (m + 1)) s' = RR) := by unfold Hid; rw [HRIN.out, if_neg (fun h => hA h.1)]
                have hd1 : (es != (x : Int)) = true := by simpa using hA
                clear HRIN
                go_quiet (fail)
                go_wp2
                go_roundw
                case rel => exact ⟨m + 1, s', by go_num, by omega, HR2, hRI', hx', hFb, hLb, below_drewN hBb _, hszb⟩
                case measure => simp [intOf]; omega
            · have hdrop : E.drop m = [] := List.drop_of_length_le (by omega)
              have HRR2 : Hid (RR = (false, s')) := by unfold Hid; rw [← hRm.out, hdrop, rin]
              have HK3 : Hid (K = ringOut k N (rout E k f' (n + 1) s')) := by unfold Hid; rw [HK2.out, HRR2.out]; rfl
              clear hRm hdrop
              go_wp2
              go_roundw
              case rel => exact ⟨n + 1, f', s', by go_num, by omega, by omega, hRI', HK3, hF', hL', hB', hsz'⟩
              case measure => simp [intOf]; omega
        · have HKN : Hid (K = []) := by
            unfold Hid
            rw [hKs.out]
            cases f with
            | zero => rfl
            | succ f => rw [rout, List.getElem?_eq_none (by omega)]; rfl
          clear hKs HK
          go_wp2
          go_ret
          exact ⟨_, rfl, by rw [HKN.out]; exact World.ownsRow_nil _ _ _ _, hB⟩
end Go.Proofs.YtimgafblpmjajaaGreat
namespace Go.Proofs.YtimgafblpmjajaaGreat

open Go.RowKit

theorem rin_inv {N k x i : Nat} : ∀ (L : List Eg) (s : List Int × List Nat), (∀ e ∈ L, e.to < (N : Int)) → RI N k s → s.2[i]? = some x → RI N k (rin k x L s).2 ∧ (rin k x L s).2.2[i]? = some x
  | [], s, _, h, hx => ⟨h, hx⟩
  | e :: r, s, hL, h, hx => by
    have hr : ∀ e ∈ r, e.to < (N : Int) := fun y hy => hL y (by simp [hy])
    have he := hL e (by simp)
    rw [rin]
    split
    · rename_i hc
      split
      · exact ⟨h, hx⟩
      · rename_i hk
        split
        · rename_i hneg
          have hp := h.put hx (t := e.to.toNat) (by omega) (by omega) hneg
          refine rin_inv r _ hr hp ?_
          have hil : i < s.2.length := by
            rcases Nat.lt_or_ge i s.2.length with hi | hi
            · exact hi
            · rw [List.getElem?_eq_none hi] at hx; cases hx
          simp only []; rw [List.getElem?_append_left hil]; exact hx
        · exact rin_inv r s hr h hx
    · exact rin_inv r s hr h hx
theorem rout_inv {E : List Eg} {N k : Nat} (hE : ∀ e ∈ E, e.to < (N : Int)) : ∀ (f i : Nat) (s : List Int × List Nat) (x : Nat) (fr : List Int), RI N k s → rout E k f i s = some (x, fr) → ∃ (s' : List Int × List Nat) (j : Nat), RI N k s' ∧ s'.1 = fr ∧ s'.2[j]? = some x
  | 0, _, _, _, _, _, h => by simp [rout] at h
  | f + 1, i, s, x, fr, hI, h => by
    rw [rout] at h
    cases hx : s.2[i]? with
    | none => rw [hx] at h; simp at h
    | some y =>
      rw [hx] at h
      obtain ⟨h1, h2⟩ := rin_inv (k := k) E s hE hI hx
      simp only [] at h
      split at h
      · simp only [Option.some.injEq, Prod.mk.injEq] at h
        obtain ⟨rfl, rfl⟩ := h
        exact ⟨_, i, h1, rfl, h2⟩
      · exact rout_inv hE f (i + 1) _ x fr h1 h
theorem backP_lt {N k : Nat} {s : List Int × List Nat} (h : RI N k s) : ∀ (f x j : Nat), s.2[j]? = some x → (∀ y ∈ backP s.1 k f x, y < N) ∧ (backP s.1 k f x).length ≤ posL s.2 x
  | 0, x, _, _ => by simp [backP]
  | f + 1, x, j, hx => by
    rw [backP]
    split
    · simp
    · rename_i hk
      obtain ⟨y', h6, ⟨j', h5⟩, h7⟩ := h.back hx hk
      obtain ⟨i1, i2⟩ := backP_lt h f y' j' h5
      rw [h6]
      simp only [Option.getD_some, Int.toNat_natCast]
      refine ⟨fun y hy => ?_, by simp only [List.length_cons]; omega⟩
      rcases List.mem_cons.1 hy with rfl | hy
      · exact h.lt _ (List.mem_of_getElem? hx)
      · exact i1 y hy
theorem ringK_lt {E : List Eg} {N k : Nat} (hE : ∀ e ∈ E, e.to < (N : Int)) (hk : k < N) : (∀ y ∈ ringK E N k, y < N) ∧ (ringK E N k).length ≤ N := by
  unfold ringK
  cases hr : rout E k (N + 1) 0 (List.replicate N (-1), [k]) with
  | none => simp [ringOut]
  | some r =>
    obtain ⟨x, fr⟩ := r
    obtain ⟨s', j, h1, rfl, h3⟩ := rout_inv hE _ _ _ _ _ (RI.start N k hk) hr
    obtain ⟨i1, i2⟩ := backP_lt h1 (N + 1) x j h3
    have hp := (posL_lt h3).2.1
    have hrm := h1.room
    simp only [ringOut]
    refine ⟨fun y hy => ?_, by simp only [List.length_cons, List.length_reverse]; omega⟩
    rcases List.mem_cons.1 hy with rfl | hy
    · exact hk
    · exact i1 y (List.mem_reverse.1 hy)
def bestStep (E : List Eg) (N : Nat) (best : List Nat) (k : Nat) : List Nat := if 0 < (ringK E N k).length ∧ (best.length = 0 ∨ (ringK E N k).length < best.length) then ringK E N k else best
def bestUp (E : List Eg) (N n : Nat) : List Nat := (List.range n).foldl (bestStep E N) []
theorem bestUp_succ (E : List Eg) (N n : Nat) : bestUp E N (n + 1) = bestStep E N (bestUp E N n) n := by unfold bestUp; rw [List.range_succ, List.foldl_append]; rfl
theorem bestUp_lt {E : List Eg} {N : Nat} (hE : ∀ e ∈ E, e.to < (N : Int)) : ∀ n, n ≤ N → (∀ y ∈ bestUp E N n, y < N) ∧ (bestUp E N n).length ≤ N
  | 0, _ => by simp [bestUp]
  | n + 1, h => by
    rw [bestUp_succ]
    unfold bestStep
    split
    · exact ringK_lt hE (by omega)
    · exact bestUp_lt hE n (by omega)
def shortOf (D : Wd) : List (List UInt8) := (bestUp (edgesOf D) D.mods.length D.mods.length).map (nameK D.mods)
theorem shortOf_len (D : Wd) (hD : D.t ≤ 1048576) : (shortOf D).length ≤ 1048576 := by
  have h := (bestUp_lt (edgesOf_to D) D.mods.length (Nat.le_refl _)).2
  unfold Wd.t mdsT at hD
  unfold shortOf; rw [List.length_map]; omega
theorem nmV_name (M : List Md) (k : Nat) : nmV M k = strV (nameK M k) := rfl

set_option maxHeartbeats 16000000 in
set_option maxRecDepth 100000 in
theorem specRing_any (v : Value) (D : Wd) (w : World) (h : Wds w v D) (hD : D.t ≤ 1048576) :
    Calls Tryz.prog 11 #[v] w fun e w' => ∃ v', e = .returned v' ∧ w'.ownsRow w.heap.size 9 1 v' (shortOf D).length ((shortOf D).map strV) ∧ Below w.heap.size w w' := by
  obtain ⟨i9, hi, hz0, hz1, hz2⟩ := info_parts Tryz.info9
  obtain ⟨a1, a2, a3, k1, k2, k3, rfl⟩ := h.agg'
  obtain ⟨W, hW⟩ : ∃ W, W = w.alloc (.cells #[.slice a1 D.roots.length k1, .slice a2 D.mods.length k2, .slice a3 D.faults.length k3] 27) := ⟨_, rfl⟩
  have hWB : Below w.heap.size w W := by rw [hW]; exact (Below.refl _ _).alloc (Nat.le_refl _) _
  have hWs : W.heap.size = w.heap.size + 1 := by rw [hW]; simp
  have hc3 := cells3 w (.slice a1 D.roots.length k1) (.slice a2 D.mods.length k2) (.slice a3 D.faults.length k3) 27
  rw [← hW] at hc3
  have hWd := h.below hWB (Nat.le_refl _)
  have hmods : Mds W (.slice a2 D.mods.length k2) D.mods := by
    obtain ⟨r, m, f, hv, h1, h2, h3⟩ := hWd
    have : m = .slice a2 D.mods.length k2 := by simp at hv; exact hv.2.1.symm
    rw [← this]; exact h2
  have HNM : Hid (∀ k (hk : k < D.mods.length), ∃ b o, a2 = some ⟨b, o, none⟩ ∧ b < W.heap.size ∧ W.cell? ⟨b, o + k * 2, none⟩ = some (strV D.mods[k].name)) := by
    obtain ⟨a, cap, hv, hcap, hmax, hc⟩ := hmods
    cases hv
    exact fun k hk => by obtain ⟨b, o, s, ha, hb, h0, _⟩ := hc k hk; exact ⟨b, o, ha, hb, h0⟩
  have hk2 : D.mods.length ≤ k2 := by obtain ⟨a, cap, hv, hcap, _⟩ := hmods; cases hv; exact hcap
  have hml : D.mods.length ≤ 1048576 := by unfold Wd.t mdsT at hD; omega
  have HW : Hid (W = w.alloc (.cells #[.slice a1 D.roots.length k1, .slice a2 D.mods.length k2, .slice a3 D.faults.length k3] 27)) := hW
  have hed := specEdges_any _ D W hWd hD
  have hEl := edgesOf_len D hD
  have hEt := edgesOf_to D
  obtain ⟨E, hE⟩ : ∃ E, E = edgesOf D := ⟨_, rfl⟩
  obtain ⟨N, hN⟩ : ∃ N, N = D.mods.length := ⟨_, rfl⟩
  have HRES : Hid (shortOf D = (bestUp E N N).map (nameK D.mods)) := by unfold Hid shortOf; rw [← hE, ← hN]
  rw [← hE] at hed hEl hEt
  rw [← hN] at hml hEt hk2 hc3 HW
  have HBU : Hid (∀ n, n ≤ N → (∀ y ∈ bestUp E N n, y < N) ∧ (bestUp E N n).length ≤ N) := bestUp_lt hEt
  have HRG : Hid (∀ (vv : Value) (k : Nat) (V : World), Egs V vv E → k < N → Calls Tryz.prog 24 #[vv, .int .i64 N, .int .i64 k] V fun e w' => ∃ v', e = .returned v' ∧ w'.ownsRow V.heap.size 3 1 v' (ringK E N k).length ((ringK E N k).map natV) ∧ Below V.heap.size V w') := fun vv k V hV hk => l4ring_any vv E N k V hV hEl hml hk hEt
  have HNN : Hid (N = D.mods.length) := hN
  rw [← hN] at hed
  clear hW h hWd hmods hE hEt hN hD
  go_enter Tryz.func11, Tryz.ntmps11
  rw [← HNN.out]
  go_wp2_with fail
  rw [← HW.out]
  refine hed.mono ?_
  rintro e w1 ⟨ve, rfl, re1, hb1⟩
  obtain ⟨ea, ec, rfl, _, _⟩ := row_form re1
  have x1 := below_cell0 hb1 (by omega) hc3.2.1
  have hs1 := hb1.size
  go_wp2
  go_loopw [4, 15] (fun vb i wr => ∃ n : Nat, n ≤ N ∧ i = .int .i64 n ∧ wr.ownsRow w1.heap.size 3 1 vb (bestUp E N n).length ((bestUp E N n).map natV) ∧ Below w1.heap.size w1 wr) (fun _ i _ => N - (intOf i).toNat)
  case atStart => exact ⟨0, Nat.zero_le _, rfl, World.ownsRow_nil _ _ _ _, Below.refl _ _⟩
  case round =>
    obtain ⟨n, hn, rfl, hb, hB⟩ := hrel
    have hBW : Below W.heap.size W wr := hb1.trans (hB.mono hs1)
    have hsz := hB.size
    obtain ⟨hb_lt, hb_len⟩ := HBU.out n hn
    have hst := bestUp_succ E N n
    obtain ⟨b, hbe⟩ : ∃ b, b = bestUp E N n := ⟨_, rfl⟩
    rw [← hbe] at hb hb_lt hb_len hst
    have HBE : Hid (b = bestUp E N n) := hbe
    have HST : Hid (bestUp E N (n + 1) = bestStep E N b n) := hst
    clear hbe hst
    obtain ⟨ab, cb, rfl, hcb, hgb⟩ := row_form hb
    by_cases hlt : n < N
    · have y1 := below_cell0 hBW (by omega) hc3.2.1
      have hcall := HRG.out (.slice ea E.length ec) n wr ((egs_own re1).below hB (Nat.le_refl _)) hlt
      obtain ⟨r, hr⟩ : ∃ r, r = ringK E N n := ⟨_, rfl⟩
      have HS2 : Hid (bestStep E N b n = if 0 < r.length ∧ (b.length = 0 ∨ r.length < b.length) then r else b) := by unfold Hid bestStep; rw [hr]
      rw [← hr] at hcall
      clear hr
      go_wp2_with fail
      refine hcall.mono ?_
      rintro e w2 ⟨vr, rfl, rr2, hb2⟩
      obtain ⟨ar, cr, rfl, hcr, _⟩ := row_form rr2
      have hB2 : Below w1.heap.size w1 w2 := hB.trans (hb2.mono hsz)
      have rr2' := own_mono rr2 hsz
      have bb2 := own_below hb hb2 (Nat.le_refl _)
      clear hcall rr2 hb hb2
      by_cases hr0 : 0 < r.length
      · have hr0' : (0 : Int) < (r.length : Int) := by omega
        by_cases hb0 : b.length = 0
        · have HF : Hid (bestUp E N (n + 1) = r) := by unfold Hid; rw [HST.out, HS2.out, if_pos ⟨hr0, .inl hb0⟩]
          have hbi : ((b.length : Int) == 0) = true := beq_iff_eq.2 (by omega)
          clear HS2 HST
          go_wp2
          go_roundw
          case rel => exact ⟨n + 1, by omega, by go_num, by rw [HF.out]; exact rr2', hB2⟩
          case measure => simp [intOf]; omega
        · have hbi : ((b.length : Int) == 0) = false := beq_eq_false_iff_ne.2 (by omega)
          by_cases hlb : r.length < b.length
          · have HF : Hid (bestUp E N (n + 1) = r) := by unfold Hid; rw [HST.out, HS2.out, if_pos ⟨hr0, .inr hlb⟩]
            have hli : (r.length : Int) < (b.length : Int) := by omega
            clear HS2 HST
            go_wp2
            go_roundw
            case rel => exact ⟨n + 1, by omega, by go_num, by rw [HF.out]; exact rr2', hB2⟩
            case measure => simp [intOf]; omega
          · have HF : Hid (bestUp E N (n + 1) = b) := by unfold Hid; rw [HST.out, HS2.out, if_neg (by omega)]
            have hli : ¬ (r.length : Int) < (b.length : Int) := by omega
            have hld : decide ((r.length : Int) < (b.length : Int)) = false := by simpa using hli
            clear HS2 HST
            go_wp2
            go_roundw
            case rel => exact ⟨n + 1, by omega, by go_num, by rw [HF.out]; exact bb2, hB2⟩
            case measure => simp [intOf]; omega
      · have HF : Hid (bestUp E N (n + 1) = b) := by unfold Hid; rw [HST.out, HS2.out, if_neg (by omega)]
        have hr1 : ¬ (0 : Int) < (r.length : Int) := by omega
        have hrd : decide ((0 : Int) < (r.length : Int)) = false := by simpa using hr1
        clear HS2 HST
        go_wp2
        go_roundw
        case rel => exact ⟨n + 1, by omega, by go_num, by rw [HF.out]; exact bb2, hB2⟩
        case measure => simp [intOf]; omega
    · have hnN : n = N := by omega
      subst hnN
      have HR2 : Hid (shortOf D = b.map (nameK D.mods)) := by unfold Hid; rw [HBE.out]; exact HRES.out
      obtain ⟨wo, rfl⟩ : ∃ wo, wo = wr := ⟨_, rfl⟩
      clear HBU HRG HST
      go_wp2
      go_loopw [7, 43] (fun vo i wr => ∃ m : Nat, m ≤ b.length ∧ i = .int .i64 m ∧ wr.ownsRow wo.heap.size 9 1 vo ((b.take m).map (nmV D.mods)).length ((b.take m).map (nmV D.mods)) ∧ Below wo.heap.size wo wr) (fun _ i _ => b.length - (intOf i).toNat)
      case atStart => exact ⟨0, Nat.zero_le _, rfl, World.ownsRow_nil _ _ _ _, Below.refl _ _⟩
      case round =>
        obtain ⟨m, hm, rfl, ho, hB3⟩ := hrel
        have hs3 := hB3.size
        have hbo := own_below hb hB3 (Nat.le_refl _)
        have hBW3 : Below W.heap.size W wr := hBW.trans (hB3.mono (by omega))
        obtain ⟨OL, hOL⟩ : ∃ OL, OL = (b.take m).map (nmV D.mods) := ⟨_, rfl⟩
        rw [← hOL] at ho
        have HOL : Hid (OL = (b.take m).map (nmV D.mods)) := hOL
        have hol : OL.length ≤ 1048578 := by rw [hOL, List.length_map, List.length_take]; omega
        clear hOL
        obtain ⟨ao, co, rfl, hco, _⟩ := row_form ho
        by_cases hlt2 : m < b.length
        · obtain ⟨gb, rfl⟩ := hgb (by omega)
          have hbm := hb_lt b[m] (List.getElem_mem hlt2)
          obtain ⟨bm, hbm'⟩ : ∃ bm, bm = b[m] := ⟨_, rfl⟩
          have hbc : wr.cell? ⟨gb, m, none⟩ = some (.int .i64 (bm : Int)) := by
            rw [hbo.cellAt m (by omega), List.getElem?_map, List.getElem?_eq_getElem hlt2, ← hbm']; rfl
          rw [← hbm'] at hbm
          obtain ⟨mb, mo, rfl, hmb, hmc⟩ := HNM.out bm (by have := HNN.out; omega)
          have y1 := below_cell0 hBW3 (by omega) hc3.2.1
          obtain ⟨ns, hns⟩ : ∃ ns, strV (D.mods[bm]'(by have := HNN.out; omega)).name = .string ns := ⟨_, rfl⟩
          rw [hns] at hmc
          have hmc3 := below_cell0 hBW3 hmb hmc
          have HNV : Hid (nmV D.mods bm = .string ns) := by unfold Hid nmV; rw [List.getElem?_eq_getElem (by have := HNN.out; omega)]; exact hns
          have HNX : Hid ((b.take (m + 1)).map (nmV D.mods) = OL ++ [.string ns]) := by
            unfold Hid; rw [List.take_succ_eq_append_getElem hlt2, List.map_append, List.map_singleton, ← hbm', HNV.out, HOL.out]
          have hgbl := (hbo.lt gb rfl).2
          have hbmI : (bm : Int) < (n : Int) := by omega
          clear hbm' hmc hns hbo
          go_wp2_with (at_builtin; refine wpList_app1 _ rfl (.tmp 47) (.tmp 54) 23 rfl wo.heap.size 9 i9 (.string ByteArray.empty) 16 Tryz.underlying23 hi hz0 hz1 hz2 rfl _ _ _ rfl (ho.alloc _) ⟨_, 0, none⟩ 1 (.string ns) rfl (cell_one_new _ _ _) (by simp [Value.oneCell']) (by unfold maxLen; omega) (by omega) (by simp; omega) ?_; intro vo2 w4 ho4 hg4 hs4; have hB4 : Below wo.heap.size wo w4 := below_append hB3 hs3 ho hg4)
          go_roundw
          case rel => exact ⟨m + 1, by omega, by go_num, by rw [HNX.out, List.length_append, List.length_singleton]; exact ho4, hB4⟩
          case measure => simp [intOf]; omega
        · have HOK : Hid ((shortOf D).map strV = OL) := by
            unfold Hid; rw [HR2.out, HOL.out, List.take_of_length_le (by omega), List.map_map]; rfl
          have HOKL : Hid ((shortOf D).length = OL.length) := by unfold Hid; rw [← HOK.out, List.length_map]
          go_wp2
          go_ret
          exact ⟨_, rfl, by rw [HOK.out, HOKL.out]; exact own_mono ho (by omega), hWB.trans (hBW3.mono hWB.size)⟩
end Go.Proofs.YtimgafblpmjajaaGreat
namespace Go.Proofs.YtimgafblpmjajaaGreat
open Go.RowKit

theorem fold_leads (E : List Eg) (f k : Nat) : ∀ (L : List Eg) (s : List Bool × List Nat), L.foldl (visStep E f k) s = (leadsOf L k).foldl (fun s t => vis E f t s) s
  | [], s => rfl
  | e :: r, s => by
    rw [List.foldl_cons, fold_leads E f k r, leadsOf_cons, List.foldl_append]
    unfold visStep
    split <;> rfl
/-- The search's inner round, over where a module's imports lead. -/
def rinL (k x : Nat) : List Nat → List Int × List Nat → Bool × (List Int × List Nat)
  | [], s => (false, s)
  | t :: r, s => if t = k then (true, s) else if (s.1[t]?).getD 0 < 0 then rinL k x r (s.1.set t (x : Int), s.2 ++ [t]) else rinL k x r s
theorem rin_leads (k x : Nat) : ∀ (L : List Eg) (s : List Int × List Nat), rin k x L s = rinL k x (leadsOf L x) s
  | [], s => rfl
  | e :: r, s => by
    rw [rin, leadsOf_cons]
    by_cases h : e.src = (x : Int) ∧ 0 ≤ e.to
    · rw [if_pos h, if_pos h]
      simp only [List.cons_append, List.nil_append, rinL]
      have hk : e.to = (k : Int) ↔ e.to.toNat = k := by omega
      by_cases h1 : e.to = (k : Int)
      · rw [if_pos h1, if_pos (hk.1 h1)]
      · rw [if_neg h1, if_neg (fun h => h1 (hk.2 h))]
        split
        · exact rin_leads k x r _
        · exact rin_leads k x r _
    · rw [if_neg h, if_neg h]; exact rin_leads k x r s
/-- A way back to the first module. -/
def Chn (fr : List Int) (k : Nat) : List Nat → Prop
  | [] => False
  | [x] => x = k
  | x :: y :: r => x ≠ k ∧ fr[x]? = some (y : Int) ∧ Chn fr k (y :: r)
theorem Chn.put {fr : List Int} {k t : Nat} (v : Int) (ht : (fr[t]?).getD 0 < 0) : ∀ {c : List Nat}, Chn fr k c → Chn (fr.set t v) k c
  | [], h => h
  | [_], h => h
  | x :: y :: r, h => by
    obtain ⟨h1, h2, h3⟩ := h
    have hne : t ≠ x := fun e => by rw [e, h2] at ht; simp at ht; omega
    exact ⟨h1, by rw [List.getElem?_set_ne hne]; exact h2, Chn.put v ht h3⟩
theorem Chn.back {fr : List Int} {k : Nat} : ∀ {x : Nat} {r : List Nat} (f : Nat), Chn fr k (x :: r) → r.length ≤ f → k :: (backP fr k f x).reverse = (x :: r).reverse
  | x, [], f, h, _ => by
    have hx : x = k := h
    subst hx
    cases f <;> simp [backP]
  | x, y :: r, 0, _, hf => by simp at hf
  | x, y :: r, f + 1, h, hf => by
    obtain ⟨h1, h2, h3⟩ := h
    rw [backP, if_neg h1, h2]
    simp only [Option.getD_some, Int.toNat_natCast]
    have ih := Chn.back (x := y) (r := r) f h3 (by simpa using hf)
    rw [List.reverse_cons (a := x), List.reverse_cons (a := x), ← ih]
    simp
/-- The ways by which the modules of the line were met. -/
structure Cs (k : Nat) (s : List Int × List Nat) (C : List (List Nat)) : Prop where
  len : C.length = s.2.length
  way : ∀ i (hi : i < s.2.length), ∃ c, C[i]? = some (s.2[i] :: c) ∧ Chn s.1 k (s.2[i] :: c) ∧ c.length ≤ i
theorem Cs.start (N k : Nat) : Cs k (List.replicate N (-1), [k]) [[k]] :=
  ⟨rfl, fun i hi => by
    have h0 : i = 0 := by simp at hi; omega
    subst h0
    exact ⟨[], rfl, rfl, Nat.le_refl _⟩⟩
theorem Cs.put {k : Nat} {s : List Int × List Nat} {C : List (List Nat)} (h : Cs k s C) {x t i : Nat} {c : List Nat} (hx : s.2[i]? = some x) (hc : C[i]? = some (x :: c)) (ht : t < s.1.length) (htk : t ≠ k) (hneg : (s.1[t]?).getD 0 < 0) : Cs k (s.1.set t (x : Int), s.2 ++ [t]) (C ++ [t :: x :: c]) := by
  refine ⟨by simp [h.len], fun j hj => ?_⟩
  simp only [List.length_append, List.length_singleton] at hj
  by_cases hjl : j < s.2.length
  · obtain ⟨c', h1, h2, h3⟩ := h.way j hjl
    refine ⟨c', ?_, ?_, h3⟩
    · rw [List.getElem?_append_left (by rw [h.len]; exact hjl)]
      simp only [List.getElem_append_left hjl]; exact h1
    · simp only [List.getElem_append_left hjl]
      exact h2.put _ hneg
  · have hje : j = s.2.length := by omega
    subst hje
    have hil : i < s.2.length := by
      rcases Nat.lt_or_ge i s.2.length with hi | hi
      · exact hi
      · rw [List.getElem?_eq_none hi] at hx; cases hx
    obtain ⟨c', h1, h2, h3⟩ := h.way i hil
    have hxe : s.2[i] = x := by rw [List.getElem?_eq_getElem hil] at hx; simpa using hx
    rw [hxe] at h1 h2
    rw [hc] at h1
    have hcc : c = c' := by simpa using h1
    subst hcc
    refine ⟨x :: c, ?_, ?_, ?_⟩
    · rw [List.getElem?_append_right (by rw [h.len]; exact Nat.le_refl _), h.len]; simp
    · simp only [List.getElem_concat_length]
      exact ⟨htk, by rw [List.getElem?_set_self ht], h2.put _ hneg⟩
    · simp only [List.length_cons]; omega
theorem Cs.at {k : Nat} {s : List Int × List Nat} {C : List (List Nat)} (h : Cs k s C) {i x : Nat} (hx : s.2[i]? = some x) : ∃ c, C[i]? = some (x :: c) ∧ Chn s.1 k (x :: c) ∧ c.length ≤ i := by
  have hil : i < s.2.length := by
    rcases Nat.lt_or_ge i s.2.length with hi | hi
    · exact hi
    · rw [List.getElem?_eq_none hi] at hx; cases hx
  have hxe : s.2[i] = x := by rw [List.getElem?_eq_getElem hil] at hx; simpa using hx
  obtain ⟨c, h1, h2, h3⟩ := h.way i hil
  rw [hxe] at h1 h2
  exact ⟨c, h1, h2, h3⟩
/-- Where the search ends, the way is the ring. -/
theorem ring_way {k N x i : Nat} {s : List Int × List Nat} {c : List Nat} (hR : RI N k s) (hx : s.2[i]? = some x) (hc : Chn s.1 k (x :: c)) (hl : c.length ≤ i) : ringOut k N (some (x, s.1)) = (x :: c).reverse := by
  have hil : i < s.2.length := by
    rcases Nat.lt_or_ge i s.2.length with hi | hi
    · exact hi
    · rw [List.getElem?_eq_none hi] at hx; cases hx
  have := hR.room
  exact hc.back (N + 1) (by omega)
theorem rinL_cons (k x t : Nat) (r : List Nat) (s : List Int × List Nat) : rinL k x (t :: r) s = if t = k then (true, s) else if (s.1[t]?).getD 0 < 0 then rinL k x r (s.1.set t (x : Int), s.2 ++ [t]) else rinL k x r s := rfl
theorem rout_at {E : List Eg} {k f i x : Nat} {s : List Int × List Nat} (hx : s.2[i]? = some x) : rout E k (f + 1) i s = if (rinL k x (leadsOf E x) s).1 then some (x, (rinL k x (leadsOf E x) s).2.1) else rout E k f (i + 1) (rinL k x (leadsOf E x) s).2 := by
  rw [rout, hx]
  simp only [rin_leads]
theorem rout_end {E : List Eg} {k f i : Nat} {s : List Int × List Nat} (hx : s.2.length ≤ i) : rout E k f i s = none := by
  cases f with
  | zero => rfl
  | succ f => rw [rout, List.getElem?_eq_none hx]
end Go.Proofs.YtimgafblpmjajaaGreat
namespace Go.Proofs.YtimgafblpmjajaaGreat
open Go.RowKit Go.Maps

theorem Tryz.markInt : Tryz.prog.underlying 93 = some (.int .i64) := by kernel_rfl
theorem zeroMark (w : World) : (zeroValue 93).run Tryz.prog w = .ok (.int .i64 0) w := by kernel_rfl
theorem law3 : Keyed Tryz.prog 3 := int_keyed Tryz.underlying3
theorem key3 (k : Nat) (hk : k ≤ 1048576) : keyOf Tryz.prog 3 (.int .i64 (k : Int)) = some (.int .i64 (k : Int)) := by
  exact keyOf_int_mk Tryz.underlying3 (WalkArith.wf_i64 (by omega))
/-- The marks are those of the places that were met. -/
def Marked (s : List Bool) (D : DataW Unit) : Prop := IsMap D ∧ ∀ k (hk : k < s.length), D.atKey (.int .i64 (k : Int)) (.lit (.int .i64 0)) = .lit (.int .i64 (if s[k] then 1 else 0))
theorem mrk_start (n : Nat) : Marked (List.replicate n false) (.map []) := ⟨isMap_empty, fun k hk => by simp; rfl⟩
theorem mrk_set {s : List Bool} {D : DataW Unit} (h : Marked s D) (k : Nat) (hk1 : k ≤ 1048576) : Marked (s.set k true) (D.put (.int .i64 (k : Int)) (.lit (.int .i64 1))) := by
  refine ⟨h.1.put _ _, fun j hj => ?_⟩
  have hj' : j < s.length := by simpa using hj
  by_cases he : j = k
  · subst he
    rw [atKey_put_same h.1 (law3.key (key3 j hk1))]; simp
  · have hne : (Lit.int IntKind.i64 (j : Int)) ≠ .int .i64 (k : Int) := fun e => he (by injection e with e1 e2; omega)
    rw [atKey_put_other hne, h.2 j hj']
    simp [List.getElem_set_ne (Ne.symm he)]
theorem map_keep {w w' : World} {b n : Nat} {k : TypeId} {R : Value → Option (DataW Unit × List MemPlace)} {D : DataW Unit} (hm : w.ownsMap Tryz.prog k R b n D) (h : w'.heap[b]? = w.heap[b]?) : w'.ownsMap Tryz.prog k R b n D := by
  obtain ⟨es, clock, hh, r⟩ := hm
  exact ⟨es, clock, h.trans hh, r⟩
theorem map_ne {w : World} {b n : Nat} {k : TypeId} {R : Value → Option (DataW Unit × List MemPlace)} {D : DataW Unit} (hm : w.ownsMap Tryz.prog k R b n D) {C : Nat} {cs : Array Value} {t : TypeId} {fr : Nat × Nat} (h : w.heap[C]? = some (.cells cs t fr)) : b ≠ C := fun e => by
  obtain ⟨es, clock, hh, r⟩ := hm
  rw [e, h] at hh; cases hh
theorem map_row {w : World} {b n : Nat} {k : TypeId} {R : Value → Option (DataW Unit × List MemPlace)} {D : DataW Unit} (hm : w.ownsMap Tryz.prog k R b n D) {lo : Nat} {t : TypeId} {sz l : Nat} {v : Value} {xs : List Value} (h : w.ownsRow lo t sz v l xs) : v.ownBlock ≠ some b := fun e => by
  obtain ⟨_, j2 | ⟨q, c, cur, rfl, _, hq, _⟩⟩ := h
  · rw [j2.1] at e; cases e
  · simp [Value.ownBlock] at e
    exact map_ne hm hq e.symm
/-- A search that puts places behind those that they lead to. -/
structure Dst (lo C mk : Nat) (w : World) (vo : Value) (s : List Bool × List Nat) : Prop where
  blk : w.heap[C]? = some (.cells #[vo] 60 (0, 0))
  lowC : lo ≤ C
  row : w.ownsRow lo 3 1 vo s.2.length (s.2.map numV)
  map : ∃ n D, w.ownsMap Tryz.prog 3 (plainElem Tryz.prog 93) mk n D ∧ Marked s.1 D ∧ n + unmet s.1 ≤ s.1.length
  lowM : lo ≤ mk
theorem Dst.keep {lo C mk : Nat} {w w' : World} {vo : Value} {s : List Bool × List Nat} (h : Dst lo C mk w vo s) (hb : ∀ b, b < w.heap.size → w'.heap[b]? = w.heap[b]?) : Dst lo C mk w' vo s := by
  obtain ⟨n, D, h1, h2, h3⟩ := h.map
  exact ⟨(hb C (Array.getElem?_eq_some_iff.1 h.blk).1).trans h.blk, h.lowC, own_block h.row (fun b e => hb b (h.row.lt b e).2), ⟨n, D, (Kg.of_keep hb).map h1, h2, h3⟩, h.lowM⟩

set_option maxHeartbeats 4000000 in
set_option maxRecDepth 100000 in
theorem add_any {lo C mk : Nat} {w : World} {vo : Value} {s : List Bool × List Nat} (h : Dst lo C mk w vo s) (k : Nat) (hl : s.2.length ≤ 1048576) :
    Calls Tryz.prog 20 #[.pointer (some ⟨C, 0, none⟩), .int .i64 k] w fun e w' => e = .returned (.tuple #[]) ∧ (∃ vo', Dst lo C mk w' vo' (s.1, s.2 ++ [k])) ∧ Below lo w w' := by
  obtain ⟨i3, hi3, jz0, jz1, jz2⟩ := info_parts Tryz.info3
  have c0 : w.cell? ⟨C, 0, none⟩ = some vo := by have := h.blk; simp [World.cell?, this]
  have hCl : C < w.heap.size := (Array.getElem?_eq_some_iff.1 h.blk).1
  have hlo : lo ≤ w.heap.size := Nat.le_trans h.lowC (Nat.le_of_lt hCl)
  obtain ⟨av, cv, rfl, hcv, _⟩ := row_form h.row
  have HD : Hid (Dst lo C mk w.drew (.slice av s.2.length cv) s) := h.keep (fun _ _ => rfl)
  have c0' : ∀ o', (w.alloc o').cell? ⟨C, 0, none⟩ = some (.slice av s.2.length cv) := fun o' => below_cell0 ((Below.refl w.heap.size w).alloc (Nat.le_refl _) o') hCl c0
  have HN : Hid (∀ j u, [Value.int .i64 (k : Int)][j]? = some u → (w.drew.alloc (.cells #[.int .i64 (k : Int)] 3)).cell? ((⟨w.heap.size, 0, none⟩ : Addr).add j) = some u) := cell_one_new w.drew _ 3
  clear h
  go_enter Tryz.func20, Tryz.ntmps20
  go_wp2_with (at_builtin; refine wpList_append_lies _ rfl _ _ 25 rfl lo 3 i3 _ 1 8 Tryz.underlying25 hi3 jz0 jz1 jz2 rfl (by decide) (.slice av s.2.length cv) s.2.length (s.2.map numV) rfl (HD.out.row.alloc (.cells #[.int .i64 (k : Int)] 3)) ⟨w.heap.size, 0, none⟩ 1 1 [.int .i64 (k : Int)] rfl rfl HN.out (by intro u hu; simp at hu; subst hu; rfl) (by decide) (by unfold maxLen; omega) (by omega) (by simp; omega) (w.heap.size + 1) (by simp) ?_; intro gs cap4 w4 hown4 hgrow4 hat4 hlt4; have hbC : w4.heap[C]? = some (.cells #[.slice av s.2.length cv] 60 (0, 0)) := (grown_keep hgrow4 (by simp; omega) (blk_ne HD.out.blk HD.out.row (by decide))).trans ((old_blk w.drew _ hCl).trans HD.out.blk); have v0 : w4.cell? ⟨C, 0, none⟩ = some (.slice av s.2.length cv) := (by simp [World.cell?, hbC]); have vf : w4.frozen? ⟨C, 0, none⟩ = false := (by simp [World.frozen?, hbC]))
  obtain ⟨nm, DM, hm1, hm2, hm3⟩ := HD.out.map
  have hmk : w4.heap[mk]? = w.heap[mk]? := (grown_keep hgrow4 (by have := hm1.lt; simp; exact Nat.lt_succ_of_lt this) (map_row hm1 HD.out.row)).trans (old_blk w.drew _ hm1.lt)
  have hD4 : Dst lo C mk (w4.setCell ⟨C, 0, none⟩ (.slice (some ⟨gs, 0, none⟩) (s.2.length + 1) cap4)) (.slice (some ⟨gs, 0, none⟩) (s.2.length + 1) cap4) (s.1, s.2 ++ [k]) := by
    refine ⟨?_, HD.out.lowC, ?_, ⟨nm, DM, ?_, hm2, hm3⟩, HD.out.lowM⟩
    · rw [heap_setCell_same w4 C 0 _ _ _ hbC]; rfl
    · rw [List.length_append, List.length_singleton, List.map_append, List.map_singleton]
      exact own_block hown4 (fun b hb => Below.heap_setCell _ _ _ _ (fun e' => blk_ne hbC hown4 (by decide) (by rw [hb]; exact congrArg some e')))
    · exact map_keep hm1 ((Below.heap_setCell _ _ _ _ (map_ne hm1 HD.out.blk)).trans hmk)
  have hB4 : Below lo w (w4.setCell ⟨C, 0, none⟩ (.slice (some ⟨gs, 0, none⟩) (s.2.length + 1) cap4)) :=
    (((Below.refl lo w).alloc hlo _).grown hgrow4 (by simp; omega) (fun b e' => (HD.out.row.lt b e').1)).setCell (p := ⟨C, 0, none⟩) HD.out.lowC _
  first | go_end0 | refine bodyPost_ret (results_none rfl _ _ _) rfl ?_
  exact ⟨rfl, ⟨_, hD4⟩, hB4⟩

theorem fold_vis {E : List Eg} {N : Nat} (hE : ∀ e ∈ E, e.to < (N : Int)) (fu : Nat) : ∀ (L : List Nat), (∀ t ∈ L, t < N) → ∀ (s : List Bool × List Nat) (c : Nat), VInv N c s → VInv N c (L.foldl (fun s t => vis E fu t s) s) ∧ unmet (L.foldl (fun s t => vis E fu t s) s).1 ≤ unmet s.1
  | [], _, _, _, h => ⟨h, Nat.le_refl _⟩
  | t :: r, hL, s, c, h => by
    have h1 := vis_inv hE fu t s c (hL t (by simp)) h
    have h2 := fold_vis hE fu r (fun x hx => hL x (by simp [hx])) _ c h1.1
    exact ⟨h2.1, Nat.le_trans h2.2 h1.2⟩

set_option maxHeartbeats 8000000 in
set_option maxRecDepth 100000 in
theorem deepest_any {B g : Nat} {r m f st ve : Value} {S : List Value} {E : List Eg} {N : Nat} (hE : ∀ e ∈ E, e.to < (N : Int)) (hEl : E.length ≤ 1048576) (hN : N ≤ 1048576) : ∀ (fu : Nat) (lo C mk : Nat) (vo : Value) (s : List Bool × List Nat) (k : Nat) (w : World),
    Grb lo B g w r m f st ve S E N → Dst lo C mk w vo s → VInv N 0 s → s.1[k]? = some false → unmet s.1 ≤ fu →
    Calls Tryz.prog 18 #[.int .i64 k, .map (some mk), .func (.func 19) #[.pointer (some ⟨B, 0, none⟩)] #[], .func (.func 20) #[.pointer (some ⟨C, 0, none⟩)] #[]] w fun e w' => e = .returned (.tuple #[]) ∧ (∃ vo', Dst lo C mk w' vo' (vis E fu k s)) ∧ Below lo w w'
  | 0, _, _, _, _, s, k, _, _, _, _, hk, hu => by have := unmet_set s.1 k hk; omega
  | fu + 1, lo, C, mk, vo, s, k, w, hG, hD, hI, hk, hu => by
    have IH := deepest_any (B := B) (g := g) (r := r) (m := m) (f := f) (st := st) (ve := ve) (S := S) hE hEl hN fu
    have hkN : k < N := by
      rcases Nat.lt_or_ge k s.1.length with h1 | h1
      · rw [← hI.1]; exact h1
      · rw [List.getElem?_eq_none h1] at hk; cases hk
    obtain ⟨nm, DM, hm1, hm2, hm3⟩ := hD.map
    have hus := unmet_set s.1 k hk
    have hkey := key3 k (by omega)
    have hmk := hm1.lt
    have hroom : nm < maxLen := by have := hI.1; unfold maxLen; omega
    have HD : Hid (Dst lo C mk w vo s ∧ Marked s.1 DM ∧ nm + unmet s.1 ≤ s.1.length) := ⟨hD, hm2, hm3⟩
    have HG : Hid (Grb lo B g w r m f st ve S E N) := hG
    have HIH : Hid (∀ (lo C mk : Nat) (vo : Value) (s : List Bool × List Nat) (k : Nat) (w : World),
      Grb lo B g w r m f st ve S E N → Dst lo C mk w vo s → VInv N 0 s → s.1[k]? = some false → unmet s.1 ≤ fu →
      Calls Tryz.prog 18 #[.int .i64 k, .map (some mk), .func (.func 19) #[.pointer (some ⟨B, 0, none⟩)] #[], .func (.func 20) #[.pointer (some ⟨C, 0, none⟩)] #[]] w fun e w' => e = .returned (.tuple #[]) ∧ (∃ vo', Dst lo C mk w' vo' (vis E fu k s)) ∧ Below lo w w') := IH
    clear IH hG hD hm2 hm3
    go_enter Tryz.func18, Tryz.ntmps18
    go_wp2_with (at_mapUpdate; refine wpList_mapUpdate_own _ rfl _ _ _ 62 rfl 3 93 law3 Tryz.underlying62 (plainElem (H := Unit) Tryz.prog 93) mk nm DM rfl hm1 hroom _ _ (.int .i64 (k : Int)) rfl rfl hkey _ [] (plainElem_int Tryz.markInt (by decide)) ?_; intro w1 hm4 hgrow1)
    have hD1 : Dst lo C mk w1 vo (s.1.set k true, s.2) := by
      obtain ⟨h1, h2, h3⟩ := HD.out
      refine ⟨?_, h1.lowC, ?_, ⟨nm + 1, _, hm4, mrk_set h2 k (by omega), ?_⟩, h1.lowM⟩
      · rw [grown_keep hgrow1 (Array.getElem?_eq_some_iff.1 h1.blk).1 (fun e => map_ne hm1 h1.blk (Option.some.inj e))]; exact h1.blk
      · exact own_block h1.row (fun b hb => grown_keep hgrow1 (h1.row.lt b hb).2 (fun e => map_row hm1 h1.row (by rw [hb]; exact e.symm)))
      · show nm + 1 + unmet (s.1.set k true) ≤ (s.1.set k true).length
        rw [List.length_set]; omega
    have hB1 : Below lo w w1 := (Below.refl lo w).grown hgrow1 (by have := HD.out.1.lowM; omega) (fun b e' => by have := Option.some.inj e'; have := HD.out.1.lowM; omega)
    have hI1 : VInv N 1 (s.1.set k true, s.2) := ⟨by simp [hI.1], by have := hI.2.1; simp only []; omega, hI.2.2⟩
    have HV : Hid (vis E (fu + 1) k s = (((leadsOf E k).foldl (fun s t => vis E fu t s) (s.1.set k true, s.2)).1, ((leadsOf E k).foldl (fun s t => vis E fu t s) (s.1.set k true, s.2)).2 ++ [k])) := by unfold Hid; rw [vis_eq E fu k s hk, fold_leads]
    have HLT : Hid (∀ t ∈ leadsOf E k, t < N) := leadsOf_lt hE k
    have hLl := leadsOf_len E k
    have hu1 : unmet (s.1.set k true) ≤ fu := by omega
    obtain ⟨s0, hs0⟩ : ∃ s0, s0 = (s.1.set k true, s.2) := ⟨_, rfl⟩
    have hu0 : unmet s0.1 ≤ fu := by rw [hs0]; exact hu1
    rw [← hs0] at hD1 hI1 HV
    obtain ⟨L, hL⟩ : ∃ L, L = leadsOf E k := ⟨_, rfl⟩
    have hlt1 := leadsTo_any (HG.out.below hB1) k hkN
    rw [← hL] at hlt1 HV HLT hLl
    have HFV : Hid (∀ n, VInv N 1 ((L.take n).foldl (fun s t => vis E fu t s) s0) ∧ unmet ((L.take n).foldl (fun s t => vis E fu t s) s0).1 ≤ unmet s0.1) := fun n => fold_vis hE fu (L.take n) (fun t ht => HLT.out t (List.mem_of_mem_take ht)) _ _ hI1
    have HG1 : Hid (Grb lo B g w1 r m f st ve S E N) := HG.out.below hB1
    have HB1 : Hid (Below lo w w1) := hB1
    have hlo1 : lo ≤ w1.heap.size := by have := HD.out.1.lowM; have := hgrow1.size; omega
    have HD1 : Hid (Dst lo C mk w1 vo s0) := hD1
    clear hs0 hL hD1 hI1 hB1 hm1 hm4 hgrow1 HD HG hus hu hk hI hkey hmk hroom hu1 hE
    refine hlt1.mono ?_
    rintro e w2 ⟨vl, rfl, hvl, hb2⟩
    have hD2 := HD1.out.keep (fun b hb => hb2.block b hb)
    have hG2 := HG1.out.below (hb2.mono hlo1)
    have hB2 : Below lo w w2 := HB1.out.trans (hb2.mono hlo1)
    have hlo2 : lo ≤ w2.heap.size := Nat.le_trans hlo1 hb2.size
    obtain ⟨al, cl, rfl, hcl, hcell⟩ := hvl
    have HC : Hid (∀ i (hi : i < L.length), ∃ b o, al = some ⟨b, o, none⟩ ∧ b < lo ∧ w2.cell? ⟨b, o + i, none⟩ = some (numV L[i])) := hcell
    have HG2 : Hid (Grb lo B g w2 r m f st ve S E N) := hG2
    clear hcell hb2 HD1 HG1 HB1 hlt1 hG2
    go_wp2
    go_loopw [16] (fun i wr => ∃ (n : Nat) (vo' : Value), n ≤ L.length ∧ i = .int .i64 n ∧ Dst lo C mk wr vo' ((L.take n).foldl (fun s t => vis E fu t s) s0) ∧ Below lo w2 wr) (fun i _ => L.length - (intOf i).toNat)
    case atStart => exact ⟨0, vo, Nat.zero_le _, rfl, hD2, Below.refl _ _⟩
    case round =>
      obtain ⟨n, vn, hn, rfl, hDn, hBn⟩ := hrel
      obtain ⟨hIn, hUn⟩ := HFV.out n
      obtain ⟨sn, hsn⟩ : ∃ sn, sn = (L.take n).foldl (fun s t => vis E fu t s) s0 := ⟨_, rfl⟩
      rw [← hsn] at hDn hIn hUn
      have HSN : Hid (sn = (L.take n).foldl (fun s t => vis E fu t s) s0) := hsn
      clear hsn
      by_cases hlt : n < L.length
      · have HSS : Hid ((L.take (n + 1)).foldl (fun s t => vis E fu t s) s0 = vis E fu L[n] sn) := by unfold Hid; rw [List.take_succ_eq_append_getElem hlt, List.foldl_append, ← HSN.out]; rfl
        obtain ⟨b, o, rfl, hb, hc⟩ := HC.out n hlt
        have htN : L[n] < N := HLT.out _ (List.getElem_mem hlt)
        have m0 := below_cell0 hBn hb hc
        obtain ⟨t, ht⟩ : ∃ t, t = L[n] := ⟨_, rfl⟩
        rw [← ht] at m0 htN HSS
        unfold numV at m0
        obtain ⟨nm', DM', hm1, hm2, hm3⟩ := hDn.map
        have htl : t < sn.1.length := by rw [hIn.1]; exact htN
        have hkey := key3 t (by omega)
        have hat0 := hm2.2 t htl
        have HDN : Hid (Dst lo C mk wr vn sn) := hDn
        have HGN : Hid (Grb lo B g wr r m f st ve S E N) := HG2.out.below hBn
        clear ht hm2 hm3 hc hDn
        cases hbt : sn.1[t] with
        | true =>
          rw [hbt] at hat0
          have HM : Hid (vis E fu t sn = sn) := vis_met E fu t sn (by rw [List.getElem?_eq_getElem htl, hbt]; simp)
          have HAT : Hid (DM'.atKey (.int .i64 (t : Int)) (.lit (.int .i64 0)) = .lit (.int .i64 1)) := hat0
          clear hat0 hbt
          go_wp2_with (at_lookup; refine wpList_lookup_own_int _ rfl _ _ 62 rfl 3 93 .i64 law3 Tryz.underlying62 Tryz.markInt (zeroMark _) mk nm' DM' rfl hm1 _ (.int .i64 (t : Int)) rfl hkey ?_; intro c hat hwc; rw [HAT.out] at hat; obtain rfl : c = 1 := (by simpa using hat.symm))
          go_roundw
          case rel => exact ⟨n + 1, vn, by omega, by go_num, by rw [HSS.out, HM.out]; exact HDN.out, hBn⟩
          case measure => simp [intOf]; omega
        | false =>
          rw [hbt] at hat0
          have HAT : Hid (DM'.atKey (.int .i64 (t : Int)) (.lit (.int .i64 0)) = .lit (.int .i64 0)) := hat0
          have hrec := HIH.out lo C mk vn sn t wr HGN.out HDN.out ⟨hIn.1, by have := hIn.2.1; omega, hIn.2.2⟩ (by rw [List.getElem?_eq_getElem htl, hbt]) (by omega)
          clear hat0 hbt
          go_wp2_with (first | (at_lookup; refine wpList_lookup_own_int _ rfl _ _ 62 rfl 3 93 .i64 law3 Tryz.underlying62 Tryz.markInt (zeroMark _) mk nm' DM' rfl hm1 _ (.int .i64 (t : Int)) rfl hkey ?_; intro c hat hwc; rw [HAT.out] at hat; obtain rfl : c = 0 := (by simpa using hat.symm)))
          refine hrec.mono ?_
          rintro e w4 ⟨rfl, ⟨vo4, hD4⟩, hb4⟩
          go_wp2
          go_roundw
          case rel => exact ⟨n + 1, vo4, by omega, by go_num, by rw [HSS.out]; exact hD4, hBn.trans hb4⟩
          case measure => simp [intOf]; omega
      · have HK : Hid (L.take n = L) := List.take_of_length_le (by omega)
        rw [HK.out] at HSN
        have hadd := add_any hDn k (by have := hIn.2.1; omega)
        go_wp2_with fail
        refine hadd.mono ?_
        rintro e w4 ⟨rfl, ⟨vo4, hD4⟩, hb4⟩
        go_wp2
        first | go_end0 | refine bodyPost_ret (results_none rfl _ _ _) rfl ?_
        exact ⟨rfl, ⟨vo4, by rw [HV.out, ← HSN.out]; exact hD4⟩, hB2.trans (hBn.trans hb4)⟩
end Go.Proofs.YtimgafblpmjajaaGreat
namespace Go.Proofs
open Go.Shelf
def Tryz.lays112_ren : Go.Shelf.Ren := ⟨fun | 112 => 72 | n => n, fun | 28 => 25 | n => n, fun n => n⟩
theorem Tryz.lays112 : Go.Proofs.Lays.n112 Tryz.prog Tryz.lays112_ren := {
  mixed := by kernel_rfl
  f112 := Tryz.func72.trans (congrArg some (by kernel_rfl))
  t0 := Tryz.underlying0
  a0 := Tryz.isAgg0
  z0 := Tryz.sizeOf0
  v0 := Tryz.zeroValue0
  t3 := Tryz.underlying3
  a3 := Tryz.isAgg3
  z3 := Tryz.sizeOf3
  v3 := Tryz.zeroValue3
  t4 := Tryz.underlying4
  a4 := Tryz.isAgg4
  z4 := Tryz.sizeOf4
  v4 := Tryz.zeroValue4
  t28 := Tryz.underlying25
  a28 := Tryz.isAgg25
  z28 := Tryz.sizeOf25
  v28 := Tryz.zeroValue25 }
end Go.Proofs
namespace Go.Proofs.YtimgafblpmjajaaGreat
open Go.RowKit Go.Maps Go.Sort

theorem numV_map (L : List Nat) : L.map numV = (L.map (fun n : Nat => (n : Int))).map (Value.int .i64) := by simp [numV]
theorem rev_any {base : Nat} {w : World} {v : Value} {L : List Nat} (h : w.ownsRow base 3 1 v L.length (L.map numV)) (hL : L.length ≤ 1048576) :
    Calls Tryz.prog 72 #[v] w fun e w' => e = .returned (.tuple #[]) ∧ w'.ownsRow base 3 1 v L.length (L.reverse.map numV) ∧ w.grownBy w' v.ownBlock := by
  rcases h.2 with ⟨hv, hn⟩ | ⟨g, cap, cur, hv, hg, hh, hc, hm, hs, ht⟩
  · have hL0 : L = [] := List.eq_nil_of_length_eq_zero hn
    subst hL0
    subst hv
    refine (Any.slices_Reverse_int_empty Tryz.lays112 none 0 w).mono ?_
    rintro e w' ⟨rfl, rfl⟩
    exact ⟨rfl, World.ownsRow_nil _ _ _ _, World.grownBy.refl _ _⟩
  · subst hv
    have hlen : (L.map (fun n : Nat => (n : Int))).length = L.length := by simp
    have hH : Holds (Value.int .i64) w g 0 (L.map (fun n : Nat => (n : Int))).toArray := holds_of_blockI hh (by rw [hlen, ← numV_map]; simpa using ht)
    have hc' := Any.slices_Reverse_int Tryz.lays112 g 0 cap (L.map (fun n : Nat => (n : Int))) w hH (by rw [hlen]; omega)
    rw [hlen] at hc'
    refine Calls.mono hc' ?_
    rintro e w' ⟨rfl, n, rfl⟩
    have ho := ownsRow_sortedI (n := n) (os := #[]) (base := base) (cap := cap) (ss := L.map (fun n : Nat => (n : Int))) (ts := (L.map (fun n : Nat => (n : Int))).reverse) (by simp) hg hh (by rw [hlen]; exact hc) hm hs
    have hgr := grownBy_sortedI (w := w) (g := g) (n := n) (os := #[]) (L.map (fun n : Nat => (n : Int))).reverse.toArray
    rw [grow_empty] at ho hgr
    rw [hlen] at ho
    refine ⟨rfl, ?_, hgr⟩
    rw [numV_map, List.map_reverse (l := L)]
    exact ho

/-- A way, from its last place back. -/
def Wy (lo : Nat) (w : World) : Value → List Nat → Prop
  | p, [] => p = .pointer none
  | p, x :: r => ∃ b q, p = .pointer (some ⟨b, 0, none⟩) ∧ lo ≤ b ∧ w.heap[b]? = some (.cells #[numV x, q] 132 (0, 0)) ∧ Wy lo w q r
theorem Wy.keep {lo : Nat} {w w' : World} (h : ∀ (b : Nat) (cs : Array Value) (fr : Nat × Nat), w.heap[b]? = some (.cells cs 132 fr) → w'.heap[b]? = w.heap[b]?) : ∀ {c : List Nat} {p : Value}, Wy lo w p c → Wy lo w' p c
  | [], _, hw => hw
  | x :: r, p, hw => by
    obtain ⟨b, q, h1, h2, h3, h4⟩ := hw
    exact ⟨b, q, h1, h2, (h _ _ _ h3).trans h3, Wy.keep h h4⟩

set_option maxHeartbeats 4000000 in
set_option maxRecDepth 100000 in
theorem places_any {lo : Nat} {w : World} {p : Value} {c : List Nat} (h : Wy lo w p c) (hc : c.length ≤ 1048575) :
    Calls Tryz.prog 60 #[p] w fun e w' => ∃ v', e = .returned v' ∧ w'.ownsRow w.heap.size 3 1 v' c.length (c.reverse.map numV) ∧ Below w.heap.size w w' := by
  obtain ⟨i3, hi3, jz0, jz1, jz2⟩ := info_parts Tryz.info3
  have hp : ∃ a, p = .pointer a := by
    cases c with
    | nil => exact ⟨none, h⟩
    | cons x r => obtain ⟨b, q, h1, _⟩ := h; exact ⟨_, h1⟩
  obtain ⟨a, rfl⟩ := hp
  have HW : Hid (Wy lo w (.pointer a) c) := h
  clear h
  go_enter Tryz.func60, Tryz.ntmps60
  go_wp2
  go_loopw [0, 3] (fun pv vo wr => ∃ n : Nat, n ≤ c.length ∧ Wy lo w pv (c.drop n) ∧ wr.ownsRow w.heap.size 3 1 vo n ((c.take n).map numV) ∧ Below w.heap.size w wr) (fun _ vo _ => match vo with | .slice _ n _ => c.length - n | _ => 0)
  case atStart => exact ⟨0, Nat.zero_le _, HW.out, World.ownsRow_nil _ _ _ _, Below.refl _ _⟩
  case round =>
    obtain ⟨n, hn, hwy, hown, hB⟩ := hrel
    obtain ⟨ao, co, rfl, hco, _⟩ := row_form hown
    have hsz := hB.size
    by_cases hlt : n < c.length
    · rw [List.drop_eq_getElem_cons hlt] at hwy
      obtain ⟨b, q, rfl, hlb, hblk, hq⟩ := hwy
      have hbl : b < w.heap.size := (Array.getElem?_eq_some_iff.1 hblk).1
      have hblr := (hB.block b hbl).trans hblk
      have m0 : wr.cell? ⟨b, 0, none⟩ = some (numV c[n]) := by simp [World.cell?, hblr]
      obtain ⟨x, hx⟩ : ∃ x, x = c[n] := ⟨_, rfl⟩
      have hTS : (c.take (n + 1)).map numV = (c.take n).map numV ++ [.int .i64 (x : Int)] := by rw [List.take_succ_eq_append_getElem hlt, List.map_append, List.map_singleton, hx]; rfl
      rw [← hx] at m0
      unfold numV at m0
      have HT : Hid ((c.take (n + 1)).map numV = (c.take n).map numV ++ [.int .i64 (x : Int)]) := hTS
      have HQ : Hid (Wy lo w q (c.drop (n + 1)) ∧ w.heap[b]? = some (.cells #[numV c[n], q] 132 (0, 0))) := ⟨hq, hblk⟩
      have hqp : ∃ a', q = .pointer a' := by
        cases hd : c.drop (n + 1) with
        | nil => rw [hd] at hq; exact ⟨none, hq⟩
        | cons y r => rw [hd] at hq; obtain ⟨b', q', h1, _⟩ := hq; exact ⟨_, h1⟩
      obtain ⟨aq, rfl⟩ := hqp
      clear hTS hx hq hblk hblr
      go_wp2_with (at_builtin; refine wpList_app1 _ rfl _ _ 25 rfl w.heap.size 3 i3 (.int .i64 0) 8 Tryz.underlying25 hi3 jz0 jz1 jz2 rfl _ _ _ rfl (hown.alloc _) ⟨_, 0, none⟩ 1 (.int .i64 (x : Int)) rfl (cell_one_new _ _ _) (by simp [Value.oneCell']) (by unfold maxLen; omega) (by omega) (by simp; omega) ?_; intro v4 w4 h4 hg4 hl4; have hB4 : Below w.heap.size w w4 := ((hB.alloc hsz _).grown hg4 (by simp; omega) (fun b e' => (hown.lt b e').1)); have m4 : w4.cell? ⟨b, 1, none⟩ = some (.pointer aq) := (by have h5 := (hB4.block b hbl).trans HQ.out.2; simp [World.cell?, h5]))
      obtain ⟨a4, c4, rfl, _, _⟩ := row_form h4
      go_roundw
      case rel => exact ⟨n + 1, by omega, HQ.out.1, by rw [HT.out]; exact h4, hB4⟩
      case measure => simp; omega
    · obtain rfl : n = c.length := by omega
      rw [List.drop_length] at hwy
      rw [List.take_length] at hown
      have hpv : _ = Value.pointer none := hwy
      subst hpv
      have hrv := rev_any hown (by omega)
      go_wp2_with fail
      refine hrv.mono ?_
      rintro e w4 ⟨rfl, h4, hg4⟩
      have hB4 : Below w.heap.size w w4 := hB.grown hg4 (by omega) (fun b e' => (hown.lt b e').1)
      go_wp2
      go_ret
      exact ⟨_, rfl, h4, hB4⟩
end Go.Proofs.YtimgafblpmjajaaGreat
namespace Go.Proofs.YtimgafblpmjajaaGreat
open Go.RowKit Go.Maps

theorem Tryz.infoWayp : (Tryz.prog.info? 130).map (fun i => (i.zero, i.size, i.bytes)) = some (some (.pointer none), 1, 8) := by kernel_rfl
/-- What waits in a queue. -/
def Qu (lo : Nat) (w : World) (v : Value) (ps : List Value) : Prop := ∃ a c, v = .slice a ps.length c ∧ ps.length ≤ c ∧ c ≤ maxLen ∧ (a = none → c = 0) ∧ (0 < c → ∃ b o cur, a = some ⟨b, o, none⟩ ∧ lo ≤ b ∧ w.heap[b]? = some (.cells cur 130 (0, 0)) ∧ o + c ≤ cur.size ∧ ∀ j (hj : j < ps.length), cur[o + j]? = some ps[j])
/-- All that is no queue and no row of what waits stands. -/
def Kq (w w' : World) : Prop := ∀ (b : Nat), b < w.heap.size → (∀ cs t fr, w.heap[b]? = some (.cells cs t fr) → t ≠ 128 ∧ t ≠ 130) → w'.heap[b]? = w.heap[b]?
theorem Qu.keep {lo : Nat} {w w' : World} {v : Value} {ps : List Value} (h : Qu lo w v ps) (hk : ∀ (b : Nat) (cs : Array Value) (fr : Nat × Nat), w.heap[b]? = some (.cells cs 130 fr) → w'.heap[b]? = w.heap[b]?) : Qu lo w' v ps := by
  obtain ⟨a, c, h1, h2, h3, h4, h5⟩ := h
  exact ⟨a, c, h1, h2, h3, h4, fun hc => by obtain ⟨b, o, cur, e1, e2, e3, e4⟩ := h5 hc; exact ⟨b, o, cur, e1, e2, (hk _ _ _ e3).trans e3, e4⟩⟩

set_option maxHeartbeats 4000000 in
set_option maxRecDepth 100000 in
theorem qtake_none {lo Q : Nat} {w : World} {v : Value} (hb : w.heap[Q]? = some (.cells #[v] 128 (0, 0))) (h : Qu lo w v []) :
    Calls Tryz.prog 59 #[.pointer (some ⟨Q, 0, none⟩)] w fun e w' => e = .returned (.tuple #[.pointer none, .bool false]) ∧ w' = w := by
  obtain ⟨a, c, rfl, _, _, _, _⟩ := h
  have c0 : w.cell? ⟨Q, 0, none⟩ = some (.slice a 0 c) := by simp [World.cell?, hb]
  clear hb
  go_enter Tryz.func59, Tryz.ntmps59
  go_wp2
  exact bodyPost_ret (v := .tuple #[.pointer none, .bool false]) (by simp [results, Tryz.results59, go_sem]) rfl ⟨rfl, rfl⟩

set_option maxHeartbeats 4000000 in
set_option maxRecDepth 100000 in
theorem qtake_some {lo Q : Nat} {w : World} {v : Value} {pa : Option Addr} {ps : List Value} (hlo : lo ≤ Q) (hb : w.heap[Q]? = some (.cells #[v] 128 (0, 0))) (h : Qu lo w v (.pointer pa :: ps)) (hl : ps.length ≤ 1048576) :
    Calls Tryz.prog 59 #[.pointer (some ⟨Q, 0, none⟩)] w fun e w' => e = .returned (.tuple #[.pointer pa, .bool true]) ∧ (∃ v', w'.heap[Q]? = some (.cells #[v'] 128 (0, 0)) ∧ Qu lo w' v' ps) ∧ Below lo w w' ∧ Kq w w' := by
  obtain ⟨a, c, rfl, hc, hcm, hz, h5⟩ := h
  have hcp : 0 < c := by simp at hc; omega
  obtain ⟨b, o, cur, rfl, hlb, hblk, hoc, hcell⟩ := h5 hcp
  have c0 : w.cell? ⟨Q, 0, none⟩ = some (.slice (some ⟨b, o, none⟩) (.pointer pa :: ps).length c) := by simp [World.cell?, hb]
  have f0 : w.frozen? ⟨Q, 0, none⟩ = false := by simp [World.frozen?, hb]
  have hp : w.cell? ⟨b, o, none⟩ = some (.pointer pa) := by have h0 := hcell 0 (by simp); simp at h0; simp [World.cell?, hblk, h0]
  simp only [List.length_cons] at c0 hc
  have HB : Hid (w.heap[Q]? = some (.cells #[.slice (some ⟨b, o, none⟩) (ps.length + 1) c] 128 (0, 0)) ∧ w.heap[b]? = some (.cells cur 130 (0, 0)) ∧ ∀ j (hj : j < (.pointer pa :: ps).length), cur[o + j]? = some ((Value.pointer pa :: ps)[j])) := ⟨hb, hblk, hcell⟩
  clear hb hblk hcell h5 hz
  go_enter Tryz.func59, Tryz.ntmps59
  have hne : ((ps.length : Int) + 1 == 0) = false := by rw [beq_eq_false_iff_ne]; omega
  have hbQ : b ≠ Q := fun e => by have h1 := HB.out.1; rw [← e, HB.out.2.1] at h1; simp at h1
  have HK : Hid (∀ u, Kq w (w.setCell ⟨Q, 0, none⟩ u) ∧ Below lo w (w.setCell ⟨Q, 0, none⟩ u) ∧ (w.setCell ⟨Q, 0, none⟩ u).heap[Q]? = some (.cells #[u] 128 (0, 0)) ∧ (w.setCell ⟨Q, 0, none⟩ u).heap[b]? = some (.cells cur 130 (0, 0))) := fun u =>
    ⟨fun b' _ ht => Below.heap_setCell _ _ _ _ (fun e => by have e' : b' = Q := e; subst e'; exact (ht _ _ _ HB.out.1).1 rfl), (Below.refl lo w).setCell (p := ⟨Q, 0, none⟩) hlo u, by rw [heap_setCell_same w Q 0 _ _ _ HB.out.1]; rfl, (Below.heap_setCell _ _ _ _ hbQ).trans HB.out.2.1⟩
  by_cases hc1 : c = 1
  · subst hc1
    have hps : ps = [] := List.eq_nil_of_length_eq_zero (by omega)
    subst hps
    go_wp2
    exact bodyPost_ret (v := .tuple #[.pointer pa, .bool true]) (by simp [results, Tryz.results59, go_sem]) rfl ⟨rfl, ⟨_, (HK.out _).2.2.1, ⟨_, 0, rfl, by simp, by unfold maxLen; omega, fun h => (by cases h), fun h => absurd h (by omega)⟩⟩, (HK.out _).2.1, (HK.out _).1⟩
  · go_wp2
    refine bodyPost_ret (v := .tuple #[.pointer pa, .bool true]) (by simp [results, Tryz.results59, go_sem]) rfl ⟨rfl, ⟨_, (HK.out _).2.2.1, ⟨_, c - 1, rfl, by omega, by omega, fun h => (by cases h), fun _ => ⟨b, o + 1, cur, rfl, hlb, (HK.out _).2.2.2, by omega, fun j hj => ?_⟩⟩⟩, (HK.out _).2.1, (HK.out _).1⟩
    have h1 := HB.out.2.2 (j + 1) (by simpa using hj)
    rw [show o + 1 + j = o + (j + 1) by omega, h1]; rfl

set_option maxHeartbeats 4000000 in
set_option maxRecDepth 100000 in
theorem qput_any {lo Q : Nat} {w : World} {v : Value} {pa : Option Addr} {ps : List Value} (hlo : lo ≤ Q) (hlw : lo ≤ w.heap.size) (hb : w.heap[Q]? = some (.cells #[v] 128 (0, 0))) (h : Qu lo w v ps) (hl : ps.length ≤ 1048576) :
    Calls Tryz.prog 58 #[.pointer (some ⟨Q, 0, none⟩), .pointer pa] w fun e w' => e = .returned (.tuple #[]) ∧ (∃ v', w'.heap[Q]? = some (.cells #[v'] 128 (0, 0)) ∧ Qu lo w' v' (ps ++ [.pointer pa])) ∧ Below lo w w' ∧ Kq w w' := by
  obtain ⟨iw, hiw, wz0, wz1, wz2⟩ := info_parts Tryz.infoWayp
  obtain ⟨a, c, rfl, hc, hcm, hz, h5⟩ := h
  have hQl : Q < w.heap.size := (Array.getElem?_eq_some_iff.1 hb).1
  have c0 : w.cell? ⟨Q, 0, none⟩ = some (.slice a ps.length c) := by simp [World.cell?, hb]
  have c0' : ∀ o', (w.alloc o').cell? ⟨Q, 0, none⟩ = some (.slice a ps.length c) := fun o' => below_cell0 ((Below.refl w.heap.size w).alloc (Nat.le_refl _) o') hQl c0
  have HB : Hid (w.heap[Q]? = some (.cells #[.slice a ps.length c] 128 (0, 0))) := hb
  have HN : Hid (∀ j u, [Value.pointer pa][j]? = some u → (w.alloc (.cells #[.pointer pa] 130)).cell? ((⟨w.heap.size, 0, none⟩ : Addr).add j) = some u) := cell_one_new w _ 130
  by_cases hroom : ps.length + 1 ≤ c
  · obtain ⟨b, o, cur, rfl, hlb, hblk, hoc, hcell⟩ := h5 (by omega)
    have hbQ : b ≠ Q := fun e => by rw [e, hb] at hblk; simp at hblk
    have hbl : b < w.heap.size := (Array.getElem?_eq_some_iff.1 hblk).1
    have hbA : (w.alloc (.cells #[.pointer pa] 130)).heap[b]? = some (.cells cur 130 (0, 0)) := (old_blk w _ hbl).trans hblk
    have HO : Hid (∀ j u, ps[j]? = some u → (w.alloc (.cells #[.pointer pa] 130)).cell? ⟨b, o + j, none⟩ = some u) := fun j u hu => by
      obtain ⟨hj, rfl⟩ := List.getElem?_eq_some_iff.1 hu
      simp [World.cell?, hbA, hcell j hj]
    have HSP : Hid (ps.length + 1 ≤ c → ∀ j, j < [Value.pointer pa].length → ((w.alloc (.cells #[.pointer pa] 130)).cell? ⟨b, o + ps.length * 1 + j, none⟩).isSome = true ∧ (w.alloc (.cells #[.pointer pa] 130)).frozen? ⟨b, o + ps.length * 1 + j, none⟩ = false) := fun _ j hj => by
      have hj0 : j = 0 := by simp at hj; omega
      subst hj0
      simp [World.cell?, World.frozen?, hbA]; omega
    obtain ⟨W5, hW5⟩ : ∃ W5, W5 = (w.alloc (.cells #[.pointer pa] 130)).setCell ⟨b, o + ps.length, none⟩ (.pointer pa) := ⟨_, rfl⟩
    have e5 : (w.alloc (.cells #[.pointer pa] 130)).setCells b (o + ps.length * 1) [.pointer pa] = W5 := by rw [hW5]; simp [World.setCells]
    have q5 : W5.heap[Q]? = some (.cells #[.slice (some ⟨b, o, none⟩) ps.length c] 128 (0, 0)) := by rw [hW5, Below.heap_setCell _ _ _ _ (by show Q ≠ b; exact Ne.symm hbQ), old_blk w _ hQl]; exact hb
    have b5 : W5.heap[b]? = some (.cells (cur.setIfInBounds (o + ps.length) (.pointer pa)) 130 (0, 0)) := by rw [hW5]; exact heap_setCell_same _ b (o + ps.length) _ _ _ hbA
    have k5 : ∀ x, x < w.heap.size → x ≠ b → W5.heap[x]? = w.heap[x]? := fun x hx hne => by rw [hW5, Below.heap_setCell _ _ _ _ hne, old_blk w _ hx]
    have hB5 : Below lo w W5 := by rw [hW5]; exact ((Below.refl lo w).alloc hlw _).setCell (p := ⟨b, o + ps.length, none⟩) hlb _
    have u0 : W5.cell? ⟨Q, 0, none⟩ = some (.slice (some ⟨b, o, none⟩) ps.length c) := by simp [World.cell?, q5]
    have uf : W5.frozen? ⟨Q, 0, none⟩ = false := by simp [World.frozen?, q5]
    have HX : Hid (b ≠ Q ∧ w.heap[b]? = some (.cells cur 130 (0, 0)) ∧ (∀ j (hj : j < ps.length), cur[o + j]? = some ps[j]) ∧ W5.heap[Q]? = some (.cells #[.slice (some ⟨b, o, none⟩) ps.length c] 128 (0, 0)) ∧ W5.heap[b]? = some (.cells (cur.setIfInBounds (o + ps.length) (.pointer pa)) 130 (0, 0)) ∧ (∀ x, x < w.heap.size → x ≠ b → W5.heap[x]? = w.heap[x]?) ∧ Below lo w W5) := ⟨hbQ, hblk, hcell, q5, b5, k5, hB5⟩
    have HE5 : Hid ((w.alloc (.cells #[.pointer pa] 130)).setCells b (o + ps.length * 1) [.pointer pa] = W5) := e5
    clear h5 hb e5 hW5 hblk hcell q5 b5 k5 hB5 hbA hbQ
    go_enter Tryz.func58, Tryz.ntmps58
    go_wp2_with (at_builtin; refine wpList_append_arg _ rfl _ _ 126 rfl 130 iw _ 1 8 Tryz.underlying126 hiw wz0 wz1 wz2 rfl (by decide) b o ps.length c ps rfl (by simp) HO.out ⟨w.heap.size, 0, none⟩ 1 1 [.pointer pa] rfl rfl HN.out (by intro u hu; simp at hu; subst hu; rfl) HSP.out (by unfold maxLen; omega) (by omega) ?_ (fun h => absurd h (by omega)); intro hrm; rw [HE5.out])
    obtain ⟨hbQ, hblk, hcell, q5, b5, k5, hB5⟩ := HX.out
    first | go_end0 | refine bodyPost_ret (results_none rfl _ _ _) rfl ?_
    refine ⟨rfl, ⟨_, by rw [heap_setCell_same W5 Q 0 _ _ _ q5]; rfl, ⟨_, c, by rw [List.length_append, List.length_singleton], by rw [List.length_append, List.length_singleton]; omega, hcm, fun h => (by cases h), fun _ => ⟨b, o, _, rfl, hlb, (Below.heap_setCell _ _ _ _ hbQ).trans b5, by simp; omega, fun j hj => ?_⟩⟩⟩, hB5.setCell (p := ⟨Q, 0, none⟩) hlo _, fun x hx ht => ?_⟩
    · rw [Array.getElem?_setIfInBounds]
      by_cases hjl : j < ps.length
      · rw [if_neg (by omega), List.getElem_append_left hjl]; exact hcell j hjl
      · have hje : j = ps.length := by simp at hj; omega
        subst hje
        rw [if_pos rfl, if_pos (by omega)]; simp
    · have h1 : x ≠ Q := fun e => by subst e; exact (ht _ _ _ HB.out).1 rfl
      have h2 : x ≠ b := fun e => by subst e; exact (ht _ _ _ hblk).2 rfl
      exact (Below.heap_setCell _ _ _ _ h1).trans (k5 x hx h2)
  · have HNO : Hid (a = none → ps.length = 0 ∧ c = 0) := fun h => by have := hz h; exact ⟨by omega, this⟩
    have HOL : Hid (∀ b, a = some b → ∀ j u, ps[j]? = some u → (w.alloc (.cells #[.pointer pa] 130)).cell? (b.add j) = some u) := fun b0 ha j u hu => by
      obtain ⟨hj, rfl⟩ := List.getElem?_eq_some_iff.1 hu
      obtain ⟨b, o, cur, rfl, hlb, hblk, hoc, hcell⟩ := h5 (by omega)
      cases ha
      have hbA : (w.alloc (.cells #[.pointer pa] 130)).heap[b]? = some (.cells cur 130 (0, 0)) := (old_blk w _ (Array.getElem?_eq_some_iff.1 hblk).1).trans hblk
      rw [Addr.add_lit]
      simp [World.cell?, hbA, hcell j hj]
    clear h5 hb hz
    go_enter Tryz.func58, Tryz.ntmps58
    go_wp2_with (at_builtin; refine wpList_append_grows _ rfl _ _ 126 rfl 130 iw _ 1 8 Tryz.underlying126 hiw wz0 wz1 wz2 rfl (by decide) a ps.length c ps rfl HNO.out (by simp) HOL.out ⟨w.heap.size, 0, none⟩ 1 1 [.pointer pa] rfl rfl HN.out (by intro u hu; simp at hu; subst hu; rfl) (by omega) (by unfold maxLen; omega) (by omega) ?_; intro v' w5 hown5 hg5; obtain ⟨g5, c5, rfl, hlg0, hgl0⟩ := hown5.form (by omega); have q5 : w5.heap[Q]? = some (.cells #[.slice a ps.length c] 128 (0, 0)) := (grown_heap hg5 Q (by simp; omega)).trans ((old_blk w _ hQl).trans HB.out); have u0 : w5.cell? ⟨Q, 0, none⟩ = some (.slice a ps.length c) := (by simp [World.cell?, q5]); have uf : w5.frozen? ⟨Q, 0, none⟩ = false := (by simp [World.frozen?, q5]))
    obtain ⟨_, ⟨_, h0⟩ | ⟨g5', c5', cur5, hv5, hlg, hbg, hcc, hcm5, hcs, htk⟩⟩ := hown5
    · omega
    · cases hv5
      have hgl : w.heap.size < g5 ∨ w.heap.size ≤ g5 := .inr (by simp at hlg; omega)
      have hgQ : g5 ≠ Q := by simp at hlg; omega
      first | go_end0 | refine bodyPost_ret (results_none rfl _ _ _) rfl ?_
      refine ⟨rfl, ⟨_, by rw [heap_setCell_same w5 Q 0 _ _ _ q5]; rfl, ⟨_, c5, by rw [List.length_append, List.length_singleton], by rw [List.length_append, List.length_singleton]; omega, hcm5, fun h => (by cases h), fun _ => ⟨g5, 0, cur5, rfl, by simp at hlg; omega, (Below.heap_setCell _ _ _ _ hgQ).trans hbg, by omega, fun j hj => ?_⟩⟩⟩, (((Below.refl lo w).alloc hlw _).grown hg5 (by simp; omega) (fun k hk => by cases hk)).setCell (p := ⟨Q, 0, none⟩) hlo _, fun x hx ht => ?_⟩
      · have hjl : j < ps.length + 1 := by simpa using hj
        have h1 : (cur5.toList.take ((ps.length + 1) * 1))[j]? = (ps ++ [Value.pointer pa])[j]? := by rw [htk]
        rw [List.getElem?_take_of_lt (by omega), List.getElem?_eq_getElem hj, Array.getElem?_toList] at h1
        rw [Nat.zero_add]; exact h1
      · have h1 : x ≠ Q := fun e => by subst e; exact (ht _ _ _ HB.out).1 rfl
        exact (Below.heap_setCell _ _ _ _ h1).trans ((grown_heap hg5 x (by simp; omega)).trans (old_blk w _ hx))
end Go.Proofs.YtimgafblpmjajaaGreat
namespace Go.Proofs.YtimgafblpmjajaaGreat
open Go.RowKit Go.Maps

set_option maxHeartbeats 2000000 in
set_option maxRecDepth 100000 in
theorem watch_no {Cb k t : Nat} {w : World} {vr p : Value} (hb : w.heap[Cb]? = some (.cells #[numV k, vr] 97 (0, 0))) (ht : t ≠ k) (hp : ∃ a, p = .pointer a) :
    Calls Tryz.prog 40 #[.pointer (some ⟨Cb, 0, none⟩), p, .int .i64 (t : Int)] w fun e w' => e = .returned (.int .i64 0) ∧ w' = w := by
  obtain ⟨a, rfl⟩ := hp
  have c0 : w.cell? ⟨Cb, 0, none⟩ = some (.int .i64 (k : Int)) := by simp [World.cell?, hb, numV]
  have hne : ((t : Int) != (k : Int)) = true := by rw [bne_iff_ne]; omega
  clear hb
  go_enter Tryz.func40, Tryz.ntmps40
  go_wp2
  go_ret
  exact ⟨rfl, rfl⟩

set_option maxHeartbeats 2000000 in
set_option maxRecDepth 100000 in
theorem watch_yes {lo Cb k : Nat} {w : World} {vr p : Value} {c : List Nat} (hlo : lo ≤ Cb) (hlw : lo ≤ w.heap.size) (hb : w.heap[Cb]? = some (.cells #[numV k, vr] 97 (0, 0))) (h : Wy lo w p c) (hc : c.length ≤ 1048575) :
    Calls Tryz.prog 40 #[.pointer (some ⟨Cb, 0, none⟩), p, .int .i64 (k : Int)] w fun e w' => e = .returned (.int .i64 1) ∧ (∃ v', w'.heap[Cb]? = some (.cells #[numV k, v'] 97 (0, 0)) ∧ w'.ownsRow lo 3 1 v' c.length (c.reverse.map numV)) ∧ Below lo w w' := by
  have hp : ∃ a, p = .pointer a := by
    cases c with
    | nil => exact ⟨none, h⟩
    | cons x r => obtain ⟨b, q, h1, _⟩ := h; exact ⟨_, h1⟩
  have hpl := places_any h hc
  obtain ⟨a, rfl⟩ := hp
  have hCl : Cb < w.heap.size := (Array.getElem?_eq_some_iff.1 hb).1
  have c0 : w.cell? ⟨Cb, 0, none⟩ = some (.int .i64 (k : Int)) := by simp [World.cell?, hb, numV]
  have HB : Hid (w.heap[Cb]? = some (.cells #[numV k, vr] 97 (0, 0))) := hb
  clear hb h
  go_enter Tryz.func40, Tryz.ntmps40
  go_wp2_with fail
  refine hpl.mono ?_
  rintro e w1 ⟨v1, rfl, h1, hb1⟩
  have hb1' := (hb1.block Cb hCl).trans HB.out
  have c1 : w1.cell? ⟨Cb, 1, none⟩ = some vr := by simp [World.cell?, hb1']
  have f1 : w1.frozen? ⟨Cb, 1, none⟩ = false := by simp [World.frozen?, hb1']
  obtain ⟨a1, k1, rfl, _, _⟩ := row_form h1
  go_wp2
  go_ret
  refine ⟨rfl, ⟨_, by rw [heap_setCell_same w1 Cb 1 _ _ _ hb1']; rfl, ?_⟩, (hb1.mono hlw).setCell (p := ⟨Cb, 1, none⟩) hlo _⟩
  exact own_block (own_mono h1 hlw) (fun b hb => Below.heap_setCell _ _ _ _ (fun e' => blk_ne hb1' h1 (by decide) (by rw [hb]; exact congrArg some e')))

/-- The marks of a search: the first place, and those from which a way back is known. -/
def Mks (k : Nat) (s : List Int) (D : DataW Unit) : Prop := IsMap D ∧ ∀ t (ht : t < s.length), D.atKey (.int .i64 (t : Int)) (.lit (.int .i64 0)) = .lit (.int .i64 (if t = k ∨ ¬ s[t] < 0 then 1 else 0))
theorem mks_start (k N : Nat) (hk : k ≤ 1048576) {D : DataW Unit} (hD : IsMap D) (h0 : ∀ t : Nat, D.atKey (.int .i64 (t : Int)) (.lit (.int .i64 0)) = .lit (.int .i64 0)) : Mks k (List.replicate N (-1)) (D.put (.int .i64 (k : Int)) (.lit (.int .i64 1))) := by
  refine ⟨hD.put _ _, fun t ht => ?_⟩
  by_cases he : t = k
  · subst he
    rw [atKey_put_same hD (law3.key (key3 t hk)), if_pos (.inl rfl)]
  · have hne : (Lit.int IntKind.i64 (t : Int)) ≠ .int .i64 (k : Int) := fun e => he (by injection e with e1 e2; omega)
    rw [atKey_put_other hne, h0 t, if_neg (by simp [he])]
theorem mks_put {k t : Nat} {x : Nat} {s : List Int} {D : DataW Unit} (h : Mks k s D) (ht : t ≤ 1048576) : Mks k (s.set t (x : Int)) (D.put (.int .i64 (t : Int)) (.lit (.int .i64 1))) := by
  refine ⟨h.1.put _ _, fun j hj => ?_⟩
  have hj' : j < s.length := by simpa using hj
  by_cases he : j = t
  · subst he
    rw [atKey_put_same h.1 (law3.key (key3 j ht)), if_pos (.inr (by simp))]
  · have hne : (Lit.int IntKind.i64 (j : Int)) ≠ .int .i64 (t : Int) := fun e => he (by injection e with e1 e2; omega)
    rw [atKey_put_other hne, h.2 j hj']
    simp only [List.getElem_set_ne (Ne.symm he)]

/-- A search of ways: what waits, what was met. -/
structure Nst (lo Q mk Cb k N i : Nat) (w : World) (s : List Int × List Nat) (C : List (List Nat)) (ps : List (Option Addr)) : Prop where
  que : ∃ v, w.heap[Q]? = some (.cells #[v] 128 (0, 0)) ∧ Qu lo w v ((ps.drop i).map Value.pointer)
  len : ps.length = s.2.length
  ways : ∀ (j : Nat) (pa : Option Addr) (c : List Nat), ps[j]? = some pa → C[j]? = some c → Wy lo w (.pointer pa) c
  map : ∃ n D, w.ownsMap Tryz.prog 3 (plainElem Tryz.prog 93) mk n D ∧ Mks k s.1 D ∧ n ≤ s.2.length
  clo : w.heap[Cb]? = some (.cells #[numV k, .slice none 0 0] 97 (0, 0))
  ri : RI N k s
  cs : Cs k s C
theorem Nst.keep {lo Q mk Cb k N i : Nat} {w w' : World} {s : List Int × List Nat} {C : List (List Nat)} {ps : List (Option Addr)} (h : Nst lo Q mk Cb k N i w s C ps) (hb : ∀ b, b < w.heap.size → w'.heap[b]? = w.heap[b]?) : Nst lo Q mk Cb k N i w' s C ps := by
  obtain ⟨v, h1, h2⟩ := h.que
  obtain ⟨n, D, h3, h4, h5⟩ := h.map
  have kb : ∀ (b : Nat) (o : Obj), w.heap[b]? = some o → w'.heap[b]? = w.heap[b]? := fun b o e => hb b (Array.getElem?_eq_some_iff.1 e).1
  exact ⟨⟨v, (kb _ _ h1).trans h1, h2.keep (fun b cs fr e => kb b _ e)⟩, h.len, fun j pa c e1 e2 => (h.ways j pa c e1 e2).keep (fun b cs fr e => kb b _ e), ⟨n, D, map_keep h3 (hb mk h3.lt), h4, h5⟩, (kb _ _ h.clo).trans h.clo, h.ri, h.cs⟩
theorem Kq.way {w w' : World} (h : Kq w w') (b : Nat) (cs : Array Value) (fr : Nat × Nat) (e : w.heap[b]? = some (.cells cs 132 fr)) : w'.heap[b]? = w.heap[b]? :=
  h b (Array.getElem?_eq_some_iff.1 e).1 (fun cs' t fr' e' => by rw [e] at e'; simp at e'; rw [← e'.2.1]; decide)
theorem Kq.clo {w w' : World} (h : Kq w w') (b : Nat) (cs : Array Value) (fr : Nat × Nat) (e : w.heap[b]? = some (.cells cs 97 fr)) : w'.heap[b]? = w.heap[b]? :=
  h b (Array.getElem?_eq_some_iff.1 e).1 (fun cs' t fr' e' => by rw [e] at e'; simp at e'; rw [← e'.2.1]; decide)
theorem Kq.map {w w' : World} (h : Kq w w') {b n : Nat} {k : TypeId} {R : Value → Option (DataW Unit × List MemPlace)} {D : DataW Unit} (hm : w.ownsMap Tryz.prog k R b n D) : w'.ownsMap Tryz.prog k R b n D :=
  map_keep hm (h b hm.lt (fun cs t fr e => by obtain ⟨es, clock, hh, r⟩ := hm; rw [hh] at e; cases e))
/-- One that waited is taken. -/
theorem Nst.take {lo Q mk Cb k N i : Nat} {w w' : World} {s : List Int × List Nat} {C : List (List Nat)} {ps : List (Option Addr)} {v' : Value} (h : Nst lo Q mk Cb k N i w s C ps) (hq : w'.heap[Q]? = some (.cells #[v'] 128 (0, 0))) (hu : Qu lo w' v' ((ps.drop (i + 1)).map Value.pointer)) (hk : Kq w w') : Nst lo Q mk Cb k N (i + 1) w' s C ps := by
  obtain ⟨n, D, h3, h4, h5⟩ := h.map
  exact ⟨⟨v', hq, hu⟩, h.len, fun j pa c e1 e2 => (h.ways j pa c e1 e2).keep hk.way, ⟨n, D, hk.map h3, h4, h5⟩, (hk.clo _ _ _ h.clo).trans h.clo, h.ri, h.cs⟩
/-- One more is met, and waits. -/
theorem Nst.put {lo Q mk Cb k N i e x t n : Nat} {w w1 w3 : World} {s : List Int × List Nat} {C : List (List Nat)} {ps : List (Option Addr)} {v' : Value} {c : List Nat} {pe : Option Addr} {D : DataW Unit} (h : Nst lo Q mk Cb k N i w s C ps)
    (hx : s.2[e]? = some x) (hc : C[e]? = some (x :: c)) (hpe : ps[e]? = some pe) (ht : t < N) (htk : t ≠ k) (hneg : (s.1[t]?).getD 0 < 0) (hi : i ≤ ps.length) (ht2 : t ≤ 1048576) (hlo : lo ≤ w1.heap.size)
    (hm0 : w.ownsMap Tryz.prog 3 (plainElem Tryz.prog 93) mk n D) (hM : Mks k s.1 D) (hn : n ≤ s.2.length) (hm : w1.ownsMap Tryz.prog 3 (plainElem Tryz.prog 93) mk (n + 1) (D.put (.int .i64 (t : Int)) (.lit (.int .i64 1)))) (hg : w.grownBy w1 (some mk))
    (hq : w3.heap[Q]? = some (.cells #[v'] 128 (0, 0))) (hu : Qu lo w3 v' ((ps.drop i).map Value.pointer ++ [.pointer (some ⟨w1.heap.size, 0, none⟩)])) (hk : Kq (w1.alloc (.cells #[.int .i64 (t : Int), .pointer pe] 132)) w3) :
    Nst lo Q mk Cb k N i w3 (s.1.set t (x : Int), s.2 ++ [t]) (C ++ [t :: x :: c]) (ps ++ [some ⟨w1.heap.size, 0, none⟩]) := by
  have htl : t < s.1.length := by rw [h.ri.len]; exact ht
  have kw : ∀ (b : Nat) (cs : Array Value) (ty : TypeId) (fr : Nat × Nat), w.heap[b]? = some (.cells cs ty fr) → (w1.alloc (.cells #[.int .i64 (t : Int), .pointer pe] 132)).heap[b]? = w.heap[b]? := fun b cs ty fr e1 => by
    have hb : b < w.heap.size := (Array.getElem?_eq_some_iff.1 e1).1
    rw [old_blk _ _ (Nat.lt_of_lt_of_le hb hg.size)]
    exact grown_keep hg hb (fun e2 => map_ne hm0 e1 (Option.some.inj e2))
  have kway : ∀ (b : Nat) (cs : Array Value) (fr : Nat × Nat), w.heap[b]? = some (.cells cs 132 fr) → w3.heap[b]? = w.heap[b]? := fun b cs fr e1 => by
    have h1 := kw b cs _ fr e1
    exact (hk.way b cs fr (h1.trans e1)).trans h1
  refine ⟨⟨v', hq, ?_⟩, by simp [h.len], ?_, ⟨n + 1, _, hk.map (hm.alloc _), mks_put hM ht2, by simp; omega⟩, ?_, h.ri.put hx ht htk hneg, h.cs.put hx hc htl htk hneg⟩
  · rw [List.drop_append_of_le_length hi, List.map_append]; exact hu
  · intro j pa cc e1 e2
    by_cases hj : j < ps.length
    · rw [List.getElem?_append_left hj] at e1
      rw [List.getElem?_append_left (by rw [h.cs.len, ← h.len]; exact hj)] at e2
      exact (h.ways j pa cc e1 e2).keep kway
    · have hje : j = ps.length := by
        rcases Nat.lt_or_ge j (ps ++ [some (⟨w1.heap.size, 0, none⟩ : Addr)]).length with h1 | h1
        · simp at h1; omega
        · rw [List.getElem?_eq_none h1] at e1; cases e1
      subst hje
      rw [List.getElem?_append_right (Nat.le_refl _)] at e1
      simp at e1
      subst e1
      rw [List.getElem?_append_right (by rw [h.cs.len, h.len]; exact Nat.le_refl _), h.cs.len, h.len] at e2
      simp at e2
      subst e2
      refine ⟨w1.heap.size, .pointer pe, rfl, hlo, ?_, (h.ways e pe (x :: c) hpe hc).keep kway⟩
      have h1 : (w1.alloc (.cells #[.int .i64 (t : Int), .pointer pe] 132)).heap[w1.heap.size]? = some (.cells #[numV t, .pointer pe] 132 (0, 0)) := new_blk _ _
      exact (hk.way _ _ _ h1).trans h1
  · have h1 := kw _ _ _ _ h.clo
    exact ((hk.clo _ _ _ (h1.trans h.clo)).trans h1).trans h.clo

set_option maxHeartbeats 8000000 in
set_option maxRecDepth 100000 in
theorem nearest_any {lo B g Cb : Nat} {w : World} {r m f st ve : Value} {S : List Value} {E : List Eg} {N k : Nat} (hG : Grb lo B g w r m f st ve S E N) (hlo : lo ≤ Cb) (hlw : lo ≤ w.heap.size) (hb : w.heap[Cb]? = some (.cells #[numV k, .slice none 0 0] 97 (0, 0)))
    (hE : ∀ e ∈ E, e.to < (N : Int)) (hEl : E.length ≤ 1048576) (hN : N ≤ 1000000) (hk : k < N) :
    Calls Tryz.prog 39 #[.int .i64 (k : Int), .func (.func 19) #[.pointer (some ⟨B, 0, none⟩)] #[], .func (.func 40) #[.pointer (some ⟨Cb, 0, none⟩)] #[]] w fun e w' => e = .returned (.tuple #[]) ∧
      (∃ v', w'.heap[Cb]? = some (.cells #[numV k, v'] 97 (0, 0)) ∧ w'.ownsRow lo 3 1 v' (ringK E N k).length ((ringK E N k).map numV)) ∧ Below lo w w' := by
  have hmm := @run_makeMap Tryz.prog
  have hm0 := World.ownsMap_made (H := Unit) w Tryz.prog 3 (plainElem Tryz.prog 93)
  obtain ⟨w1, hup, hm1, hg1⟩ := hm0.update (t := 62) law3 Tryz.underlying62 (by unfold maxLen; omega) (key3 k (by omega)) (plainElem_int (a := 1) Tryz.markInt (by decide))
  have hMk : Mks k (List.replicate N (-1)) ((DataW.map []).put (.int .i64 (k : Int)) (.lit (.int .i64 1))) := mks_start k N (by omega) isMap_empty (fun t => rfl)
  have hB1 : Below lo w w1 := ((Below.refl lo w).alloc hlw _).grown hg1 (by simp; omega) (fun b e => by cases e; omega)
  have hbC1 : w1.heap[Cb]? = some (.cells #[numV k, .slice none 0 0] 97 (0, 0)) := by
    have hCl : Cb < w.heap.size := (Array.getElem?_eq_some_iff.1 hb).1
    rw [grown_keep hg1 (by simp; omega) (fun e => by cases e; omega), old_blk w _ hCl]; exact hb
  have hw1 : w.heap.size < w1.heap.size := by have := hg1.size; simp at this; omega
  obtain ⟨mk, hmk⟩ : ∃ mk, mk = w.heap.size := ⟨_, rfl⟩
  rw [← hmk] at hm1
  have hlm : lo ≤ mk := by omega
  have hmkw : mk < w1.heap.size := by omega
  obtain ⟨DM, hDM⟩ : ∃ DM, DM = (DataW.map []).put (.int .i64 (k : Int)) (.lit (.int .i64 1)) := ⟨_, rfl⟩
  rw [← hDM] at hm1 hMk
  have HMM : Hid (mk = w.heap.size) := hmk
  have HG : Hid (Grb lo B g w r m f st ve S E N) := hG
  have HE : Hid (∀ e ∈ E, e.to < (N : Int)) := hE
  have HA : Hid (w1.ownsMap Tryz.prog 3 (plainElem Tryz.prog 93) mk (0 + 1) DM ∧ Mks k (List.replicate N (-1)) DM ∧ Below lo w w1 ∧ w1.heap[Cb]? = some (.cells #[numV k, .slice none 0 0] 97 (0, 0))) := ⟨hm1, hMk, hB1, hbC1⟩
  have hlo1 : lo ≤ w1.heap.size := by omega
  clear hm0 hm1 hg1 hMk hB1 hbC1 hmk hDM hb hG hE
  go_enter Tryz.func39, Tryz.ntmps39
  go_wp2_with fail
  rw [← HMM.out]
  obtain ⟨V, hV⟩ : ∃ V, V = (w1.alloc (.cells #[.slice none 0 0] 128)).alloc (.cells #[.int .i64 (k : Int), .pointer none] 132) := ⟨_, rfl⟩
  have hVs : V.heap.size = w1.heap.size + 2 := by rw [hV]; simp
  have kV : ∀ b, b < w1.heap.size → V.heap[b]? = w1.heap[b]? := fun b hb => by rw [hV, old_blk _ _ (by simp; omega), old_blk _ _ hb]
  have qV : V.heap[w1.heap.size]? = some (.cells #[.slice none 0 0] 128 (0, 0)) := by rw [hV, old_blk _ _ (by simp)]; exact new_blk _ _
  have wV : V.heap[w1.heap.size + 1]? = some (.cells #[numV k, .pointer none] 132 (0, 0)) := by
    rw [hV]; have h := new_blk (w1.alloc (.cells #[.slice none 0 0] 128)) (.cells #[.int .i64 (k : Int), .pointer none] 132); rw [World.size_alloc] at h; exact h
  have hBV : Below lo w V := by rw [hV]; exact (HA.out.2.2.1.alloc hlo1 _).alloc (by simp; omega) _
  have hput := qput_any (lo := lo) (pa := some ⟨w1.heap.size + 1, 0, none⟩) (ps := []) hlo1 (by omega) qV ⟨none, 0, rfl, by simp, by unfold maxLen; omega, fun _ => rfl, fun h => absurd h (by omega)⟩ (by simp)
  have HV : Hid (V = (w1.alloc (.cells #[.slice none 0 0] 128)).alloc (.cells #[.int .i64 (k : Int), .pointer none] 132)) := hV
  rw [← hV]
  refine hput.mono ?_
  rintro e w3 ⟨rfl, ⟨v3, hq3, hu3⟩, hb3, hk3⟩
  have hN3 : Nst lo w1.heap.size mk Cb k N 0 w3 (List.replicate N (-1), [k]) [[k]] [some ⟨w1.heap.size + 1, 0, none⟩] := by
    obtain ⟨h1, h2, h3, h4⟩ := HA.out
    refine ⟨⟨v3, hq3, hu3⟩, rfl, ?_, ⟨1, DM, hk3.map (map_keep h1 (kV mk hmkw)), h2, Nat.le_refl _⟩, ?_, RI.start N k hk, Cs.start N k⟩
    · intro j pa c e1 e2
      have hj : j = 0 := by
        rcases Nat.lt_or_ge j 1 with h | h
        · omega
        · rw [List.getElem?_eq_none (by simpa using h)] at e1; cases e1
      subst hj
      simp at e1 e2
      subst e1
      subst e2
      exact ⟨w1.heap.size + 1, .pointer none, rfl, by omega, (hk3.way _ _ _ wV).trans wV, rfl⟩
    · have h5 := (kV Cb (Array.getElem?_eq_some_iff.1 h4).1).trans h4
      exact (hk3.clo _ _ _ h5).trans h5
  have hB3 : Below lo w w3 := hBV.trans hb3
  obtain ⟨Q, hQ⟩ : ∃ Q, Q = w1.heap.size := ⟨_, rfl⟩
  obtain ⟨pa0, hpa0⟩ : ∃ pa0 : Option Addr, pa0 = some ⟨w1.heap.size + 1, 0, none⟩ := ⟨_, rfl⟩
  have hlQ : lo ≤ Q := by omega
  rw [← hpa0, ← hQ] at hN3
  rw [← hQ] at hq3
  obtain ⟨v0, hq0, hu0⟩ := hN3.que
  have htk0 := qtake_some (lo := lo) (Q := Q) (pa := pa0) (ps := []) hlQ hq0 hu0 (by simp)
  have hlo3 : lo ≤ w3.heap.size := Nat.le_trans hlw hB3.size
  clear hput hV kV qV wV hBV hq3 hu3 hk3 HV hb3 HA hup hmm hq0 hu0 hVs
  rw [← hQ]
  clear hQ hpa0
  go_wp2_with fail
  refine htk0.mono ?_
  rintro e w4 ⟨rfl, ⟨v4, hq4, hu4⟩, hb4, hk4⟩
  have hN4 := hN3.take hq4 hu4 hk4
  have hB4 := hB3.trans hb4
  clear hN3 hB3 hq4 hu4 hk4 hb4 htk0
  obtain ⟨R0, hR0⟩ : ∃ R0, R0 = rout E k (N + 1) 0 (List.replicate N (-1), [k]) := ⟨_, rfl⟩
  have HRK : Hid (ringK E N k = ringOut k N R0) := by unfold Hid ringK; rw [hR0]
  have HR0 : Hid (rout E k (N + 1 - 0) 0 (List.replicate N (-1), [k]) = R0) := hR0.symm
  clear hR0
  go_wp2
  go_loopg [8, 9] (N + 2) (fun gk p mo wr => (∃ (e : Nat) (s : List Int × List Nat) (C : List (List Nat)) (ps : List (Option Addr)) (pa : Option Addr), mo = .bool true ∧ p = .pointer pa ∧ ps[e]? = some pa ∧ gk = N + 2 - e ∧ Nst lo Q mk Cb k N (e + 1) wr s C ps ∧ Hid (rout E k (N + 1 - e) e s = R0) ∧ Below lo w wr) ∨
    (mo = .bool false ∧ (∃ a, p = .pointer a) ∧ Hid (R0 = none) ∧ wr.heap[Cb]? = some (.cells #[numV k, .slice none 0 0] 97 (0, 0)) ∧ Below lo w wr))
  case atStart => exact .inl ⟨0, _, _, _, pa0, rfl, rfl, rfl, by omega, hN4, HR0.out, hB4⟩
  case round =>
    rcases hrel with ⟨e, s, C, ps, pa, rfl, rfl, hpa, hgk, hNs, hRo, hBr⟩ | ⟨rfl, ⟨a, rfl⟩, hRn, hcl, hBr⟩
    · have hel : e < s.2.length := by
        rw [← hNs.len]
        rcases Nat.lt_or_ge e ps.length with h1 | h1
        · exact h1
        · rw [List.getElem?_eq_none h1] at hpa; cases hpa
      have hroom := hNs.ri.room
      obtain ⟨x, hx⟩ : ∃ x, s.2[e]? = some x := ⟨_, List.getElem?_eq_getElem hel⟩
      have hxN : x < N := hNs.ri.lt x (List.mem_of_getElem? hx)
      obtain ⟨c, hCe, hCh, hcl⟩ := hNs.cs.at hx
      have hwy := hNs.ways e pa _ hpa hCe
      obtain ⟨b, q, hpb, hlb, hbk, hwq⟩ := id hwy
      have hpb' : pa = some ⟨b, 0, none⟩ := by injection hpb
      subst hpb'
      have m0 : wr.cell? ⟨b, 0, none⟩ = some (.int .i64 (x : Int)) := by simp [World.cell?, hbk, numV]
      have hlt0 := leadsTo_any (HG.out.below hBr) x hxN
      have hLl := leadsOf_len E x
      have HLT : Hid (∀ t ∈ leadsOf E x, t < N) := leadsOf_lt HE.out x
      have HRR : Hid (R0 = if (rinL k x (leadsOf E x) s).1 then some (x, (rinL k x (leadsOf E x) s).2.1) else rout E k (N + 1 - (e + 1)) (e + 1) (rinL k x (leadsOf E x) s).2) := by
        unfold Hid
        rw [← hRo.out, show N + 1 - e = (N + 1 - (e + 1)) + 1 by omega, rout_at hx]
      obtain ⟨L, hL⟩ : ∃ L, L = leadsOf E x := ⟨_, rfl⟩
      rw [← hL] at hlt0 hLl HLT HRR
      have hlr : lo ≤ wr.heap.size := Nat.le_trans hlw hBr.size
      have HNS : Hid (Nst lo Q mk Cb k N (e + 1) wr s C ps) := hNs
      have HX : Hid (s.2[e]? = some x ∧ C[e]? = some (x :: c) ∧ ps[e]? = some (some ⟨b, 0, none⟩) ∧ Chn s.1 k (x :: c) ∧ c.length ≤ e ∧ Wy lo wr (.pointer (some ⟨b, 0, none⟩)) (x :: c)) := ⟨hx, hCe, hpa, hCh, hcl, hwy⟩
      clear hx hCe hpa hCh hcl hwy hpb hbk hwq hNs hL hRo
      go_wp2_with fail
      refine hlt0.mono ?_
      rintro e' w5 ⟨vl, rfl, hvl, hb5⟩
      have hN5 := HNS.out.keep (fun b hb => hb5.block b hb)
      have hB5 : Below lo w w5 := hBr.trans (hb5.mono hlr)
      have hlo5 : lo ≤ w5.heap.size := Nat.le_trans hlr hb5.size
      obtain ⟨al, cl', rfl, hcl', hcell⟩ := hvl
      have HC : Hid (∀ i (hi : i < L.length), ∃ b o, al = some ⟨b, o, none⟩ ∧ b < lo ∧ w5.cell? ⟨b, o + i, none⟩ = some (numV L[i])) := hcell
      clear hcell hb5 hlt0 HNS m0
      obtain ⟨wo, rfl⟩ : ∃ wo, wo = wr := ⟨_, rfl⟩
      obtain ⟨X, hX⟩ : ∃ X, X = rinL k x L s := ⟨_, rfl⟩
      rw [← hX] at HRR
      have HX0 : Hid (rinL k x L s = X) := hX.symm
      clear hX
      go_wp2
      go_loopw [35] (fun j wi => ∃ (n : Nat) (s' : List Int × List Nat) (C' : List (List Nat)) (ps' : List (Option Addr)), n ≤ L.length ∧ j = .int .i64 n ∧ Nst lo Q mk Cb k N (e + 1) wi s' C' ps' ∧ Hid (rinL k x (L.drop n) s' = X) ∧ s'.2[e]? = some x ∧ C'[e]? = some (x :: c) ∧ ps'[e]? = some (some ⟨b, 0, none⟩) ∧ Below lo w wi ∧ Below lo w5 wi) (fun j _ => L.length - (intOf j).toNat)
      case atStart => exact ⟨0, s, C, ps, Nat.zero_le _, rfl, hN5, HX0.out, HX.out.1, HX.out.2.1, HX.out.2.2.1, hB5, Below.refl _ _⟩
      case round =>
        obtain ⟨n, s', C', ps', hn, rfl, hNs, hrin, hxs, hCs, hps, hBw, hB5w⟩ := hrel
        have hel' : e + 1 ≤ ps'.length := by
          rcases Nat.lt_or_ge e ps'.length with h1 | h1
          · omega
          · rw [List.getElem?_eq_none h1] at hps; cases hps
        have hroom' := hNs.ri.room
        have hlen' := hNs.len
        have hlwi : lo ≤ wr.heap.size := Nat.le_trans hlw hBw.size
        have hwy := hNs.ways e _ _ hps hCs
        obtain ⟨c', hCe', hCh, hcl⟩ := hNs.cs.at hxs
        rw [hCs] at hCe'
        obtain rfl : c = c' := by simpa using hCe'
        by_cases hlt : n < L.length
        · obtain ⟨bb, o, rfl, hbb, hc0⟩ := HC.out n hlt
          have htN : L[n] < N := HLT.out _ (List.getElem_mem hlt)
          have m0 := below_cell0 hB5w hbb hc0
          have hdr := List.drop_eq_getElem_cons hlt
          have HRI := hrin
          unfold Hid at HRI
          rw [hdr, rinL_cons] at HRI
          obtain ⟨t, ht⟩ : ∃ t, t = L[n] := ⟨_, rfl⟩
          rw [← ht] at m0 htN HRI
          unfold numV at m0
          have HRJ : Hid ((if t = k then (true, s') else if (s'.1[t]?).getD 0 < 0 then rinL k x (L.drop (n + 1)) (s'.1.set t (x : Int), s'.2 ++ [t]) else rinL k x (L.drop (n + 1)) s') = X) := HRI
          have HNS : Hid (Nst lo Q mk Cb k N (e + 1) wr s' C' ps') := hNs
          have HXS : Hid (s'.2[e]? = some x ∧ C'[e]? = some (x :: c) ∧ ps'[e]? = some (some ⟨b, 0, none⟩) ∧ Chn s'.1 k (x :: c) ∧ c.length ≤ e) := ⟨hxs, hCs, hps, hCh, hcl⟩
          have hclo := hNs.clo
          clear ht hdr HRI hrin hc0 hCe'
          by_cases htk : t = k
          · subst htk
            have HFIN : Hid (ringK E N t = (x :: c).reverse) := by
              unfold Hid
              have h1 := HRJ.out
              rw [if_pos rfl] at h1
              rw [HRK.out, HRR.out, ← h1]
              simp only [if_true]
              exact ring_way hNs.ri hxs hCh hcl
            have hwt := watch_yes (k := t) hlo hlwi hclo hwy (by simp only [List.length_cons]; omega)
            clear hNs hxs hCs hps hCh hcl hwy hclo HRJ
            go_wp2_with fail
            refine hwt.mono ?_
            rintro e' w6 ⟨rfl, ⟨v6, hc6, ho6⟩, hb6⟩
            go_wp2
            first | go_end0 | refine bodyPost_ret (results_none rfl _ _ _) rfl ?_
            exact ⟨rfl, ⟨v6, hc6, by rw [HFIN.out, List.length_reverse]; exact ho6⟩, hBw.trans hb6⟩
          · have hwt := watch_no (p := .pointer (some ⟨b, 0, none⟩)) hclo htk ⟨_, rfl⟩
            obtain ⟨nm, DM', hm1, hm2, hm3⟩ := hNs.map
            have htl : t < s'.1.length := by rw [hNs.ri.len]; exact htN
            have hgD : (s'.1[t]?).getD 0 = s'.1[t] := by rw [List.getElem?_eq_getElem htl]; rfl
            have hat0 := hm2.2 t htl
            have hkey := key3 t (by omega)
            have hnm : nm < maxLen := by unfold maxLen; omega
            have HMK : Hid (Mks k s'.1 DM' ∧ nm ≤ s'.2.length ∧ t ≠ k) := ⟨hm2, hm3, htk⟩
            clear hm2 hm3 hxs hCs hps hCh hcl hwy hclo
            by_cases hneg : s'.1[t] < 0
            · rw [if_neg (by simp [htk, hneg])] at hat0
              have HAT : Hid (DM'.atKey (.int .i64 (t : Int)) (.lit (.int .i64 0)) = .lit (.int .i64 0)) := hat0
              have HRN : Hid (rinL k x (L.drop (n + 1)) (s'.1.set t (x : Int), s'.2 ++ [t]) = X) := by
                have h1 := HRJ.out
                rw [if_neg htk, if_pos (by rw [hgD]; exact hneg)] at h1
                exact h1
              have HNG : Hid ((s'.1[t]?).getD 0 < 0) := by unfold Hid; rw [hgD]; exact hneg
              clear hat0 HRJ hneg hgD htk
              go_wp2_with fail
              refine hwt.mono ?_
              rintro e' w6 ⟨rfl, rfl⟩
              go_wp2_with (first
                | (at_lookup; refine wpList_lookup_own_int _ rfl _ _ 62 rfl 3 93 .i64 law3 Tryz.underlying62 Tryz.markInt (zeroMark _) mk nm DM' rfl hm1 _ (.int .i64 (t : Int)) rfl hkey ?_; intro cc hat hwc; rw [HAT.out] at hat; obtain rfl : cc = 0 := (by simpa using hat.symm))
                | (at_mapUpdate; refine wpList_mapUpdate_own _ rfl _ _ _ 62 rfl 3 93 law3 Tryz.underlying62 (plainElem (H := Unit) Tryz.prog 93) mk nm DM' rfl hm1 hnm _ _ (.int .i64 (t : Int)) rfl rfl hkey _ [] (plainElem_int Tryz.markInt (by decide)) ?_; intro w7 hm7 hgrow7))
              obtain ⟨vq, hq8, hu8⟩ := HNS.out.que
              have kw : ∀ (bq : Nat) (cs : Array Value) (ty : TypeId) (fr : Nat × Nat), w6.heap[bq]? = some (.cells cs ty fr) → (w7.alloc (.cells #[.int .i64 (t : Int), .pointer (some ⟨b, 0, none⟩)] 132)).heap[bq]? = w6.heap[bq]? := fun bq cs ty fr e1 => by
                have hbq : bq < w6.heap.size := (Array.getElem?_eq_some_iff.1 e1).1
                rw [old_blk _ _ (Nat.lt_of_lt_of_le hbq hgrow7.size)]
                exact grown_keep hgrow7 hbq (fun e2 => map_ne hm1 e1 (Option.some.inj e2))
              have hs7 := hgrow7.size
              have hput := qput_any (lo := lo) (Q := Q) (pa := some ⟨w7.heap.size, 0, none⟩) hlQ (by simp; omega) ((kw _ _ _ _ hq8).trans hq8) (hu8.keep (fun bq cs fr e1 => kw bq cs _ fr e1)) (by simp; omega)
              have hB7 : Below lo w6 (w7.alloc (.cells #[.int .i64 (t : Int), .pointer (some ⟨b, 0, none⟩)] 132)) := ((Below.refl lo w6).grown hgrow7 hlwi (fun j e2 => by cases e2; exact hlm)).alloc (by omega) _
              refine hput.mono ?_
              rintro e' w8 ⟨rfl, ⟨v9, hq9, hu9⟩, hb9, hk9⟩
              have hN9 := HNS.out.put HXS.out.1 HXS.out.2.1 HXS.out.2.2.1 htN HMK.out.2.2 HNG.out hel' (by omega) (by omega) hm1 HMK.out.1 HMK.out.2.1 hm7 hgrow7 hq9 hu9 hk9
              have hel2 : e < s'.2.length := by omega
              have hB8 := hB7.trans hb9
              clear hput kw hq8 hu8 hq9 hu9 hk9 hm7 hgrow7
              go_wp2
              go_roundw
              case rel => exact ⟨n + 1, _, _, _, by omega, by go_num, hN9, HRN.out, by simp only []; rw [List.getElem?_append_left hel2]; exact HXS.out.1, by rw [List.getElem?_append_left (by rw [HNS.out.cs.len]; exact hel2)]; exact HXS.out.2.1, by rw [List.getElem?_append_left (by omega)]; exact HXS.out.2.2.1, hBw.trans hB8, hB5w.trans hB8⟩
              case measure => simp [intOf]; omega
            · rw [if_pos (.inr hneg)] at hat0
              have HAT : Hid (DM'.atKey (.int .i64 (t : Int)) (.lit (.int .i64 0)) = .lit (.int .i64 1)) := hat0
              have HRN : Hid (rinL k x (L.drop (n + 1)) s' = X) := by
                have h1 := HRJ.out
                rw [if_neg htk, if_neg (by rw [hgD]; exact hneg)] at h1
                exact h1
              clear hat0 HRJ hneg hgD htk
              go_wp2_with fail
              refine hwt.mono ?_
              rintro e' w6 ⟨rfl, rfl⟩
              go_wp2_with (at_lookup; refine wpList_lookup_own_int _ rfl _ _ 62 rfl 3 93 .i64 law3 Tryz.underlying62 Tryz.markInt (zeroMark _) mk nm DM' rfl hm1 _ (.int .i64 (t : Int)) rfl hkey ?_; intro cc hat hwc; rw [HAT.out] at hat; obtain rfl : cc = 1 := (by simpa using hat.symm))
              go_roundw
              case rel => exact ⟨n + 1, s', C', ps', by omega, by go_num, HNS.out, HRN.out, HXS.out.1, HXS.out.2.1, HXS.out.2.2.1, hBw, hB5w⟩
              case measure => simp [intOf]; omega
        · have HRE : Hid (X = (false, s')) := by unfold Hid; rw [← hrin.out, List.drop_eq_nil_of_le (by omega)]; rfl
          have HRO : Hid (rout E k (N + 1 - (e + 1)) (e + 1) s' = R0) := by unfold Hid; rw [HRR.out, HRE.out]; rfl
          obtain ⟨vq, hq8, hu8⟩ := hNs.que
          by_cases hmore : e + 1 < ps'.length
          · obtain ⟨p8, hp8⟩ : ∃ p8, ps'[e + 1]? = some p8 := ⟨_, List.getElem?_eq_getElem hmore⟩
            have hdp : (ps'.drop (e + 1)).map Value.pointer = .pointer p8 :: (ps'.drop (e + 2)).map Value.pointer := by
              rw [List.drop_eq_getElem_cons hmore, List.map_cons]
              rw [List.getElem?_eq_getElem hmore] at hp8
              rw [Option.some.inj hp8]
            rw [hdp] at hu8
            have htk8 := qtake_some (lo := lo) (Q := Q) hlQ hq8 hu8 (by simp; omega)
            clear hdp hu8 hq8 hrin HRE
            go_wp2_with fail
            refine htk8.mono ?_
            rintro e' w8 ⟨rfl, ⟨v9, hq9, hu9⟩, hb9, hk9⟩
            have hN9 := hNs.take hq9 hu9 hk9
            go_wp2
            go_roundg (N + 2 - (e + 1))
            case measure => omega
            case rel => exact .inl ⟨e + 1, s', C', ps', p8, rfl, rfl, hp8, rfl, hN9, HRO.out, hBw.trans hb9⟩
          · have hdp : (ps'.drop (e + 1)).map Value.pointer = [] := by rw [List.drop_eq_nil_of_le (by omega)]; rfl
            rw [hdp] at hu8
            have htk8 := qtake_none (lo := lo) (Q := Q) hq8 hu8
            have HNN : Hid (R0 = none) := by unfold Hid; rw [← HRO.out]; exact rout_end (by omega)
            have hclo := hNs.clo
            clear hdp hu8 hq8 hrin HRE
            go_wp2_with fail
            refine htk8.mono ?_
            rintro e' w8 ⟨rfl, rfl⟩
            go_wp2
            go_roundg 0
            case measure => omega
            case rel => exact .inr ⟨rfl, ⟨none, rfl⟩, HNN.out, hclo, hBw⟩
    · have HZ : Hid (ringK E N k = []) := by unfold Hid; rw [HRK.out, hRn.out]; rfl
      go_wp2
      first | go_end0 | refine bodyPost_ret (results_none rfl _ _ _) rfl ?_
      exact ⟨rfl, ⟨_, hcl, by rw [HZ.out]; exact World.ownsRow_nil _ _ _ _⟩, hBr⟩
end Go.Proofs.YtimgafblpmjajaaGreat
namespace Go.Proofs.YtimgafblpmjajaaGreat
open Go.RowKit Go.Maps

theorem look_nil (s : ByteArray) (W : World) : (Instr.lookup 48 (.map none) (.agg #[.string s]) true).run Tryz.prog W = .ok (.tuple #[.int .i64 0, .bool false]) W := by kernel_rfl

set_option maxHeartbeats 4000000 in
set_option maxRecDepth 100000 in
theorem find_bad {B : Nat} {w : World} (h : GBad B w) (fb nb : ByteArray) (hn : nb.size ≤ 1048576) :
    Calls Tryz.prog 17 #[.pointer (some ⟨B, 0, none⟩), .string fb, .string nb] w fun e w' => e = .returned (.int .i64 (-1)) ∧ Below w.heap.size w w' := by
  unfold GBad at h
  have hlt : B < w.heap.size := (Array.getElem?_eq_some_iff.1 h).1
  have c0 : w.cell? ⟨B, 0, none⟩ = some (.slice none 0 0) := by simp [World.cell?, h]
  have c3 : w.cell? ⟨B, 3, none⟩ = some (.map none) := by simp [World.cell?, h]
  have hr : Strs w (.slice none 0 0) [] := ⟨none, 0, rfl, by simp, by unfold maxLen; omega, fun k hk => by simp at hk⟩
  have htr := formsToTry_any (.slice none 0 0) [] fb nb w hr (by decide) hn
  have hT8 := Pl.tries_len [] fb.data.toList nb.data.toList
  obtain ⟨T, hT⟩ : ∃ T, T = Pl.tries [] fb.data.toList nb.data.toList := ⟨_, rfl⟩
  rw [← hT] at htr hT8
  clear hr hT h
  go_enter Tryz.func17, Tryz.ntmps17
  go_wp2_with fail
  refine htr.mono ?_
  rintro e w1 ⟨vt, rfl, hr, hb1⟩
  obtain ⟨at', capt, rfl, hcapt, hmx, hcell⟩ := row_shape49 hr
  have HC : Hid (∀ k, (hk : k < T.length) → ∃ g, at' = some ⟨g, 0, none⟩ ∧ w.heap.size ≤ g ∧ g < w1.heap.size ∧ w1.cell? ⟨g, k, none⟩ = some (strV T[k])) := hcell
  clear hcell hr hmx htr
  go_wp2
  go_loopw [20] (fun i wr => ∃ k : Nat, k ≤ T.length ∧ i = .int .i64 k ∧ Below w1.heap.size w1 wr) (fun i _ => T.length - (intOf i).toNat)
  case atStart => exact ⟨0, Nat.zero_le _, rfl, Below.refl _ _⟩
  case round =>
    obtain ⟨k, hk, rfl, hB⟩ := hrel
    have hBW : Below w.heap.size w wr := hb1.trans (hB.mono hb1.size)
    by_cases hlk : k < T.length
    · obtain ⟨gt, rfl, hg0, hg, hc⟩ := HC.out k hlk
      obtain ⟨q, hq⟩ : ∃ q : ByteArray, q.data.toList = T[k] := ⟨⟨T[k].toArray⟩, by simp⟩
      have hcq : wr.cell? ⟨gt, k, none⟩ = some (.string q) := by rw [hB.cell (p := ⟨gt, k, none⟩) hg, hc, ← hq, strV_data]
      have x3 := below_cell0 hBW hlt c3
      obtain ⟨V, hV⟩ : ∃ V, V = wr.alloc (.cells #[.string q] 91) := ⟨_, rfl⟩
      have z3 : V.cell? ⟨B, 3, none⟩ = some (.map none) := by rw [hV]; exact below_cell0 ((Below.refl wr.heap.size wr).alloc (Nat.le_refl _) _) (by have := hBW.size; omega) x3
      have z0 : V.cell? ⟨wr.heap.size, 0, none⟩ = some (.string q) := by rw [hV]; simp [go_sem]
      have HV : Hid (V = wr.alloc (.cells #[.string q] 91)) := hV
      have hVB : Below w1.heap.size w1 V := by rw [hV]; exact hB.alloc hB.size _
      have hlk2 := look_nil q V.drew
      clear hq hc hV
      go_wp2
      rw [← HV.out]
      go_region
      go_wp2
      go_roundw
      case rel => exact ⟨k + 1, by omega, by go_num, hVB.drew⟩
      case measure => simp [intOf]; omega
    · go_wp2
      go_ret
      exact ⟨rfl, hBW⟩

theorem Ntl.mono {lo lo' : Nat} {w : World} {v : Value} {L : List Nat} (h : Ntl lo w v L) (hl : lo ≤ lo') : Ntl lo' w v L := by
  obtain ⟨a, c, hv, hk, hc⟩ := h
  exact ⟨a, c, hv, hk, fun i hi => by obtain ⟨b, o, ha, hb, h0⟩ := hc i hi; exact ⟨b, o, ha, Nat.lt_of_lt_of_le hb hl, h0⟩⟩
theorem Grb.mono {lo lo' B g : Nat} {w : World} {r m f st ve : Value} {S : List Value} {E : List Eg} {N : Nat} (h : Grb lo B g w r m f st ve S E N) (hl : lo ≤ lo') : Grb lo' B g w r m f st ve S E N :=
  ⟨h.blk, Nat.lt_of_lt_of_le h.lowB hl, h.gblk, Nat.lt_of_lt_of_le h.lowg hl, h.len, fun j s hs => (h.row j s hs).mono hl⟩
theorem Nmd.mono {lo lo' : Nat} {w : World} {vm : Value} {M : List Md} (h : Nmd lo w vm M) (hl : lo ≤ lo') : Nmd lo' w vm M := by
  obtain ⟨a, km, hv, hk, hc⟩ := h
  exact ⟨a, km, hv, hk, fun k hk => by obtain ⟨b, o, ha, hb, h0⟩ := hc k hk; exact ⟨b, o, ha, Nat.lt_of_lt_of_le hb hl, h0⟩⟩

set_option maxHeartbeats 8000000 in
set_option maxRecDepth 100000 in
theorem order_ok : OrderOk := by
  intro v D n w h hD hn
  have hmm := @run_makeMap Tryz.prog
  have hmf : ∀ (fn : Fn) (first cap : Array Value) (w : World), (Instr.makeFunc fn first cap).run Tryz.prog w = .ok (.func fn first cap) w := fun _ _ _ _ => rfl
  obtain ⟨a1, a2, a3, k1, k2, k3, rfl⟩ := h.agg'
  obtain ⟨W, hW⟩ : ∃ W, W = w.alloc (.cells #[.slice a1 D.roots.length k1, .slice a2 D.mods.length k2, .slice a3 D.faults.length k3] 27) := ⟨_, rfl⟩
  have hWB : Below w.heap.size w W := by rw [hW]; exact (Below.refl _ _).alloc (Nat.le_refl _) _
  have hWd := h.below hWB (Nat.le_refl _)
  have HW : Hid (W = w.alloc (.cells #[.slice a1 D.roots.length k1, .slice a2 D.mods.length k2, .slice a3 D.faults.length k3] 27)) := hW
  clear hW h
  by_cases hg : (wok D).1 = 0
  · have hcall := graphOf_good _ D W hWd hD hg
    have hroots : Strs W (.slice a1 D.roots.length k1) D.roots := by
      obtain ⟨r, m, f, hv, h1, h2, h3⟩ := hWd
      have : r = .slice a1 D.roots.length k1 := by simp at hv; exact hv.1.symm
      rw [← this]; exact h1
    have hmods : Mds W (.slice a2 D.mods.length k2) D.mods := by
      obtain ⟨r, m, f, hv, h1, h2, h3⟩ := hWd
      have : m = .slice a2 D.mods.length k2 := by simp at hv; exact hv.2.1.symm
      rw [← this]; exact h2
    have hrt : Pl.total D.roots ≤ 1048576 := by unfold Wd.t at hD; omega
    have hmt : mdsT D.mods ≤ 1048576 := by unfold Wd.t at hD; omega
    have HMS : Hid (∀ m ∈ D.mods, m.name.length ≤ 1048576) := fun m hm => by
      have h1 : m.t ≤ (D.mods.map Md.t).sum := mem_le_sum _ _ (List.mem_map.2 ⟨m, hm, rfl⟩)
      exact (Md.small (m := m) (by unfold mdsT at hmt; omega)).1
    have hml := (wok_good hg).2.2
    have hEl := edgesOf_len D hD
    have hEt := edgesOf_to D
    have HNM : Hid (Nmd W.heap.size W (.slice a2 D.mods.length k2) D.mods) := by
      obtain ⟨a, cap, hv, hcap, hmax, hc⟩ := hmods
      cases hv
      exact ⟨a2, k2, rfl, hcap, fun k hk => by obtain ⟨b, o, s, ha, hb, h0, _⟩ := hc k hk; exact ⟨b, o, ha, hb, h0⟩⟩
    have HOR : Hid (orderOf D n.data.toList = (if 0 ≤ toOf D nmain n.data.toList then (vis (edgesOf D) (D.mods.length + 1) (toOf D nmain n.data.toList).toNat (List.replicate D.mods.length false, [])).2 else []).map (nameK D.mods)) := by unfold Hid orderOf orderK; rw [if_pos hg]
    have htn : toOf D nmain n.data.toList < (D.mods.length : Int) := thereT_lt D _
    have hT1 := toOf_form D nmain n.data.toList
    have HRT : Hid (Strs W (.slice a1 D.roots.length k1) D.roots ∧ Pl.total D.roots ≤ 1048576) := ⟨hroots, hrt⟩
    have HET : Hid (∀ e ∈ edgesOf D, e.to < (D.mods.length : Int)) := hEt
    clear hWd hg hD hroots hmods hrt hmt hEt
    go_enter Tryz.func7, Tryz.ntmps7
    go_wp2_with fail
    rw [← HW.out]
    refine hcall.mono ?_
    rintro e w1 ⟨B, mb, g, r, m, f, ve, S, DM, hagg, rfl, hG, hsh, hpl, hB⟩
    obtain ⟨rfl, rfl, rfl⟩ : r = .slice a1 D.roots.length k1 ∧ m = .slice a2 D.mods.length k2 ∧ f = .slice a3 D.faults.length k3 := by simp at hagg; exact ⟨hagg.1.symm, hagg.2.1.symm, hagg.2.2.symm⟩
    have hfd := find_any hG (HRT.out.1.below hB (Nat.le_refl _)) hsh hpl ⟨#[109, 97, 105, 110]⟩ n HRT.out.2 hn
    have HFD : Hid (Calls Tryz.prog 17 #[.pointer (some ⟨B, 0, none⟩), .string ⟨#[109, 97, 105, 110]⟩, .string n] w1 fun e w' => e = .returned (.int .i64 (toOf D nmain n.data.toList)) ∧ Below w1.heap.size w1 w') := hfd
    clear hfd hagg hsh hpl hcall
    obtain ⟨tt, htt⟩ : ∃ tt, tt = toOf D nmain n.data.toList := ⟨_, rfl⟩
    rw [← htt] at HFD HOR htn hT1
    clear htt
    go_wp2_with fail
    refine HFD.out.mono ?_
    rintro e w2 ⟨rfl, hb2⟩
    have hG2 := hG.below hb2
    have hB2 : Below W.heap.size W w2 := hB.trans (hb2.mono hB.size)
    rcases hT1 with rfl | hT1
    · have HZ : Hid (orderOf D n.data.toList = []) := by unfold Hid; rw [HOR.out, if_neg (by omega)]; rfl
      go_wp2
      go_ret
      exact ⟨_, rfl, by rw [HZ.out]; exact World.ownsRow_nil _ _ _ _, hWB.trans (hB2.mono hWB.size)⟩
    · obtain ⟨k, rfl⟩ : ∃ k : Nat, tt = (k : Int) := ⟨tt.toNat, by omega⟩
      have hkb : ((k : Int) == -1) = false := by rw [beq_eq_false_iff_ne]; omega
      have HO2 : Hid (orderOf D n.data.toList = (vis (edgesOf D) (D.mods.length + 1) k (List.replicate D.mods.length false, [])).2.map (nameK D.mods)) := by unfold Hid; rw [HOR.out, if_pos hT1, Int.toNat_natCast]
      go_wp2_with fail
      obtain ⟨V, hV⟩ : ∃ V, V = (w2.alloc (.cells #[.slice none 0 0] 60)).alloc (.map #[] 0) := ⟨_, rfl⟩
      have hBV : Below w2.heap.size w2 V := by rw [hV]; exact ((Below.refl _ _).alloc (Nat.le_refl _) _).alloc (by simp) _
      have hGV := hG2.grb.below hBV
      have hDV : Dst w2.heap.size w2.heap.size (w2.heap.size + 1) V (.slice none 0 0) (List.replicate D.mods.length false, []) := by
        rw [hV]
        refine ⟨(old_blk _ _ (by simp)).trans (new_blk _ _), Nat.le_refl _, World.ownsRow_nil _ _ _ _, ⟨0, .map [], ?_, mrk_start _, by simp [unmet_rep]⟩, by omega⟩
        have h := World.ownsMap_made (H := Unit) (w2.alloc (.cells #[.slice none 0 0] 60)) Tryz.prog 3 (plainElem Tryz.prog 93)
        rw [World.size_alloc] at h
        exact h
      have hdp := deepest_any HET.out hEl (by omega) (D.mods.length + 1) w2.heap.size w2.heap.size (w2.heap.size + 1) _ _ k V hGV hDV (vinv_start _) (by show (List.replicate D.mods.length false)[k]? = some false; rw [List.getElem?_replicate, if_pos (by omega)]) (by simp [unmet_rep])
      have hvi := (vis_inv HET.out (D.mods.length + 1) k _ 0 (by omega) (vinv_start D.mods.length)).1
      obtain ⟨s4, hs4⟩ : ∃ s4, s4 = vis (edgesOf D) (D.mods.length + 1) k (List.replicate D.mods.length false, []) := ⟨_, rfl⟩
      rw [← hs4] at hdp hvi HO2
      have HGV : Hid (Grb w2.heap.size B g V (.slice a1 D.roots.length k1) (.slice a2 D.mods.length k2) (.slice a3 D.faults.length k3) (.map (some mb)) ve S (edgesOf D) D.mods.length) := hGV
      have HBV : Hid (Below w2.heap.size w2 V ∧ Below W.heap.size W w2) := ⟨hBV, hB2⟩
      rw [← hV]
      clear hs4 hV hGV hBV hDV hG2 hB2 hG hB hb2 HFD hmm hmf
      refine hdp.mono ?_
      rintro e w3 ⟨rfl, ⟨vo, hD3⟩, hb3⟩
      have hG3 := HGV.out.below hb3
      have hVs := HBV.out.1.size
      have h3s := hb3.size
      have hB3 : Below W.heap.size W w3 := HBV.out.2.trans ((HBV.out.1.trans hb3).mono HBV.out.2.size)
      have hnl := Ntl.mono (ntl_own hD3.row (Nat.le_refl _)) (Nat.le_refl _)
      have c0 : w3.cell? ⟨w2.heap.size, 0, none⟩ = some vo := by have := hD3.blk; simp [World.cell?, this]
      have hnm := gnames_any (hG3.mono (lo' := w3.heap.size) (by omega)) (Nat.le_refl _) D.mods ((HNM.out.below hB3).mono hB3.size) HMS.out vo s4.2 hnl hvi.2.2 (by have := hvi.2.1; omega)
      have c1 : ∃ a c, vo = .slice a s4.2.length c := by obtain ⟨a, c, h, _, _⟩ := row_form hD3.row; exact ⟨a, c, h⟩
      obtain ⟨ao, co, rfl⟩ := c1
      clear hD3 hG3 hnl hdp
      go_wp2_with fail
      refine hnm.mono ?_
      rintro e w4 ⟨v4, rfl, h4, hb4⟩
      obtain ⟨a4, c4, rfl, _, _⟩ := row_form h4
      have HO4 : Hid (w4.ownsRow w.heap.size 9 1 (.slice a4 s4.2.length c4) (orderOf D n.data.toList).length ((orderOf D n.data.toList).map strV)) := by
        unfold Hid
        rw [HO2.out, List.length_map, List.map_map]
        exact own_mono h4 (by have := hWB.size; have := hB3.size; omega)
      clear h4
      go_wp2
      go_ret
      exact ⟨_, rfl, HO4.out, hWB.trans ((hB3.trans (hb4.mono hB3.size)).mono hWB.size)⟩
  · have hcall := graphOf_bad _ D W hWd hD hg
    have hE : orderOf D n.data.toList = [] := by unfold orderOf orderK; rw [if_neg hg]; rfl
    rw [hE]
    clear hWd hg hE
    go_enter Tryz.func7, Tryz.ntmps7
    go_wp2_with fail
    rw [← HW.out]
    refine hcall.mono ?_
    rintro e w1 ⟨B, rfl, _, hG, hB⟩
    have hfd := find_bad hG ⟨#[109, 97, 105, 110]⟩ n hn
    clear hG hcall
    go_wp2_with fail
    refine hfd.mono ?_
    rintro e w2 ⟨rfl, hb2⟩
    go_wp2
    go_ret
    exact ⟨_, rfl, World.ownsRow_nil _ _ _ _, hWB.trans ((hB.trans (hb2.mono hB.size)).mono hWB.size)⟩
end Go.Proofs.YtimgafblpmjajaaGreat
namespace Go.Proofs.YtimgafblpmjajaaGreat

open Go.RowKit

/-- What is asked of impl.ShortestRing. -/
def RingOk : Prop := ∀ (v : Value) (D : Wd) (w : World), Wds w v D → D.t ≤ 1048576 →
  Calls Tryz.prog 10 #[v] w fun e w' => ∃ v', e = .returned v' ∧ w'.ownsRow w.heap.size 9 1 v' (shortOf D).length ((shortOf D).map strV) ∧ Below w.heap.size w w'

end Go.Proofs.YtimgafblpmjajaaGreat
