
import Derived.Test.YtimgafblpmjajabGreatGe

namespace Go.Proofs.YtimgafblpmjajabGreat

open Go.RowKit

theorem Tryz.info75 : (Tryz.prog.info? 54).map (fun i => (i.zero, i.size, i.bytes)) = some (some (.agg #[.int .i64 0, .int .i64 0, .int .i64 0]), 3, 24) := by kernel_rfl
theorem grown_keep {w w' : World} {row : Option Nat} {b : Nat} (hg : w.grownBy w' row) (hb : b < w.heap.size) (hne : row ≠ some b) : w'.heap[b]? = w.heap[b]? := hg.block b hb (fun e => hne e.symm)
theorem new_blk (w : World) (o : Obj) : (w.alloc o).heap[w.heap.size]? = some o := by show (w.heap.push o)[w.heap.size]? = some o; simp
theorem egR_snoc (F : List Eg) (a b c : Int) : (F ++ [(⟨a, b, c⟩ : Eg)]).flatMap egR = F.flatMap egR ++ [.int .i64 a, .int .i64 b, .int .i64 c] := by simp [egR]
theorem old_blk (w : World) (o : Obj) {b : Nat} (h : b < w.heap.size) : (w.alloc o).heap[b]? = w.heap[b]? := ((Below.refl w.heap.size w).alloc (Nat.le_refl _) o).block b h
theorem blk_ne {w : World} {B : Nat} {cs : Array Value} {t e : TypeId} {fr : Nat × Nat} {base size n : Nat} {v : Value} {xs : List Value} (hB : w.heap[B]? = some (.cells cs t fr)) (h : w.ownsRow base e size v n xs) (hne : t ≠ e) : v.ownBlock ≠ some B := fun hv => by
  rcases h.2 with ⟨rfl, _⟩ | ⟨g, cap, cur, rfl, _, hg, _⟩
  · simp [Value.ownBlock] at hv
  · simp [Value.ownBlock] at hv
    subst hv
    rw [hB] at hg
    simp at hg
    exact hne hg.2.1
theorem new3' (w : World) (a b c : Value) (t : TypeId) : ∀ j u, [a, b, c][j]? = some u → (w.alloc (.cells #[a, b, c] t)).cell? ((⟨w.heap.size, 0, none⟩ : Addr).add j) = some u := by
  intro j u hj
  match j with
  | 0 => simp at hj; subst hj; simp [Addr.add]
  | 1 => simp at hj; subst hj; simp [Addr.add]
  | 2 => simp at hj; subst hj; simp [Addr.add]
  | j + 3 => simp at hj

set_option maxHeartbeats 8000000 in
set_option maxRecDepth 100000 in
theorem specEdges_any (v : Value) (D : Wd) (w : World) (h : Wds w v D) (hD : D.t ≤ 1048576) :
    Calls Tryz.prog 7 #[v] w fun e w' => ∃ v', e = .returned v' ∧ w'.ownsRow w.heap.size 54 3 v' (edgesOf D).length ((edgesOf D).flatMap egR) ∧ Below w.heap.size w w' := by
  obtain ⟨i75, hi, hz0, hz1, hz2⟩ := info_parts Tryz.info75
  obtain ⟨a1, a2, a3, k1, k2, k3, rfl⟩ := h.agg'
  obtain ⟨W, hW⟩ : ∃ W, W = w.alloc (.cells #[.slice a1 D.roots.length k1, .slice a2 D.mods.length k2, .slice a3 D.faults.length k3] 32) := ⟨_, rfl⟩
  have hWB : Below w.heap.size w W := by rw [hW]; exact (Below.refl _ _).alloc (Nat.le_refl _) _
  have hWs : W.heap.size = w.heap.size + 1 := by rw [hW]; simp
  have hc3 := cells3 w (.slice a1 D.roots.length k1) (.slice a2 D.mods.length k2) (.slice a3 D.faults.length k3) 32
  rw [← hW] at hc3
  have hWd := h.below hWB (Nat.le_refl _)
  have HWD : Hid (Wds W (.agg #[.slice a1 D.roots.length k1, .slice a2 D.mods.length k2, .slice a3 D.faults.length k3]) D) := hWd
  have hmods : Mds W (.slice a2 D.mods.length k2) D.mods := by
    obtain ⟨r, m, f, hv, h1, h2, h3⟩ := hWd
    have : m = .slice a2 D.mods.length k2 := by simp at hv; exact hv.2.1.symm
    rw [← this]; exact h2
  have hok := l4ok_any _ D W hWd hD
  have hml : D.mods.length ≤ 1048576 := by unfold Wd.t mdsT at hD; omega
  have HW : Hid (W = w.alloc (.cells #[.slice a1 D.roots.length k1, .slice a2 D.mods.length k2, .slice a3 D.faults.length k3] 32)) := hW
  have HTO : Hid (∀ (f n : ByteArray) (V : World), Wds V (.agg #[.slice a1 D.roots.length k1, .slice a2 D.mods.length k2, .slice a3 D.faults.length k3]) D → f.size ≤ 1048576 → n.size ≤ 1048576 → Calls Tryz.prog 26 #[.agg #[.slice a1 D.roots.length k1, .slice a2 D.mods.length k2, .slice a3 D.faults.length k3], .string f, .string n] V fun e w' => e = .returned (.int .i64 (toOf D f.data.toList n.data.toList)) ∧ Below V.heap.size V w') := fun f n V hV hf hn => l4to_any _ D f n V hV hD hf hn
  have hmt : mdsT D.mods ≤ 1048576 := by unfold Wd.t at hD; omega
  have HLE : Hid (lineN D.mods ≤ 1048576) := by unfold Hid; have := lineN_le D.mods; omega
  have HMS : Hid (∀ m ∈ D.mods, m.t ≤ 1048576) := fun m hm => by
    have h1 : m.t ≤ (D.mods.map Md.t).sum := mem_le_sum _ _ (List.mem_map.2 ⟨m, hm, rfl⟩)
    unfold mdsT at hmt; omega
  clear hW h hWd hmt
  by_cases hgood : (wok D).1 = 0
  · have hdec : decide ((wok D).1 = 0) = true := by simpa using hgood
    rw [hdec] at hok
    have hE : edgesOf D = modE D 0 D.mods := by unfold edgesOf; rw [if_pos hgood]
    rw [hE]
    obtain ⟨am, capm, hvm, hcapm, hmaxm, hcm⟩ := hmods
    have HCM : Hid (∀ k, (hk : k < D.mods.length) → ∃ b o s, a2 = some ⟨b, o, none⟩ ∧ b < W.heap.size ∧
      W.cell? ⟨b, o + k * 2, none⟩ = some (strV D.mods[k].name) ∧ W.cell? ⟨b, o + k * 2 + 1, none⟩ = some s ∧ Lns W s D.mods[k].lines) := by
      cases hvm; exact hcm
    have hk2 : D.mods.length ≤ k2 := by cases hvm; exact hcapm
    clear hdec hgood hE hcm hvm hmaxm hcapm
    go_enter Tryz.func7, Tryz.ntmps7
    go_wp2_with fail
    rw [← HW.out]
    refine hok.mono ?_
    rintro e w1 ⟨rfl, hb1⟩
    have x1 := below_cell0 hb1 (by omega) hc3.2.1
    go_wp2
    go_loopw [3, 14] (fun vo i wr => ∃ k : Nat, k ≤ D.mods.length ∧ i = .int .i64 k ∧ wr.ownsRow W.heap.size 54 3 vo (modE D 0 (D.mods.take k)).length ((modE D 0 (D.mods.take k)).flatMap egR) ∧ Below W.heap.size W wr) (fun _ i _ => D.mods.length - (intOf i).toNat)
    case atStart => exact ⟨0, Nat.zero_le _, rfl, World.ownsRow_nil _ _ _ _, hb1⟩
    case round =>
      obtain ⟨k, hk, rfl, hown, hB⟩ := hrel
      by_cases hlt : k < D.mods.length
      · obtain ⟨b, o, ls, rfl, hb, h0, h1, h2⟩ := HCM.out k hlt
        obtain ⟨la, lcap, rfl⟩ := h2.slice
        obtain ⟨hs1, hs2, hs3⟩ := Md.small (HMS.out _ (List.getElem_mem hlt))
        obtain ⟨ns, hns⟩ : ∃ ns : ByteArray, ns.data.toList = D.mods[k].name := ⟨⟨D.mods[k].name.toArray⟩, by simp⟩
        have hnv : strV D.mods[k].name = .string ns := by rw [← hns, strV_data]
        rw [hnv] at h0
        have hnsz : ns.size ≤ 1048576 := by rw [size_data, hns]; exact hs1
        have y0 := below_cell0 hB hb h0
        have y1 := below_cell0 hB hb h1
        obtain ⟨L, hL⟩ : ∃ L, L = D.mods[k].lines := ⟨_, rfl⟩
        have hEk : modE D 0 (D.mods.take (k + 1)) = modE D 0 (D.mods.take k) ++ lineE D k D.mods[k].name 0 D.mods[k].lines := by
          rw [List.take_succ_eq_append_getElem hlt, modE_snoc, List.length_take, Nat.min_eq_left (by omega), Nat.zero_add]
        have hEl : (modE D 0 (D.mods.take (k + 1))).length ≤ 1048576 := by
          have e1 := modE_len D (D.mods.take (k + 1)) 0
          have e2 := lineN_mono D.mods (k + 1)
          have e3 := HLE.out
          omega
        rw [← hL, ← hns] at hEk
        rw [← hL] at h2 hs2 hs3 y1
        obtain ⟨E, hE⟩ : ∃ E, E = modE D 0 (D.mods.take k) := ⟨_, rfl⟩
        rw [← hE] at hown hEk
        obtain ⟨NM, hNM⟩ : ∃ NM, NM = ns.data.toList := ⟨_, rfl⟩
        rw [← hNM] at hEk
        have HEK : Hid (modE D 0 (D.mods.take (k + 1)) = E ++ lineE D k NM 0 L) := hEk
        have HNM : Hid (NM = ns.data.toList) := hNM
        have hEL2 : (E ++ lineE D k NM 0 L).length ≤ 1048576 := by rw [← hEk]; exact hEl
        have hsplit : ∀ q, q ≤ L.length → (E ++ lineE D k NM 0 (L.take q)).length ≤ (E ++ lineE D k NM 0 L).length := fun q hq => by
          have : lineE D k NM 0 L = lineE D k NM 0 (L.take q) ++ lineE D k NM q (L.drop q) := by
            have h := lineE_app D k NM (L.take q) (L.drop q) 0
            rw [List.take_append_drop, List.length_take, Nat.min_eq_left hq, Nat.zero_add] at h
            exact h
          rw [this]; simp only [List.length_append]; omega
        have HSP : Hid (∀ q, q ≤ L.length → (E ++ lineE D k NM 0 (L.take q)).length ≤ 1048576) := fun q hq => Nat.le_trans (hsplit q hq) hEL2
        obtain ⟨al, capl, hvl, hcapl, hmaxl, hcl⟩ := h2
        have HCL : Hid (∀ q, (hq : q < L.length) → ∃ b o, la = some ⟨b, o, none⟩ ∧ b < W.heap.size ∧
          W.cell? ⟨b, o + q * 4, none⟩ = some (.int .i64 L[q].op) ∧ W.cell? ⟨b, o + q * 4 + 1, none⟩ = some (strV L[q].name) ∧ W.cell? ⟨b, o + q * 4 + 2, none⟩ = some (.int .i64 L[q].num) ∧ W.cell? ⟨b, o + q * 4 + 3, none⟩ = some (.int .i64 L[q].skip)) := by
          cases hvl; exact hcl
        have hlc : L.length ≤ lcap := by cases hvl; exact hcapl
        have HS3 : Hid (∀ l ∈ L, l.name.length ≤ 1048576) := hs3
        have hszB := hB.size
        clear h0 h1 hs1 hnv hns hL hEk hEl hE hNM hEL2 hsplit hvl hcapl hmaxl hcl hs3
        have HE0 : Hid (E ++ lineE D k NM 0 (L.take 0) = E) := by unfold Hid; simp [lineE]
        obtain ⟨wo, rfl⟩ : ∃ wo, wo = wr := ⟨_, rfl⟩
        go_wp2
        go_loopw [3, 22] (fun vo j wi => ∃ q : Nat, q ≤ L.length ∧ j = .int .i64 q ∧ wi.ownsRow W.heap.size 54 3 vo (E ++ lineE D k NM 0 (L.take q)).length ((E ++ lineE D k NM 0 (L.take q)).flatMap egR) ∧ Below W.heap.size W wi ∧ wo.heap.size < wi.heap.size ∧ wi.heap[wo.heap.size]? = some (.cells #[.string ns, .slice la L.length lcap] 49 (0, 0))) (fun _ j _ => L.length - (intOf j).toNat)
        case atStart => exact ⟨0, Nat.zero_le _, rfl, by rw [HE0.out]; exact hown.alloc _, hB.alloc hszB _, by simp, new_blk _ _⟩
        case round =>
          obtain ⟨q, hq, rfl, hown2, hB2, hzi, hbx⟩ := hrel
          have hszB2 := hB2.size
          have z0' : wr.cell? ⟨wo.heap.size, 0, none⟩ = some (.string ns) := by simp [World.cell?, hbx]
          have z0 := fun o' => below_cell0 ((Below.refl wr.heap.size wr).alloc (Nat.le_refl _) o') hzi z0'
          clear z0'
          have x0 := fun o' => below_cell0 ((Below.refl wr.heap.size wr).alloc (Nat.le_refl _) o') (by omega) (below_cell0 hB2 (by omega) hc3.1)
          have x1 := fun o' => below_cell0 ((Below.refl wr.heap.size wr).alloc (Nat.le_refl _) o') (by omega) (below_cell0 hB2 (by omega) hc3.2.1)
          have x2 := fun o' => below_cell0 ((Below.refl wr.heap.size wr).alloc (Nat.le_refl _) o') (by omega) (below_cell0 hB2 (by omega) hc3.2.2)
          by_cases hlq : q < L.length
          · obtain ⟨b', o', rfl, hb', l0, l1, l2, l3⟩ := HCL.out q hlq
            obtain ⟨ln, hln⟩ : ∃ ln : ByteArray, ln.data.toList = L[q].name := ⟨⟨L[q].name.toArray⟩, by simp⟩
            have hlv : strV L[q].name = .string ln := by rw [← hln, strV_data]
            rw [hlv] at l1
            have hlnsz : ln.size ≤ 1048576 := by rw [size_data, hln]; exact HS3.out _ (List.getElem_mem hlq)
            have m0 := below_cell0 hB2 hb' l0
            have m1 := below_cell0 hB2 hb' l1
            have m2 := below_cell0 hB2 hb' l2
            have m3 := below_cell0 hB2 hb' l3
            have hsn : E ++ lineE D k NM 0 (L.take (q + 1)) = (E ++ lineE D k NM 0 (L.take q)) ++ (if L[q].op = 3 ∨ L[q].op = 4 then [⟨(k : Int), (q : Int), toOf D NM L[q].name⟩] else []) := by
              rw [List.take_succ_eq_append_getElem hlq, lineE_snoc, List.length_take, Nat.min_eq_left (by omega), Nat.zero_add, List.append_assoc]
            rw [← hln] at hsn
            have hspq := HSP.out q (by omega)
            obtain ⟨F, hF⟩ : ∃ F, F = E ++ lineE D k NM 0 (L.take q) := ⟨_, rfl⟩
            rw [← hF] at hsn hown2 hspq
            obtain ⟨op, hop⟩ : ∃ op, op = L[q].op := ⟨_, rfl⟩
            obtain ⟨nu, hnu⟩ : ∃ nu, nu = L[q].num := ⟨_, rfl⟩
            obtain ⟨sk, hsk⟩ : ∃ sk, sk = L[q].skip := ⟨_, rfl⟩
            rw [← hop] at hsn m0
            rw [← hnu] at m2
            rw [← hsk] at m3
            have HSN : Hid (E ++ lineE D k NM 0 (L.take (q + 1)) = F ++ (if op = 3 ∨ op = 4 then [⟨(k : Int), (q : Int), toOf D NM ln.data.toList⟩] else [])) := hsn
            have hcall := fun V (hV : Wds V (.agg #[.slice a1 D.roots.length k1, .slice (some ⟨b, o, none⟩) D.mods.length k2, .slice a3 D.faults.length k3]) D) => HTO.out ns ln V hV hnsz hlnsz
            rw [← HNM.out] at hcall
            obtain ⟨tt, htt⟩ : ∃ tt, tt = toOf D NM ln.data.toList := ⟨_, rfl⟩
            rw [← htt] at hcall
            have HTT : Hid (tt = toOf D NM ln.data.toList) := htt
            have HCALL : Hid (∀ V, Wds V (.agg #[.slice a1 D.roots.length k1, .slice (some ⟨b, o, none⟩) D.mods.length k2, .slice a3 D.faults.length k3]) D → Calls Tryz.prog 26 #[.agg #[.slice a1 D.roots.length k1, .slice (some ⟨b, o, none⟩) D.mods.length k2, .slice a3 D.faults.length k3], .string ns, .string ln] V fun e w' => e = .returned (.int .i64 tt) ∧ Below V.heap.size V w') := hcall
            have hWi := HWD.out.below hB2 (Nat.le_refl _)
            clear l0 l1 l2 l3 hlv hln hsn hF hop hnu hsk hcall htt
            have hgo : ∀ (hyes : op = 3 ∨ op = 4), (op == 3) = true ∨ (op == 3) = false ∧ (op == 4) = true := fun hy => by
              rcases hy with rfl | rfl
              · exact .inl rfl
              · exact .inr ⟨rfl, rfl⟩
            by_cases hyes : op = 3 ∨ op = 4
            · have HF : Hid (E ++ lineE D k NM 0 (L.take (q + 1)) = F ++ [⟨(k : Int), (q : Int), tt⟩]) := by unfold Hid; rw [HSN.out, if_pos hyes, HTT.out]
              obtain ⟨af, capf, rfl, hcapf, _⟩ := row_form hown2
              rcases hgo hyes with h3 | ⟨h3, h4⟩
              · clear hyes hgo
                go_wp2_with fail
                refine (HCALL.out _ (hWi.below ((Below.refl wr.heap.size wr).alloc (Nat.le_refl _) _) (Nat.le_refl _))).mono ?_
                rintro e w3 ⟨rfl, hb3⟩
                have hown3 := own_below (hown2.alloc (.cells #[.int .i64 op, .string ln, .int .i64 nu, .int .i64 sk] 51)) hb3 (Nat.le_refl _)
                have hz34 : wr.heap.size < w3.heap.size := by have := hb3.size; simp at this; omega
                have hB3 : Below W.heap.size W w3 := (hB2.alloc hszB2 _).trans (hb3.mono (by simp; omega))
                have hbx3 : w3.heap[wo.heap.size]? = some (.cells #[.string ns, .slice (some ⟨b', o', none⟩) L.length lcap] 49 (0, 0)) := (hb3.block _ (by simp; omega)).trans ((old_blk _ _ hzi).trans hbx)
                have hz3 : wo.heap.size < w3.heap.size := by omega
                have hszB3 := hB3.size
                clear hown2 hb3 hbx x0 x1 x2 m0 m1 m2 m3 z0 hWi
                go_wp2_with (at_builtin; refine wpList_append_own_at _ rfl _ _ 28 rfl W.heap.size 54 i75 _ 3 24 Tryz.underlying28 hi hz0 hz1 hz2 rfl (by decide) _ _ _ rfl (hown3.alloc _) ⟨w3.heap.size, 0, none⟩ 1 1 [Value.int .i64 (k : Int), Value.int .i64 (q : Int), Value.int .i64 tt] rfl rfl (new3' _ _ _ _ _) (by intro u hu; simp at hu; rcases hu with rfl | rfl | rfl <;> rfl) (by unfold maxLen; omega) (by omega) (by simp; omega) ?_; intro v' w4 hown4 hgrow hnil hloc; have hbx4 : w4.heap[wo.heap.size]? = some (.cells #[.string ns, .slice (some ⟨b', o', none⟩) L.length lcap] 49 (0, 0)) := (grown_keep hgrow (by simp; omega) (blk_ne hbx3 hown3 (by decide))).trans ((old_blk _ _ hz3).trans hbx3); have hB4 := below_append hB3 hszB3 hown3 hgrow; have hz4 : wo.heap.size < w4.heap.size := (by have := hgrow.size; simp at this; omega); clear hgrow hnil hloc hown3 hbx3)
                go_roundw
                case rel => exact ⟨q + 1, by omega, by go_num, by rw [HF.out, List.length_append, List.length_singleton, egR_snoc]; exact hown4, hB4, hz4, hbx4⟩
                case measure => simp [intOf]; omega
              · clear hyes hgo
                go_wp2_with fail
                refine (HCALL.out _ (hWi.below ((Below.refl wr.heap.size wr).alloc (Nat.le_refl _) _) (Nat.le_refl _))).mono ?_
                rintro e w3 ⟨rfl, hb3⟩
                have hown3 := own_below (hown2.alloc (.cells #[.int .i64 op, .string ln, .int .i64 nu, .int .i64 sk] 51)) hb3 (Nat.le_refl _)
                have hz34 : wr.heap.size < w3.heap.size := by have := hb3.size; simp at this; omega
                have hB3 : Below W.heap.size W w3 := (hB2.alloc hszB2 _).trans (hb3.mono (by simp; omega))
                have hbx3 : w3.heap[wo.heap.size]? = some (.cells #[.string ns, .slice (some ⟨b', o', none⟩) L.length lcap] 49 (0, 0)) := (hb3.block _ (by simp; omega)).trans ((old_blk _ _ hzi).trans hbx)
                have hz3 : wo.heap.size < w3.heap.size := by omega
                have hszB3 := hB3.size
                clear hown2 hb3 hbx x0 x1 x2 m0 m1 m2 m3 z0 hWi
                go_wp2_with (at_builtin; refine wpList_append_own_at _ rfl _ _ 28 rfl W.heap.size 54 i75 _ 3 24 Tryz.underlying28 hi hz0 hz1 hz2 rfl (by decide) _ _ _ rfl (hown3.alloc _) ⟨w3.heap.size, 0, none⟩ 1 1 [Value.int .i64 (k : Int), Value.int .i64 (q : Int), Value.int .i64 tt] rfl rfl (new3' _ _ _ _ _) (by intro u hu; simp at hu; rcases hu with rfl | rfl | rfl <;> rfl) (by unfold maxLen; omega) (by omega) (by simp; omega) ?_; intro v' w4 hown4 hgrow hnil hloc; have hbx4 : w4.heap[wo.heap.size]? = some (.cells #[.string ns, .slice (some ⟨b', o', none⟩) L.length lcap] 49 (0, 0)) := (grown_keep hgrow (by simp; omega) (blk_ne hbx3 hown3 (by decide))).trans ((old_blk _ _ hz3).trans hbx3); have hB4 := below_append hB3 hszB3 hown3 hgrow; have hz4 : wo.heap.size < w4.heap.size := (by have := hgrow.size; simp at this; omega); clear hgrow hnil hloc hown3 hbx3)
                go_roundw
                case rel => exact ⟨q + 1, by omega, by go_num, by rw [HF.out, List.length_append, List.length_singleton, egR_snoc]; exact hown4, hB4, hz4, hbx4⟩
                case measure => simp [intOf]; omega
            · have HF : Hid (E ++ lineE D k NM 0 (L.take (q + 1)) = F) := by unfold Hid; rw [HSN.out, if_neg hyes, List.append_nil]
              have h3 : (op == 3) = false := by simp; exact fun e => hyes (.inl e)
              have h4 : (op == 4) = false := by simp; exact fun e => hyes (.inr e)
              clear hyes hgo
              go_wp2
              go_roundw
              case rel => exact ⟨q + 1, by omega, by go_num, by rw [HF.out]; exact hown2.alloc _, hB2.alloc hszB2 _, by simp; omega, (old_blk _ _ hzi).trans hbx⟩
              case measure => simp [intOf]; omega
          · have HQ : Hid (L.take q = L) := List.take_of_length_le (by omega)
            rw [HQ.out, ← HEK.out] at hown2
            go_wp2
            go_roundw
            case rel => exact ⟨k + 1, by omega, by go_num, hown2, hB2⟩
            case measure => simp [intOf]; omega
      · have HK : Hid (D.mods.take k = D.mods) := List.take_of_length_le (by omega)
        rw [HK.out] at hown
        go_wp2
        go_ret
        exact ⟨_, rfl, own_mono hown hWB.size, hWB.trans (hB.mono hWB.size)⟩
  · have hdec : decide ((wok D).1 = 0) = false := by simpa using hgood
    rw [hdec] at hok
    have hE : edgesOf D = [] := by unfold edgesOf; rw [if_neg hgood]
    rw [hE]
    clear hdec hgood hE hmods
    go_enter Tryz.func7, Tryz.ntmps7
    go_wp2_with fail
    rw [← HW.out]
    refine hok.mono ?_
    rintro e w1 ⟨rfl, hb1⟩
    go_wp2
    go_ret
    exact ⟨_, rfl, World.ownsRow_nil _ _ _ _, hWB.trans (hb1.mono hWB.size)⟩
end Go.Proofs.YtimgafblpmjajabGreat
