import Derived.Test.YtimgafblpmjajabGreatHg
namespace Go.Proofs.YtimgafblpmjajabGreat
open Go.RowKit Go.Maps

theorem addTry_name {out : List (List UInt8)} {x : Int × List UInt8} (h : ∀ t ∈ out, t.length ≤ 60) (hx : x.2.length ≤ 60) : ∀ t ∈ Pl.addTry out x, t.length ≤ 60 := by
  unfold Pl.addTry
  split
  · split
    · exact h
    · intro t ht
      rcases List.mem_append.1 ht with ht | ht
      · exact h t ht
      · simp at ht; subst ht; exact hx
  · exact h
theorem foldTry_name (n : List UInt8) : ∀ (L : List (List UInt8)) (out : List (List UInt8)), (∀ t ∈ out, t.length ≤ 60) → ∀ t ∈ L.foldl (fun out r => Pl.addTry out (Pl.nm [] (Pl.rooted r n))) out, t.length ≤ 60
  | [], _, h => h
  | _ :: L, _, h => foldTry_name n L _ (addTry_name h (Pl.nm_len _ _))
theorem Pl.tries_name (L : List (List UInt8)) (f s : List UInt8) : ∀ t ∈ Pl.tries L f s, t.length ≤ 60 := by
  unfold Pl.tries
  split
  · simp
  · split
    · split
      · intro t ht
        simp at ht
        subst ht
        unfold Pl.wn
        split
        · exact Pl.nm_len _ _
        · simp
      · simp
    · split
      · exact foldTry_name _ L [] (by simp)
      · simp

theorem look_at {w : World} {mb n : Nat} {DM : DataW Unit} (h : w.ownsMap Tryz.prog 106 (plainElem Tryz.prog 3) mb n DM) {key : Value} {kl : Lit} (hkey : keyOf Tryz.prog 106 key = some kl) :
    ∃ c : Int, (Instr.lookup 59 (.map (some mb)) key true).run Tryz.prog w = .ok (.tuple #[.int .i64 c, .bool (Maps.has DM kl)]) w ∧ DM.atKey kl (.lit (.int .i64 0)) = .lit (.int .i64 c) := by
  obtain ⟨v, ps, hrun, hv⟩ := h.look_ok (t := 59) (e := 3) lawK Tryz.underlying59 (zero3 _) (zd := .lit (.int .i64 0)) (zp := []) (plainElem_int Tryz.underlying3 (by decide)) hkey
  obtain ⟨c, rfl, hc, _⟩ := plainElem_int_inv Tryz.underlying3 hv
  exact ⟨c, hrun, congrArg Prod.fst hc⟩

set_option maxHeartbeats 4000000 in
set_option maxRecDepth 100000 in
theorem find_any {lo B mb g : Nat} {w : World} {r m f ve : Value} {S : List Value} {F E : List Eg} {D : Wd} {DM : DataW Unit} (h : Gst lo B mb g w r m f ve S F E D.mods.length DM) (hr : Strs w r D.roots) (hsh : Shelved D.mods D.mods.length DM) (hpl : Placed D.mods D.mods.length DM)
    (fb nb : ByteArray) (hrt : Pl.total D.roots ≤ 1048576) (hn : nb.size ≤ 1048576) :
    Calls Tryz.prog 37 #[.pointer (some ⟨B, 0, none⟩), .string fb, .string nb] w fun e w' => e = .returned (.int .i64 (toOf D fb.data.toList nb.data.toList)) ∧ Below w.heap.size w w' := by
  obtain ⟨c0, c1, c2, c3, c4, c5, cf⟩ := h.cells
  have hlt := h.lt
  have htr := formsToTry_any r D.roots fb nb w hr hrt hn
  obtain ⟨R, hR⟩ : ∃ R, R = toOf D fb.data.toList nb.data.toList := ⟨_, rfl⟩
  have hT8 := Pl.tries_len D.roots fb.data.toList nb.data.toList
  have hTn := Pl.tries_name D.roots fb.data.toList nb.data.toList
  rw [← hR]
  unfold toOf at hR
  obtain ⟨T, hT⟩ : ∃ T, T = Pl.tries D.roots fb.data.toList nb.data.toList := ⟨_, rfl⟩
  rw [← hT] at htr hT8 hR hTn
  obtain ⟨ar, cr, rfl⟩ := hr.slice
  have HR : Hid (R = thereT D T) := hR
  have HTN : Hid (∀ t ∈ T, t.length ≤ 60) := hTn
  have HSH : Hid (Shelved D.mods D.mods.length DM) := hsh
  have HPL : Hid (Placed D.mods D.mods.length DM) := hpl
  have HM : Hid (w.ownsMap Tryz.prog 106 (plainElem Tryz.prog 3) mb D.mods.length DM) := h.sto
  have hmb : mb < w.heap.size := h.sto.lt
  clear hr hsh hpl hR hT hTn hrt hn c1 c2 c4 c5 cf h
  go_enter Tryz.func37, Tryz.ntmps37
  go_wp2_with fail
  refine htr.mono ?_
  rintro e w1 ⟨vt, rfl, hr, hb1⟩
  obtain ⟨at', capt, rfl, hcapt, hmx, hcell⟩ := row_shape49 hr
  have HC : Hid (∀ k, (hk : k < T.length) → ∃ g, at' = some ⟨g, 0, none⟩ ∧ w.heap.size ≤ g ∧ g < w1.heap.size ∧ w1.cell? ⟨g, k, none⟩ = some (strV T[k])) := hcell
  clear hcell hr hmx htr
  go_wp2
  go_loopw [20] (fun i wr => ∃ k : Nat, k ≤ T.length ∧ i = .int .i64 k ∧ Hid (∀ j (hj : j < T.length), j < k → ¬ D.idx T[j] < D.mods.length) ∧ Below w1.heap.size w1 wr) (fun i _ => T.length - (intOf i).toNat)
  case atStart => exact ⟨0, Nat.zero_le _, rfl, fun j _ h => absurd h (by omega), Below.refl _ _⟩
  case round =>
    obtain ⟨k, hk, rfl, hno, hB⟩ := hrel
    have hBW : Below w.heap.size w wr := hb1.trans (hB.mono hb1.size)
    by_cases hlk : k < T.length
    · obtain ⟨gt, rfl, hg0, hg, hc⟩ := HC.out k hlk
      obtain ⟨q, hq⟩ : ∃ q : ByteArray, q.data.toList = T[k] := ⟨⟨T[k].toArray⟩, by simp⟩
      have hcq : wr.cell? ⟨gt, k, none⟩ = some (.string q) := by rw [hB.cell (p := ⟨gt, k, none⟩) hg, hc, ← hq, strV_data]
      have x3 := below_cell0 hBW hlt.1 c3
      have hlen : T[k].length ≤ 60 := HTN.out _ (List.getElem_mem hlk)
      have hkey := key_mk hq (by rw [size_data, hq]; unfold maxLen; omega)
      have hown := map_below HM.out hBW hmb
      have HHAS : Hid (Maps.has DM (keyL T[k]) = decide (D.idx T[k] < D.mods.length)) := has_idx HSH.out (by omega)
      have HQ : Hid (q.data.toList = T[k]) := hq
      obtain ⟨kl, hkl⟩ : ∃ kl, kl = keyL T[k] := ⟨_, rfl⟩
      rw [← hkl] at hkey HHAS
      have HKL : Hid (kl = keyL T[k]) := hkl
      obtain ⟨V, hV⟩ : ∃ V, V = wr.alloc (.cells #[.string q] 106) := ⟨_, rfl⟩
      have z3 : V.cell? ⟨B, 3, none⟩ = some (.map (some mb)) := by rw [hV]; exact below_cell0 ((Below.refl wr.heap.size wr).alloc (Nat.le_refl _) _) (by have := hBW.size; omega) x3
      have z0 : V.cell? ⟨wr.heap.size, 0, none⟩ = some (.string q) := by rw [hV]; simp [go_sem]
      have hownV : V.ownsMap Tryz.prog 106 (plainElem Tryz.prog 3) mb D.mods.length DM := by rw [hV]; exact hown.alloc _
      have HV : Hid (V = wr.alloc (.cells #[.string q] 106)) := hV
      have hVB : Below w1.heap.size w1 V := by rw [hV]; exact hB.alloc hB.size _
      have hVW : Below w.heap.size w V := by rw [hV]; exact hBW.alloc hBW.size _
      clear hkl hq hc hV hown
      by_cases hin : D.idx T[k] < D.mods.length
      · have HTK : Hid (Maps.has DM kl = true) := by unfold Hid; rw [HHAS.out]; simpa using hin
        have HAT : Hid (DM.atKey kl (.lit (.int .i64 0)) = .lit (.int .i64 (D.idx T[k] : Int))) := by unfold Hid; rw [HKL.out]; exact at_idx HPL.out hin
        have HE : Hid (R = (D.idx T[k] : Int)) := by
          unfold Hid
          rw [HR.out, thereT_miss D T k hno.out, List.drop_eq_getElem_cons hlk, thereT, if_pos hin]
        obtain ⟨c, hlk, hat⟩ := look_at (w := V.drew) hownV hkey
        have HC2 : Hid (c = (D.idx T[k] : Int)) := by unfold Hid; rw [HAT.out] at hat; simpa using hat.symm
        rw [HTK.out] at hlk
        clear hin hat hownV hkey
        go_wp2
        rw [← HV.out]
        go_region
        go_wp2
        go_ret
        exact ⟨ret_int (by rw [HE.out, HC2.out]), hVW.drew⟩
      · have HTK : Hid (Maps.has DM kl = false) := by unfold Hid; rw [HHAS.out]; simpa using hin
        have HIN : Hid (¬ D.idx T[k] < D.mods.length) := hin
        obtain ⟨c, hlk, hat⟩ := look_at (w := V.drew) hownV hkey
        rw [HTK.out] at hlk
        clear hin hat hownV hkey
        go_wp2
        rw [← HV.out]
        go_region
        go_wp2
        go_roundw
        case rel => exact ⟨k + 1, by omega, by go_num, fun j hj hjk => by
          by_cases hjk' : j = k
          · subst hjk'; exact HIN.out
          · exact hno.out j hj (by omega), hVB.drew⟩
        case measure => simp [intOf]; omega
    · have HE : Hid (R = -1) := by
        unfold Hid
        rw [HR.out, thereT_miss D T k hno.out, List.drop_eq_nil_of_le (by omega), thereT]
      go_wp2
      go_ret
      exact ⟨ret_int HE.out.symm, hBW⟩
end Go.Proofs.YtimgafblpmjajabGreat
