import Derived.Test.YtimgafblpmjajaaRows
import Derived.Test.YtimgafblpmjajaaTriesW
import Derived.WalkKit
import Derived.ProofKit
import Derived.OpenShut
import Derived.ShutString
import Derived.ChangeOld
import Derived.Below
import Derived.SliceStrings
namespace Go.Proofs.Ytimgafblpmjajaa.fnExactTries
open Go.ChangeShapes Go.WideShapes Go.ChangeAt Go.RowKit
open Go.ChangeMaps (open_string shut_string)
set_option linter.unusedVariables false

theorem own : ownKnob Try.prog.godebug = none := by kernel_rfl
theorem laidOut : laidOutB Try.prog = true := by kernel_rfl

set_option maxRecDepth 100000 in
set_option maxHeartbeats 1000000 in
theorem walk (v0 : Value) (L : List (List UInt8)) (f s : ByteArray) (w : World) (hv : Strs w v0 L) (hL : ∀ l ∈ L, l.length ≤ maxLen) (hf : f.size ≤ maxLen) (hs : s.size ≤ maxLen) :
    Calls Try.prog 6 #[v0, .string f, .string s] w fun e w' => e = .returned (.bool true) ∧ Below w.heap.size w w' := by
  by_cases h20 : 1048576 < f.size
  · unfold maxLen at hf
    clear hv
    go_enter Try.func6, Try.ntmps6
    go_wp2
    go_ret
    exact ⟨rfl, Below.refl _ _⟩
  · by_cases h21 : 1048576 < s.size
    · unfold maxLen at hs
      clear hv
      go_enter Try.func6, Try.ntmps6
      go_wp2
      go_ret
      exact ⟨rfl, Below.refl _ _⟩
    · by_cases hl : Pl.total L ≤ 1048576
      · exact lawTries v0 L f s w hv hl hL (by omega) (by omega)
      · have hsz := sz_any v0 L w hv hL
        rw [if_neg hl] at hsz
        clear hl hL hv
        go_enter Try.func6, Try.ntmps6
        go_wp2_with fail
        refine hsz.mono ?_
        rintro e w' ⟨rfl, rfl⟩
        go_wp2
        go_ret
        exact ⟨rfl, Below.refl _ _⟩

set_option maxRecDepth 100000 in
theorem lifted (os : Os) (started : os.Started) (H : Type) (enc : TypeId × Value → H) :
    ReturnsInHanded {} Try.checked os 6 .any (Rows.fnExactTriesSpec.pre6 enc Try.prog Try.f6 Rows.fnExactTriesRow.domain false) (Rows.fnExactTriesSpec.post enc Try.prog Try.f6 false true false false) := by
  refine returnsInHanded_of_change (C := Try.checked) own started (by kernel_rfl) Try.func6
    (ChangeSpec.witness6 (enc := enc) (C := Try.checked) false ⟨#[], #[.slice none 0 0, .string ByteArray.empty, .string ByteArray.empty], []⟩ 8 (by kernel_rfl) (by kernel_rfl) (by kernel_rfl) (by kernel_rfl)) ?_
  intro W base args ds gs before hval0 hW hcnd _
  have hval : ∀ (j : Nat) t v, Try.f6.params[j]? = some t → args[j]? = some v → Value.okWide Try.prog W .any base t v := hval0
  have hW' := hW
  obtain ⟨p, q, hA0, hV, rfl, hfz, hnd⟩ := hW
  have hA : DataW.TrodAll enc Try.prog W 0 (fun _ => true) true Try.f6.params.toList args.toList ds p := hA0
  rw [Try.params6] at hA hval
  obtain ⟨v0, vs0, d0, ds0, p0, q0, hargs, rfl, rfl, h0, r0⟩ := trodAll_cons hA
  obtain ⟨v1, vs1, d1, ds1, p1, q1, rfl, rfl, rfl, h1, r1⟩ := trodAll_cons r0
  obtain ⟨v2, vs2, d2, ds2, p2, q2, rfl, rfl, rfl, h2, r2⟩ := trodAll_cons r1
  obtain ⟨rfl, rfl, rfl⟩ := trodAll_nil r2
  obtain rfl : args = #[v0, v1, v2] := by cases args; simp_all
  obtain ⟨rfl, rfl⟩ := trodVars_none hV
  obtain ⟨a0, len0, cap0, rfl⟩ := okWide_slice Try.underlying27 (hval 0 27 v0 rfl rfl)
  have k0 := h0
  have lt0 : ∀ x ∈ p0, x.block < W.heap.size := by obtain ⟨m, hm⟩ := k0; exact DataW.trod_lt m _ _ _ hm
  obtain ⟨L, hL1, hL2⟩ : ∃ L, Strs W (.slice a0 len0 cap0) L ∧ ∀ l ∈ L, l.length ≤ maxLen := by
    obtain ⟨fuel, hf⟩ := h0
    rcases open_strings Try.underlying27 Try.underlying9 (by kernel_rfl) hf with ⟨hcs, _⟩ | ⟨x, l, c, ss, hcs, _, hl, hm, hz, _, hcell, hws⟩
    · simp [Value.cells] at hcs
      obtain ⟨rfl, rfl, rfl⟩ := hcs
      exact ⟨[], ⟨none, 0, rfl, Nat.le_refl _, by decide, fun k hk => absurd hk (by simp)⟩, fun l h => by simp at h⟩
    · simp [Value.cells] at hcs
      obtain ⟨rfl, rfl, rfl⟩ := hcs
      have hsl : ss.length = cap0 := by simpa using hz
      refine ⟨(ss.take len0).map (·.data.toList), ⟨some x, cap0, ?_, ?_, hm, fun k hk => ?_⟩, fun l h => ?_⟩
      · congr 1; rw [List.length_map, List.length_take]; omega
      · rw [List.length_map, List.length_take]; omega
      · have hk' : k < len0 := by rw [List.length_map, List.length_take] at hk; omega
        have hc := hcell k (by omega)
        obtain ⟨b, off, spot⟩ := x
        have hspot : spot = none := by simpa [Addr.add] using World.cell?_spot (hcell 0 (by omega))
        subst hspot
        have hadd : (⟨b, off, none⟩ : Addr).add k = ⟨b, off + k, none⟩ := by
          unfold Addr.add
          split
          · rename_i hk0; rw [hk0]; rfl
          · rfl
        have hc' : W.cell? ⟨b, off + k, none⟩ = some (.string (ss.getD k ByteArray.empty)) := by rw [← hadd]; exact hc
        refine ⟨b, off, rfl, ?_, ?_⟩
        · unfold World.cell? at hc'
          cases hh : W.heap[b]? with
          | none => rw [hh] at hc'; simp at hc'
          | some o => exact (Array.getElem?_eq_some_iff.1 hh).1
        · rw [hc']
          have hks : k < ss.length := by omega
          have e1 : ss.getD k ByteArray.empty = ss[k] := by simp [List.getD, hks]
          rw [e1, List.getElem_map, List.getElem_take, strV_data]
      · rw [List.mem_map] at h
        obtain ⟨b, hb, rfl⟩ := h
        have := hws b (List.mem_of_mem_take hb)
        rw [← size_data]; exact this
  obtain ⟨a1, rfl, rfl, rfl, w1⟩ := open_string Try.underlying9 (hval 1 9 v1 rfl rfl) h1
  obtain ⟨a2, rfl, rfl, rfl, w2⟩ := open_string Try.underlying9 (hval 2 9 v2 rfl rfl) h2
  clear hA0 hval0
  refine (walk (.slice a0 len0 cap0) L a1 a2 W hL1 hL2 w1 w2).mono fun e W' ⟨he, bel⟩ => ?_
  subst he
  exact ⟨_, rfl, _, _, _, [], _, [], hW', trodAll_mk1 (shut_bool Try.underlying4 _), (trodAll_cons_mk (Below.trod laidOut (by kernel_rfl) (of_decide_eq_true (by kernel_rfl)) k0 bel lt0) (trodAll_cons_mk (shut_string Try.underlying9 w1) (trodAll_cons_mk (shut_string Try.underlying9 w2) trodAll_mk0))), rfl, bel.frame _, fun h => by cases h⟩

theorem over : Rows.fnExactTriesRow.holds Try.pinned (OpenSpec.ofChange Rows.fnExactTriesSpec) :=
  OpenClaim.holds_of_wide 6 Try.f6 rfl rfl rfl rfl rfl rfl rfl ⟨rfl, rfl, rfl, rfl, rfl⟩ rfl rfl rfl rfl rfl (by kernel_rfl) Try.func6 (by kernel_rfl)
    (of_decide_eq_true (by kernel_rfl)) (by unfold Func.isWrapper; first | (rw [if_pos (by decide +kernel)]; kernel_rfl) | (rw [if_neg (by decide +kernel)]; exact ⟨rfl, rfl⟩))
    (fun os started H enc _ => lifted os started H enc)

theorem proved : Rows.FnExactTriesSaid := over
end Go.Proofs.Ytimgafblpmjajaa.fnExactTries
namespace Go.Proofs.Ytimgafblpmjajaa
theorem fnExactTries_holds : Rows.FnExactTriesSaid := fnExactTries.proved
#print axioms fnExactTries_holds
end Go.Proofs.Ytimgafblpmjajaa
