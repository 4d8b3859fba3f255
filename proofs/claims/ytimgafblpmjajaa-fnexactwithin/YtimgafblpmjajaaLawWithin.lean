import Derived.Test.YtimgafblpmjajaaRows
import Derived.Test.YtimgafblpmjajaaWithin
import Derived.WalkKit
import Derived.ProofKit
import Derived.OpenShut
import Derived.ShutString
import Derived.ChangeOld
import Derived.Below
namespace Go.Proofs.Ytimgafblpmjajaa.fnExactWithin
open Go.ChangeShapes Go.WideShapes Go.ChangeAt Go.RowKit
open Go.ChangeMaps (open_string shut_string)
set_option linter.unusedVariables false

theorem own : ownKnob Try.prog.godebug = none := by kernel_rfl

set_option maxRecDepth 100000 in
set_option maxHeartbeats 1000000 in
theorem walk (a0 a1 : ByteArray) (w0 : a0.size ≤ maxLen) (w1' : a1.size ≤ maxLen) (w : World) :
    Calls Try.prog 5 #[.string a0, .string a1] w fun e w' => e = .returned (.bool true) ∧ Below w.heap.size w w' := by
  unfold maxLen at w0 w1'
  by_cases h20 : 1048576 < a0.size
  · go_enter Try.func5, Try.ntmps5
    go_wp2
    go_ret
    exact ⟨rfl, Below.refl _ _⟩
  · by_cases h21 : 1048576 < a1.size
    · go_enter Try.func5, Try.ntmps5
      go_wp2
      go_ret
      exact ⟨rfl, Below.refl _ _⟩
    · have hs : a0.size ≤ 1048576 := by omega
      have hs1 : a1.size ≤ 1048576 := by omega
      obtain ⟨c, x, hn⟩ : ∃ c x, Pl.wn a0.data.toList a1.data.toList = (c, x) := ⟨_, _, rfl⟩
      have HN : Hid (Pl.wn a0.data.toList a1.data.toList = (c, x)) := hn
      clear hn
      go_enter Try.func5, Try.ntmps5
      go_wp2_with fail
      refine (specWithin_any a0 a1 _ hs hs1).mono ?_
      rw [HN.out]
      rintro e w1 ⟨rfl, hb1⟩
      unfold namedV strV
      go_wp2_with fail
      refine (implWithin_any a0 a1 _).mono ?_
      rw [HN.out]
      rintro e w2 ⟨rfl, hb2⟩
      unfold namedV strV
      have hA := fun o' => (old_two hb2 o').1
      have hA2 := fun o' => (old_two hb2 o').2
      have hz : w1.heap.size + 1 ≤ w2.heap.size := by have := hb2.size; simp at this; omega
      have hb3 : Below w.heap.size w w2 := hb1.trans ((below_one hb2).mono hb1.size)
      have hz2 := hb3.size
      go_wp2_with fail
      refine (eqNamed_any (c, x) _).mono ?_
      rintro e w3 ⟨rfl, hb4⟩
      go_wp2
      go_ret
      exact ⟨rfl, (hb3.alloc hz2 _).trans (hb4.mono (by simp; omega))⟩

set_option maxRecDepth 100000 in
theorem lifted (os : Os) (started : os.Started) (H : Type) (enc : TypeId × Value → H) :
    ReturnsInHanded {} Try.checked os 5 .any (Rows.fnExactWithinSpec.pre6 enc Try.prog Try.f5 Rows.fnExactWithinRow.domain false) (Rows.fnExactWithinSpec.post enc Try.prog Try.f5 false true false false) := by
  refine returnsInHanded_of_change (C := Try.checked) own started (by kernel_rfl) Try.func5
    (ChangeSpec.witness6 (enc := enc) (C := Try.checked) false ⟨#[], #[.string ByteArray.empty, .string ByteArray.empty], []⟩ 8 (by kernel_rfl) (by kernel_rfl) (by kernel_rfl) (by kernel_rfl)) ?_
  intro W base args ds gs before hval0 hW hcnd _
  have hval : ∀ (j : Nat) t v, Try.f5.params[j]? = some t → args[j]? = some v → Value.okWide Try.prog W .any base t v := hval0
  have hW' := hW
  obtain ⟨p, q, hA0, hV, rfl, hfz, hnd⟩ := hW
  have hA : DataW.TrodAll enc Try.prog W 0 (fun _ => true) true Try.f5.params.toList args.toList ds p := hA0
  rw [Try.params5] at hA hval
  obtain ⟨v0, vs0, d0, ds0, p0, q0, hargs, rfl, rfl, h0, r0⟩ := trodAll_cons hA
  obtain ⟨v1, vs1, d1, ds1, p1, q1, rfl, rfl, rfl, h1, r1⟩ := trodAll_cons r0
  obtain ⟨rfl, rfl, rfl⟩ := trodAll_nil r1
  obtain rfl : args = #[v0, v1] := by cases args; simp_all
  obtain ⟨rfl, rfl⟩ := trodVars_none hV
  obtain ⟨a0, rfl, rfl, rfl, w0⟩ := open_string Try.underlying9 (hval 0 9 v0 rfl rfl) h0
  obtain ⟨a1, rfl, rfl, rfl, w1⟩ := open_string Try.underlying9 (hval 1 9 v1 rfl rfl) h1
  clear hA0 hval0
  refine (walk a0 a1 w0 w1 W).mono fun e W' ⟨he, hg⟩ => ?_
  subst he
  exact ⟨_, rfl, _, _, _, [], _, [], hW', trodAll_mk1 (shut_bool Try.underlying4 _), (trodAll_cons_mk (shut_string Try.underlying9 w0) (trodAll_cons_mk (shut_string Try.underlying9 w1) trodAll_mk0)), rfl, hg.frame _, fun h => by cases h⟩

theorem over : Rows.fnExactWithinRow.holds Try.pinned (OpenSpec.ofChange Rows.fnExactWithinSpec) :=
  OpenClaim.holds_of_wide 5 Try.f5 rfl rfl rfl rfl rfl rfl rfl ⟨rfl, rfl, rfl, rfl, rfl⟩ rfl rfl rfl rfl rfl (by kernel_rfl) Try.func5 (by kernel_rfl)
    (of_decide_eq_true (by kernel_rfl)) (by unfold Func.isWrapper; first | (rw [if_pos (by decide +kernel)]; kernel_rfl) | (rw [if_neg (by decide +kernel)]; exact ⟨rfl, rfl⟩))
    (fun os started H enc _ => lifted os started H enc)

theorem proved : Rows.FnExactWithinSaid :=
  over
end Go.Proofs.Ytimgafblpmjajaa.fnExactWithin
namespace Go.Proofs.Ytimgafblpmjajaa
theorem fnExactWithin_holds : Rows.FnExactWithinSaid := fnExactWithin.proved
#print axioms fnExactWithin_holds
end Go.Proofs.Ytimgafblpmjajaa
