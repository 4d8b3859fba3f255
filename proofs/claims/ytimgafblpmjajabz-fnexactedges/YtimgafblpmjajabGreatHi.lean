import Derived.Test.YtimgafblpmjajabGreatHs
namespace Go.Proofs.YtimgafblpmjajabGreat
open Go.RowKit

theorem is_say_imp (v : Value) (W : World) : (Instr.typeAssert (.iface 133 v) 98 130 true).run Tryz.prog W = .ok (.tuple #[.agg #[.string ⟨#[]⟩], .bool false]) W := by kernel_rfl
theorem is_say_tr (v : Value) (W : World) : (Instr.typeAssert (.iface 133 v) 98 131 true).run Tryz.prog W = .ok (.tuple #[.agg #[.string ⟨#[]⟩], .bool false]) W := by kernel_rfl
theorem is_give_imp (v : Value) (W : World) : (Instr.typeAssert (.iface 134 v) 98 130 true).run Tryz.prog W = .ok (.tuple #[.agg #[.string ⟨#[]⟩], .bool false]) W := by kernel_rfl
theorem is_give_tr (v : Value) (W : World) : (Instr.typeAssert (.iface 134 v) 98 131 true).run Tryz.prog W = .ok (.tuple #[.agg #[.string ⟨#[]⟩], .bool false]) W := by kernel_rfl
theorem is_imp_imp (v : Value) (W : World) : (Instr.typeAssert (.iface 130 v) 98 130 true).run Tryz.prog W = .ok (.tuple #[v, .bool true]) W := by kernel_rfl
theorem is_tr_imp (v : Value) (W : World) : (Instr.typeAssert (.iface 131 v) 98 130 true).run Tryz.prog W = .ok (.tuple #[.agg #[.string ⟨#[]⟩], .bool false]) W := by kernel_rfl
theorem is_tr_tr (v : Value) (W : World) : (Instr.typeAssert (.iface 131 v) 98 131 true).run Tryz.prog W = .ok (.tuple #[v, .bool true]) W := by kernel_rfl
theorem is_show_imp (v : Value) (W : World) : (Instr.typeAssert (.iface 135 v) 98 130 true).run Tryz.prog W = .ok (.tuple #[.agg #[.string ⟨#[]⟩], .bool false]) W := by kernel_rfl
theorem is_show_tr (v : Value) (W : World) : (Instr.typeAssert (.iface 135 v) 98 131 true).run Tryz.prog W = .ok (.tuple #[.agg #[.string ⟨#[]⟩], .bool false]) W := by kernel_rfl
theorem is_thr_imp (v : Value) (W : World) : (Instr.typeAssert (.iface 136 v) 98 130 true).run Tryz.prog W = .ok (.tuple #[.agg #[.string ⟨#[]⟩], .bool false]) W := by kernel_rfl
theorem is_thr_tr (v : Value) (W : World) : (Instr.typeAssert (.iface 136 v) 98 131 true).run Tryz.prog W = .ok (.tuple #[.agg #[.string ⟨#[]⟩], .bool false]) W := by kernel_rfl
theorem is_iff_imp (v : Value) (W : World) : (Instr.typeAssert (.iface 138 v) 98 130 true).run Tryz.prog W = .ok (.tuple #[.agg #[.string ⟨#[]⟩], .bool false]) W := by kernel_rfl
theorem is_iff_tr (v : Value) (W : World) : (Instr.typeAssert (.iface 138 v) 98 131 true).run Tryz.prog W = .ok (.tuple #[.agg #[.string ⟨#[]⟩], .bool false]) W := by kernel_rfl
theorem is_nil_imp (W : World) : (Instr.typeAssert .nilIface 98 130 true).run Tryz.prog W = .ok (.tuple #[.agg #[.string ⟨#[]⟩], .bool false]) W := by kernel_rfl
theorem is_nil_tr (W : World) : (Instr.typeAssert .nilIface 98 131 true).run Tryz.prog W = .ok (.tuple #[.agg #[.string ⟨#[]⟩], .bool false]) W := by kernel_rfl

/-- What a step imports. -/
def impV (op : Int) (s : ByteArray) : Value := if op = 3 ∨ op = 4 then .tuple #[.string s, .bool true] else .tuple #[.string ⟨#[]⟩, .bool false]

set_option maxRecDepth 100000 in
set_option maxHeartbeats 4000000 in
theorem importedBy_any (op num skip : Int) (s : ByteArray) (w : World) :
    Calls Tryz.prog 52 #[stepV op s num skip] w fun e w' => e = .returned (impV op s) ∧ Below w.heap.size w w' := by
  obtain ⟨r, hr⟩ : ∃ r, r = impV op s := ⟨_, rfl⟩
  rw [← hr]
  by_cases h1 : op = 1
  · subst h1
    have hrt : r = .tuple #[.string ⟨#[]⟩, .bool false] := by rw [hr]; rfl
    subst hrt
    simp (config := { decide := true }) only [stepV, if_true, if_false]
    clear hr
    have t1 := is_say_imp
    have t2 := is_say_tr
    go_enter Tryz.func52, Tryz.ntmps52
    go_wp2
    exact bodyPost_ret (v := .tuple #[.string ⟨#[]⟩, .bool false]) (by simp [results, Tryz.results52, go_sem]) rfl ⟨rfl, by first | exact Below.refl _ _ | exact (Below.refl _ _).alloc (Nat.le_refl _) _ | exact below_alloc2 _ _⟩
  by_cases h2 : op = 2
  · subst h2
    have hrt : r = .tuple #[.string ⟨#[]⟩, .bool false] := by rw [hr]; rfl
    subst hrt
    simp (config := { decide := true }) only [stepV, if_true, if_false]
    clear hr
    have t1 := is_give_imp
    have t2 := is_give_tr
    go_enter Tryz.func52, Tryz.ntmps52
    go_wp2
    exact bodyPost_ret (v := .tuple #[.string ⟨#[]⟩, .bool false]) (by simp [results, Tryz.results52, go_sem]) rfl ⟨rfl, by first | exact Below.refl _ _ | exact (Below.refl _ _).alloc (Nat.le_refl _) _ | exact below_alloc2 _ _⟩
  by_cases h3 : op = 3
  · subst h3
    have hrt : r = .tuple #[.string s, .bool true] := by rw [hr]; rfl
    subst hrt
    simp (config := { decide := true }) only [stepV, if_true, if_false]
    clear hr
    have t1 := is_imp_imp
    go_enter Tryz.func52, Tryz.ntmps52
    go_wp2
    exact bodyPost_ret (v := .tuple #[.string s, .bool true]) (by simp [results, Tryz.results52, go_sem]) rfl ⟨rfl, by first | exact Below.refl _ _ | exact (Below.refl _ _).alloc (Nat.le_refl _) _ | exact below_alloc2 _ _⟩
  by_cases h4 : op = 4
  · subst h4
    have hrt : r = .tuple #[.string s, .bool true] := by rw [hr]; rfl
    subst hrt
    simp (config := { decide := true }) only [stepV, if_true, if_false]
    clear hr
    have t1 := is_tr_imp
    have t2 := is_tr_tr
    go_enter Tryz.func52, Tryz.ntmps52
    go_wp2
    exact bodyPost_ret (v := .tuple #[.string s, .bool true]) (by simp [results, Tryz.results52, go_sem]) rfl ⟨rfl, by first | exact Below.refl _ _ | exact (Below.refl _ _).alloc (Nat.le_refl _) _ | exact below_alloc2 _ _⟩
  by_cases h5 : op = 5
  · subst h5
    have hrt : r = .tuple #[.string ⟨#[]⟩, .bool false] := by rw [hr]; rfl
    subst hrt
    simp (config := { decide := true }) only [stepV, if_true, if_false]
    clear hr
    have t1 := is_show_imp
    have t2 := is_show_tr
    go_enter Tryz.func52, Tryz.ntmps52
    go_wp2
    exact bodyPost_ret (v := .tuple #[.string ⟨#[]⟩, .bool false]) (by simp [results, Tryz.results52, go_sem]) rfl ⟨rfl, by first | exact Below.refl _ _ | exact (Below.refl _ _).alloc (Nat.le_refl _) _ | exact below_alloc2 _ _⟩
  by_cases h6 : op = 6
  · subst h6
    have hrt : r = .tuple #[.string ⟨#[]⟩, .bool false] := by rw [hr]; rfl
    subst hrt
    simp (config := { decide := true }) only [stepV, if_true, if_false]
    clear hr
    have t1 := is_thr_imp
    have t2 := is_thr_tr
    go_enter Tryz.func52, Tryz.ntmps52
    go_wp2
    exact bodyPost_ret (v := .tuple #[.string ⟨#[]⟩, .bool false]) (by simp [results, Tryz.results52, go_sem]) rfl ⟨rfl, by first | exact Below.refl _ _ | exact (Below.refl _ _).alloc (Nat.le_refl _) _ | exact below_alloc2 _ _⟩
  by_cases h7 : op = 7
  · subst h7
    have hrt : r = .tuple #[.string ⟨#[]⟩, .bool false] := by rw [hr]; rfl
    subst hrt
    simp (config := { decide := true }) only [stepV, if_true, if_false]
    clear hr
    have t1 := is_iff_imp
    have t2 := is_iff_tr
    go_enter Tryz.func52, Tryz.ntmps52
    go_wp2
    exact bodyPost_ret (v := .tuple #[.string ⟨#[]⟩, .bool false]) (by simp [results, Tryz.results52, go_sem]) rfl ⟨rfl, by first | exact Below.refl _ _ | exact (Below.refl _ _).alloc (Nat.le_refl _) _ | exact below_alloc2 _ _⟩
  have hrf : r = .tuple #[.string ⟨#[]⟩, .bool false] := by rw [hr, impV, if_neg (by omega)]
  subst hrf
  rw [stepV, if_neg h1, if_neg h2, if_neg h3, if_neg h4, if_neg h5, if_neg h6, if_neg h7]
  clear hr
  have t1 := is_nil_imp
  have t2 := is_nil_tr
  go_enter Tryz.func52, Tryz.ntmps52
  go_wp2
  exact bodyPost_ret (v := .tuple #[.string ⟨#[]⟩, .bool false]) (by simp [results, Tryz.results52, go_sem]) rfl ⟨rfl, by first | exact Below.refl _ _ | exact (Below.refl _ _).alloc (Nat.le_refl _) _ | exact below_alloc2 _ _⟩
end Go.Proofs.YtimgafblpmjajabGreat
