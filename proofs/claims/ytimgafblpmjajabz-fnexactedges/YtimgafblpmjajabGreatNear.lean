
import Derived.Test.YtimgafblpmjajabGreatWithin

import Derived.Test.YtimgafblpmjajabGreatMark

namespace Go.Proofs.YtimgafblpmjajabGreat

open Go.RowKit

def Pl.near (s : List UInt8) : Bool := ((Pl.split s).headD [] == [46]) || ((Pl.split s).headD [] == [46, 46])
def Pl.rooted (r n : List UInt8) : List UInt8 := if r = [] then n else r ++ [47] ++ n
def Pl.addTry (out : List (List UInt8)) (x : Int × List UInt8) : List (List UInt8) := if x.1 = 0 then (if x.2 ∈ out then out else out ++ [x.2]) else out
def Pl.under (roots : List (List UInt8)) (n : List UInt8) : List (List UInt8) := roots.foldl (fun out r => Pl.addTry out (Pl.nm [] (Pl.rooted r n))) []
def Pl.tries (roots : List (List UInt8)) (from' name : List UInt8) : List (List UInt8) :=
  if 8 < roots.length then [] else if Pl.near name then (if (Pl.wn from' name).1 = 0 then [(Pl.wn from' name).2] else []) else if (Pl.nm [] name).1 = 0 then Pl.under roots (Pl.nm [] name).2 else []

set_option maxHeartbeats 1000000 in
set_option maxRecDepth 100000 in
theorem l1named_all (base : Nat) (v0 : Value) (R : List (List UInt8)) (s : ByteArray) (w : World) (hrow : w.ownsRow base 9 1 v0 R.length (R.map strV)) (hR : Pl.total R ≤ 1048576) :
    Calls Tryz.prog 84 #[v0, .string s] w fun e w' => e = .returned (namedV (Pl.nm R s.data.toList)) ∧ Below w.heap.size w w' := by
  by_cases h60 : 60 < s.size
  · have hn : Pl.nm R s.data.toList = (3, []) := by unfold Pl.nm; rw [if_pos (by rw [← size_data]; exact h60)]
    rw [hn]
    clear hn hrow
    go_enter Tryz.func84, Tryz.ntmps84
    go_wp2
    exact bodyPost_ret (v := namedV (3, [])) (by simp [results, Tryz.results84, go_sem, namedV, strV]) rfl ⟨rfl, (Below.refl _ _).alloc (Nat.le_refl _) _⟩
  · exact l1named_any base v0 R s w hrow hR (by omega)

set_option maxHeartbeats 1000000 in
set_option maxRecDepth 100000 in
theorem specClean_all (s : ByteArray) (w : World) :
    Calls Tryz.prog 62 #[.string s] w fun e w' => e = .returned (namedV (Pl.nm [] s.data.toList)) ∧ Below w.heap.size w w' := by
  obtain ⟨c, x, hn⟩ : ∃ c x, Pl.nm [] s.data.toList = (c, x) := ⟨_, _, rfl⟩
  have HN : Hid (Pl.nm [] s.data.toList = (c, x)) := hn
  rw [hn]
  clear hn
  go_enter Tryz.func62, Tryz.ntmps62
  go_wp2_with fail
  refine (l1named_all 0 (.slice none 0 0) [] s _ (World.ownsRow_nil _ _ _ _) (by decide)).mono ?_
  rw [HN.out]
  rintro e w1 ⟨rfl, hb⟩
  obtain ⟨hc, hf⟩ := bcell hb
  unfold namedV strV
  go_wp2
  exact bodyPost_ret (v := namedV (c, x)) (by simp [results, Tryz.results62, go_sem, namedV, strV, hc]) rfl ⟨rfl, below_set2 hb _ _⟩

set_option maxHeartbeats 1000000 in
set_option maxRecDepth 100000 in
theorem l1near_any (s : ByteArray) (w : World) (hs : s.size ≤ 1048576) :
    Calls Tryz.prog 64 #[.string s] w fun e w' => e = .returned (.bool (Pl.near s.data.toList)) ∧ Below w.heap.size w w' := by
  have hsne : Pl.split s.data.toList ≠ [] := Pl.splitTo_ne _ _
  obtain ⟨p, r, hp⟩ : ∃ p r, Pl.split s.data.toList = p :: r := by
    cases h : Pl.split s.data.toList with
    | nil => exact absurd h hsne
    | cons p r => exact ⟨p, r, rfl⟩
  have hn : Pl.near s.data.toList = ((p == [46]) || (p == [46, 46])) := by unfold Pl.near; rw [hp]; rfl
  rw [hn]
  have HP : Hid (Pl.split s.data.toList = p :: r) := hp
  obtain ⟨q, hq⟩ : ∃ q : ByteArray, q = ⟨p.toArray⟩ := ⟨_, rfl⟩
  have hql : q.toList = p := by rw [Go.ByteArray.toList_eq, hq]
  have HQ : Hid (strV p = .string q) := by unfold Hid; rw [hq]; rfl
  have e1 : (q.toList == [46]) = (p == [46]) := by rw [hql]
  have e2 : (q.toList == [46, 46]) = (p == [46, 46]) := by rw [hql]
  generalize (p == [46]) = t1 at *
  generalize (p == [46, 46]) = t2 at *
  clear hn hp hsne hq hql
  cases t1 <;> cases t2
  all_goals
    go_enter Tryz.func64, Tryz.ntmps64
    go_wp2_with fail
    refine (l1parts_any s _ hs).mono ?_
    rw [HP.out]
    rintro e w1 ⟨v, rfl, hr, hb⟩
    obtain ⟨a, cap, rfl, hcap, hmax, hcell⟩ := row_shape hr
    obtain ⟨g, rfl, _, _, hc0⟩ := hcell 0 (by simp)
    have hc1 : w1.cell? ⟨g, 0, none⟩ = some (.string q) := by rw [hc0]; exact congrArg some HQ.out
    have hlp : (0 : Int) < ((p :: r).length : Int) := by simp
    clear hcell hc0
    go_wp2
    go_ret
    exact ⟨rfl, hb⟩

set_option maxHeartbeats 1000000 in
set_option maxRecDepth 100000 in
theorem isRelative_any (s : ByteArray) (w : World) (hs : s.size ≤ 1048576) :
    Calls Tryz.prog 75 #[.string s] w fun e w' => e = .returned (.bool (Pl.near s.data.toList)) ∧ Below w.heap.size w w' := by
  obtain ⟨q, v2, f, n, hcut, hq⟩ : ∃ (q : ByteArray) (v2 : ByteArray) (f : Bool) (n : Nat), (Calls Tryz.prog 90 #[.string s, .string ⟨#[47]⟩] w fun e w' => e = .returned (.tuple #[.string q, .string v2, .bool f]) ∧ w' = w.drewN n) ∧ q.data.toList = (Pl.split s.data.toList).headD [] := by
    rcases index47 s.data.toList with ⟨hix, hsp⟩ | ⟨i, hix, hil, hsp⟩
    · refine ⟨s, _, _, 0, cut_miss s w hix, ?_⟩
      have := hsp []; unfold Pl.split; rw [this]; simp
    · refine ⟨_, _, _, 1, cut_hit s i w hix (by rw [size_data]; exact hil) hs, ?_⟩
      have := hsp []; unfold Pl.split; rw [this]
      rw [ByteArray.data_extract]
      simp
  have hql : q.toList = (Pl.split s.data.toList).headD [] := by rw [Go.ByteArray.toList_eq, hq]
  have hn : Pl.near s.data.toList = ((q.toList == [46]) || (q.toList == [46, 46])) := by unfold Pl.near; rw [hql]
  rw [hn]
  clear hn hql hq
  obtain ⟨t1, e1⟩ : ∃ t1, (q.toList == [46]) = t1 := ⟨_, rfl⟩
  obtain ⟨t2, e2⟩ : ∃ t2, (q.toList == [46, 46]) = t2 := ⟨_, rfl⟩
  rw [e1, e2]
  cases t1 <;> cases t2
  all_goals
    go_enter Tryz.func75, Tryz.ntmps75
    go_wp2_with (go_at_call 90; refine hcut.mono ?_; rintro e w' ⟨rfl, rfl⟩)
    go_ret
    exact ⟨rfl, rfl, rfl, rfl, Nat.le_refl _, fun _ _ => rfl⟩

end Go.Proofs.YtimgafblpmjajabGreat
