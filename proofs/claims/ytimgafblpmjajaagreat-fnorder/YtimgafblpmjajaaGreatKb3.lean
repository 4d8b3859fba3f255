import Derived.Maps.AppendAt
import Derived.Deep.AppendLies
import Derived.Deep.RegionLaw
import Derived.Test.YtimgafblpmjajaaGreatKb2
namespace Go.Proofs.YtimgafblpmjajaaGreat

open Go.RowKit

/-- Walked from where the module stands. -/
def Pl.wn (from' s : List UInt8) : Int × List UInt8 := if (Pl.nm [] from').1 = 0 then Pl.nm (Pl.split (Pl.nm [] from').2).dropLast s else (4, [])

theorem Pl.nm_len (R : List (List UInt8)) (s : List UInt8) : (Pl.nm R s).2.length ≤ 60 := by
  unfold Pl.nm
  split
  · simp
  · unfold Pl.fin
    split
    · split
      · simp
      · split
        · simp
        · simp only; omega
    · simp
theorem Pl.folder_total (x : List UInt8) (h : x.length ≤ 60) : Pl.total (Pl.split x).dropLast ≤ 1048576 := by
  have h1 := Pl.total_dropLast (Pl.split x)
  have h2 := Pl.total_split x
  omega

/-- The answer's two cells, laid first, behind what was laid since. -/
theorem old_two_frozen {w1 w2 : World} {u0 u1 : Value} {t : TypeId} (hb : Below (w1.alloc (.cells #[u0, u1] t)).heap.size (w1.alloc (.cells #[u0, u1] t)) w2) (o' : Obj) :
    (w2.alloc o').frozen? ⟨w1.heap.size, 0, none⟩ = false ∧ (w2.alloc o').frozen? ⟨w1.heap.size, 1, none⟩ = false := by
  have hz : w1.heap.size < w2.heap.size := by have := hb.size; simp at this; omega
  have hb' : Below (w1.alloc (.cells #[u0, u1] t)).heap.size (w1.alloc (.cells #[u0, u1] t)) (w2.alloc o') := hb.trans ((Below.refl _ _).alloc (by simp; omega) o')
  obtain ⟨hc, hf⟩ := bcell hb'
  exact ⟨by rw [hf _ _ (by simp)]; simp, by rw [hf _ _ (by simp)]; simp⟩
theorem old_two_set {w1 w2 : World} {u0 u1 : Value} {t : TypeId} (hb : Below (w1.alloc (.cells #[u0, u1] t)).heap.size (w1.alloc (.cells #[u0, u1] t)) w2) (v0 v1 : Value) (o' : Obj) :
    (((w2.setCell ⟨w1.heap.size, 0, none⟩ v0).setCell ⟨w1.heap.size, 1, none⟩ v1).alloc o').cell? ⟨w1.heap.size, 0, none⟩ = some v0 ∧ (((w2.setCell ⟨w1.heap.size, 0, none⟩ v0).setCell ⟨w1.heap.size, 1, none⟩ v1).alloc o').cell? ⟨w1.heap.size, 1, none⟩ = some v1 := by
  have hz : w1.heap.size < w2.heap.size := by have := hb.size; simp at this; omega
  obtain ⟨hc, hf⟩ := bcell hb
  have e0 : w2.cell? ⟨w1.heap.size, 0, none⟩ = some u0 := by rw [hc _ _ (by simp)]; simp
  have e1 : w2.cell? ⟨w1.heap.size, 1, none⟩ = some u1 := by rw [hc _ _ (by simp)]; simp
  constructor
  · rw [World.cell?_alloc_past _ _ _ (by simp [World.setCell]; omega)]
    simp [go_sem, e0]
  · rw [World.cell?_alloc_past _ _ _ (by simp [World.setCell]; omega)]
    simp [go_sem, e1]

set_option maxRecDepth 100000 in
set_option maxHeartbeats 1000000 in
theorem specWithin_any (f s : ByteArray) (w : World) (hf0 : f.size ≤ 1048576) (hs : s.size ≤ 1048576) :
    Calls Tryz.prog 51 #[.string f, .string s] w fun e w' => e = .returned (namedV (Pl.wn f.data.toList s.data.toList)) ∧ Below w.heap.size w w' := by
  obtain ⟨c, x, hn⟩ : ∃ c x, Pl.nm [] f.data.toList = (c, x) := ⟨_, _, rfl⟩
  have hx : x.length ≤ 60 := by have := Pl.nm_len [] f.data.toList; rw [hn] at this; exact this
  have hwn : Pl.wn f.data.toList s.data.toList = if c = 0 then Pl.nm (Pl.split x).dropLast s.data.toList else (4, []) := by unfold Pl.wn; rw [hn]
  have HN : Hid (Pl.nm [] f.data.toList = (c, x)) := hn
  rw [hwn]
  clear hn hwn
  by_cases hc0 : c = 0
  · rw [if_pos hc0]
    have hb0 : (c == 0) = true := by simpa using hc0
    obtain ⟨c2, x2, hn2⟩ : ∃ c2 x2, Pl.nm (Pl.split x).dropLast s.data.toList = (c2, x2) := ⟨_, _, rfl⟩
    have HN2 : Hid (Pl.nm (Pl.split x).dropLast s.data.toList = (c2, x2)) := hn2
    rw [hn2]
    obtain ⟨t, ht⟩ : ∃ t : ByteArray, t = ⟨x.toArray⟩ := ⟨_, rfl⟩
    have htd : t.data.toList = x := by rw [ht]
    have hts : t.size ≤ 60 := by rw [size_data, htd]; exact hx
    have HT : Hid (strV x = .string t) := by unfold Hid; rw [ht]; rfl
    have HTD : Hid (t.data.toList = x) := htd
    have hsne : Pl.split x ≠ [] := Pl.splitTo_ne _ _
    have hpos : 0 < (Pl.split x).length := List.length_pos_iff.2 hsne
    have hsl : (Pl.split x).length ≤ 61 := by have := Pl.length_split x; omega
    have HNE : Hid (Pl.split x ≠ []) := hsne
    clear hn2 ht htd hsne hc0
    go_enter Tryz.func51, Tryz.ntmps51
    go_wp2_with fail
    refine (specClean_any f _ hf0).mono ?_
    rw [HN.out]
    unfold namedV
    rw [HT.out]
    rintro e w1 ⟨rfl, hb1⟩
    have hz1 : w.heap.size + 1 ≤ w1.heap.size := by have := hb1.size; simp at this; omega
    go_wp2_with fail
    refine (l1parts_any t _ (by omega)).mono ?_
    rw [HTD.out]
    rintro e w2 ⟨v, rfl, hr, hb2⟩
    obtain ⟨g, cap, rfl, hcap, hpop⟩ := pop_row HNE.out hr
    go_wp2_with fail
    refine (l1named_any _ _ _ s _ hpop (Pl.folder_total x hx) hs).mono ?_
    rw [HN2.out]
    unfold namedV strV
    rintro e w3 ⟨rfl, hb3⟩
    have hb12 : Below (w.heap.size + 1) (w.alloc (.cells #[.int .i64 0, .string ⟨#[]⟩] 118)) w3 := ((hb1.mono (by simp)).alloc (by omega) _).trans ((hb2.mono (by simp; omega)).trans (hb3.mono (by have := hb2.size; simp at this; omega)))
    obtain ⟨hc, hf⟩ := bcell (W := w.alloc (.cells #[.int .i64 0, .string ⟨#[]⟩] 118)) (w1 := w3) (by rw [World.size_alloc]; exact hb12)
    go_wp2
    exact bodyPost_ret (v := namedV (c2, x2)) (by simp [results, Tryz.results51, go_sem, namedV, strV, hc]) rfl ⟨rfl, below_set2' (((Below.refl _ w).alloc (Nat.le_refl _) _).trans (hb12.mono (by simp))) (Nat.le_refl _) _ _⟩
  · rw [if_neg hc0]
    have hb0 : (c == 0) = false := by simpa using hc0
    clear hc0
    go_enter Tryz.func51, Tryz.ntmps51
    go_wp2_with fail
    refine (specClean_any f _ hf0).mono ?_
    rw [HN.out]
    unfold namedV strV
    rintro e w1 ⟨rfl, hb1⟩
    have hz1 : w.heap.size + 1 ≤ w1.heap.size := by have := hb1.size; simp at this; omega
    have hA := fun o' => (old_two hb1 o').1
    have hA2 := fun o' => (old_two hb1 o').2
    have hF := fun o' => (old_two_frozen hb1 o').1
    have hF2 := fun o' => (old_two_frozen hb1 o').2
    go_wp2
    exact bodyPost_ret (v := namedV (4, [])) (by simp [results, Tryz.results51, go_sem, namedV, strV, hA, hA2]) rfl ⟨rfl, below_set2' ((below_one hb1).alloc (by omega) _) (Nat.le_refl _) _ _⟩

set_option maxRecDepth 100000 in
set_option maxHeartbeats 1000000 in
theorem within_any (f s : ByteArray) (w : World) :
    Calls Tryz.prog 54 #[.string f, .string s] w fun e w' => e = .returned (formV (Pl.wn f.data.toList s.data.toList)) ∧ Below w.heap.size w w' := by
  obtain ⟨c, x, hn⟩ : ∃ c x, Pl.nm [] f.data.toList = (c, x) := ⟨_, _, rfl⟩
  have hx : x.length ≤ 60 := by have := Pl.nm_len [] f.data.toList; rw [hn] at this; exact this
  have hwn : Pl.wn f.data.toList s.data.toList = if c = 0 then Pl.nm (Pl.split x).dropLast s.data.toList else (4, []) := by unfold Pl.wn; rw [hn]
  have HN : Hid (Pl.nm [] f.data.toList = (c, x)) := hn
  rw [hwn]
  obtain ⟨t, ht⟩ : ∃ t : ByteArray, t = ⟨x.toArray⟩ := ⟨_, rfl⟩
  have htd : t.data.toList = x := by rw [ht]
  have hts : t.size ≤ 60 := by rw [size_data, htd]; exact hx
  have HT : Hid (strV x = .string t) := by unfold Hid; rw [ht]; rfl
  have HTD : Hid (t.data.toList = x) := htd
  clear hn hwn ht htd
  by_cases hc0 : c = 0
  · rw [if_pos hc0]
    have hb0 : (c == 0) = true := by simpa using hc0
    have hb0' : (c != 0) = false := by simpa using hc0
    obtain ⟨c2, x2, hn2⟩ : ∃ c2 x2, Pl.nm (Pl.split x).dropLast s.data.toList = (c2, x2) := ⟨_, _, rfl⟩
    have HN2 : Hid (Pl.nm (Pl.split x).dropLast s.data.toList = (c2, x2)) := hn2
    rw [hn2]
    clear hn2 hc0
    go_enter Tryz.func54, Tryz.ntmps54
    go_wp2_with fail
    refine (walk_any (w.heap.size + 1) (.slice none 0 0) [] f _ (World.ownsRow_nil _ _ _ _) (by simp) (by decide)).mono ?_
    rw [HN.out]
    unfold formV
    rw [HT.out]
    rintro e w1 ⟨rfl, hb1⟩
    have hz1 : w.heap.size + 1 ≤ w1.heap.size := by have := hb1.size; simp at this; omega
    go_wp2_with fail
    refine (folder_any t _ hts).mono ?_
    rw [HTD.out]
    rintro e w2 ⟨v, rfl, hr, hb2⟩
    have hz2 : w1.heap.size + 1 ≤ w2.heap.size := by have := hb2.size; simp at this; omega
    go_wp2_with fail
    refine (walk_any (w1.heap.size + 1) v _ s _ (own_mono hr (by simp)) hz2 (Pl.folder_total x hx)).mono ?_
    rw [HN2.out]
    unfold formV strV
    rintro e w3 ⟨rfl, hb3⟩
    have hz3 := hb3.size
    have hb13 : Below (w.heap.size + 1) (w.alloc (.cells #[.string ⟨#[]⟩] 91)) w3 := (hb1.alloc (by omega) _).trans ((hb2.mono (by simp; omega)).trans (hb3.mono (by omega)))
    obtain ⟨hc, hf⟩ := bcell (W := w.alloc (.cells #[.string ⟨#[]⟩] 91)) (w1 := w3) (by rw [World.size_alloc]; exact hb13)
    go_wp2
    exact bodyPost_ret (v := formV (c2, x2)) (by simp [results, Tryz.results54, go_sem, formV, strV, hc]) rfl ⟨rfl, ((((Below.refl _ w).alloc (Nat.le_refl _) _).trans (hb13.mono (by simp)))).setCell (p := ⟨w.heap.size, 0, none⟩) (Nat.le_refl _) _⟩
  · rw [if_neg hc0]
    have hb0 : (c == 0) = false := by simpa using hc0
    have hb0' : (c != 0) = true := by simpa using hc0
    clear hc0
    go_enter Tryz.func54, Tryz.ntmps54
    go_wp2_with fail
    refine (walk_any (w.heap.size + 1) (.slice none 0 0) [] f _ (World.ownsRow_nil _ _ _ _) (by simp) (by decide)).mono ?_
    rw [HN.out]
    unfold formV
    rw [HT.out]
    rintro e w1 ⟨rfl, hb1⟩
    have hz1 : w.heap.size + 1 ≤ w1.heap.size := by have := hb1.size; simp at this; omega
    have hb1' : Below (w.alloc (.cells #[.string ⟨#[]⟩] 91)).heap.size (w.alloc (.cells #[.string ⟨#[]⟩] 91)) w1 := by rw [World.size_alloc]; exact hb1
    have hA := fun o' => (old_cell rfl hb1' o').1
    have hF := fun o' => (old_cell rfl hb1' o').2
    go_wp2
    exact bodyPost_ret (v := formV (4, [])) (by simp [results, Tryz.results54, go_sem, formV, strV, hA]) rfl ⟨rfl, ((below_one hb1').alloc (by omega) _).setCell (p := ⟨w.heap.size, 0, none⟩) (Nat.le_refl _) _⟩

end Go.Proofs.YtimgafblpmjajaaGreat
namespace Go.Proofs.YtimgafblpmjajaaGreat

open Go.RowKit

def Pl.near (s : List UInt8) : Bool := ((Pl.split s).headD [] == [46]) || ((Pl.split s).headD [] == [46, 46])
def Pl.rooted (r n : List UInt8) : List UInt8 := if r = [] then n else r ++ [47] ++ n
def Pl.addTry (out : List (List UInt8)) (x : Int × List UInt8) : List (List UInt8) := if x.1 = 0 then (if x.2 ∈ out then out else out ++ [x.2]) else out
def Pl.under (roots : List (List UInt8)) (n : List UInt8) : List (List UInt8) := roots.foldl (fun out r => Pl.addTry out (Pl.nm [] (Pl.rooted r n))) []
def Pl.tries (roots : List (List UInt8)) (from' name : List UInt8) : List (List UInt8) :=
  if 8 < roots.length then [] else if Pl.near name then (if (Pl.wn from' name).1 = 0 then [(Pl.wn from' name).2] else []) else if (Pl.nm [] name).1 = 0 then Pl.under roots (Pl.nm [] name).2 else []

set_option maxHeartbeats 1000000 in
set_option maxRecDepth 100000 in
theorem l1named_all (base : Nat) (v0 : Value) (R : List (List UInt8)) (s : ByteArray) (w : World) (hrow : w.ownsRow base 9 1 v0 R.length (R.map strV)) (hR : Pl.total R ≤ 1048576) :
    Calls Tryz.prog 63 #[v0, .string s] w fun e w' => e = .returned (namedV (Pl.nm R s.data.toList)) ∧ Below w.heap.size w w' := by
  by_cases h60 : 60 < s.size
  · have hn : Pl.nm R s.data.toList = (3, []) := by unfold Pl.nm; rw [if_pos (by rw [← size_data]; exact h60)]
    rw [hn]
    clear hn hrow
    go_enter Tryz.func63, Tryz.ntmps63
    go_wp2
    exact bodyPost_ret (v := namedV (3, [])) (by simp [results, Tryz.results63, go_sem, namedV, strV]) rfl ⟨rfl, (Below.refl _ _).alloc (Nat.le_refl _) _⟩
  · exact l1named_any base v0 R s w hrow hR (by omega)

set_option maxHeartbeats 1000000 in
set_option maxRecDepth 100000 in
theorem specClean_all (s : ByteArray) (w : World) :
    Calls Tryz.prog 48 #[.string s] w fun e w' => e = .returned (namedV (Pl.nm [] s.data.toList)) ∧ Below w.heap.size w w' := by
  obtain ⟨c, x, hn⟩ : ∃ c x, Pl.nm [] s.data.toList = (c, x) := ⟨_, _, rfl⟩
  have HN : Hid (Pl.nm [] s.data.toList = (c, x)) := hn
  rw [hn]
  clear hn
  go_enter Tryz.func48, Tryz.ntmps48
  go_wp2_with fail
  refine (l1named_all 0 (.slice none 0 0) [] s _ (World.ownsRow_nil _ _ _ _) (by decide)).mono ?_
  rw [HN.out]
  rintro e w1 ⟨rfl, hb⟩
  obtain ⟨hc, hf⟩ := bcell hb
  unfold namedV strV
  go_wp2
  exact bodyPost_ret (v := namedV (c, x)) (by simp [results, Tryz.results48, go_sem, namedV, strV, hc]) rfl ⟨rfl, below_set2 hb _ _⟩

set_option maxHeartbeats 1000000 in
set_option maxRecDepth 100000 in
theorem l1near_any (s : ByteArray) (w : World) (hs : s.size ≤ 1048576) :
    Calls Tryz.prog 50 #[.string s] w fun e w' => e = .returned (.bool (Pl.near s.data.toList)) ∧ Below w.heap.size w w' := by
  have hsne : Pl.split s.data.toList ≠ [] := Pl.splitTo_ne _ _
  obtain ⟨p, r, hp⟩ : ∃ p r, Pl.split s.data.toList = p :: r := by
    cases h : Pl.split s.data.toList with
    | nil => exact absurd h hsne
    | cons p r => exact ⟨p, r, rfl⟩
  have hn : Pl.near s.data.toList = ((p == [46]) || (p == [46, 46])) := by unfold Pl.near; rw [hp]; rfl
  rw [hn]
  have HP : Hid (Pl.split s.data.toList = p :: r) := hp
  obtain ⟨q, hq⟩ : ∃ q : ByteArray, q = ⟨p.toArray⟩ := ⟨_, rfl⟩
  have hql : q.toList = p := by rw [Go.ByteArray.toList_eq, hq]
  have HQ : Hid (strV p = .string q) := by unfold Hid; rw [hq]; rfl
  have e1 : (q.toList == [46]) = (p == [46]) := by rw [hql]
  have e2 : (q.toList == [46, 46]) = (p == [46, 46]) := by rw [hql]
  generalize (p == [46]) = t1 at *
  generalize (p == [46, 46]) = t2 at *
  clear hn hp hsne hq hql
  cases t1 <;> cases t2
  all_goals
    go_enter Tryz.func50, Tryz.ntmps50
    go_wp2_with fail
    refine (l1parts_any s _ hs).mono ?_
    rw [HP.out]
    rintro e w1 ⟨v, rfl, hr, hb⟩
    obtain ⟨a, cap, rfl, hcap, hmax, hcell⟩ := row_shape hr
    obtain ⟨g, rfl, _, _, hc0⟩ := hcell 0 (by simp)
    have hc1 : w1.cell? ⟨g, 0, none⟩ = some (.string q) := by rw [hc0]; exact congrArg some HQ.out
    have hlp : (0 : Int) < ((p :: r).length : Int) := by simp
    clear hcell hc0
    go_wp2
    go_ret
    exact ⟨rfl, hb⟩

set_option maxHeartbeats 1000000 in
set_option maxRecDepth 100000 in
theorem isRelative_any (s : ByteArray) (w : World) (hs : s.size ≤ 1048576) :
    Calls Tryz.prog 53 #[.string s] w fun e w' => e = .returned (.bool (Pl.near s.data.toList)) ∧ Below w.heap.size w w' := by
  obtain ⟨q, v2, f, n, hcut, hq⟩ : ∃ (q : ByteArray) (v2 : ByteArray) (f : Bool) (n : Nat), (Calls Tryz.prog 65 #[.string s, .string ⟨#[47]⟩] w fun e w' => e = .returned (.tuple #[.string q, .string v2, .bool f]) ∧ w' = w.drewN n) ∧ q.data.toList = (Pl.split s.data.toList).headD [] := by
    rcases index47 s.data.toList with ⟨hix, hsp⟩ | ⟨i, hix, hil, hsp⟩
    · refine ⟨s, _, _, 0, cut_miss s w hix, ?_⟩
      have := hsp []; unfold Pl.split; rw [this]; simp
    · refine ⟨_, _, _, 1, cut_hit s i w hix (by rw [size_data]; exact hil) hs, ?_⟩
      have := hsp []; unfold Pl.split; rw [this]
      rw [ByteArray.data_extract]
      simp
  have hql : q.toList = (Pl.split s.data.toList).headD [] := by rw [Go.ByteArray.toList_eq, hq]
  have hn : Pl.near s.data.toList = ((q.toList == [46]) || (q.toList == [46, 46])) := by unfold Pl.near; rw [hql]
  rw [hn]
  clear hn hql hq
  obtain ⟨t1, e1⟩ : ∃ t1, (q.toList == [46]) = t1 := ⟨_, rfl⟩
  obtain ⟨t2, e2⟩ : ∃ t2, (q.toList == [46, 46]) = t2 := ⟨_, rfl⟩
  rw [e1, e2]
  cases t1 <;> cases t2
  all_goals
    go_enter Tryz.func53, Tryz.ntmps53
    go_wp2_with (go_at_call 65; refine hcut.mono ?_; rintro e w' ⟨rfl, rfl⟩)
    go_ret
    exact ⟨rfl, rfl, rfl, rfl, Nat.le_refl _, fun _ _ => rfl⟩

end Go.Proofs.YtimgafblpmjajaaGreat
namespace Go.Proofs.YtimgafblpmjajaaGreat

open Go.RowKit

theorem Tryz.info49 : (Tryz.prog.info? 91).map (fun i => (i.zero, i.size, i.bytes)) = some (some (.agg #[.string ⟨#[]⟩]), 1, 16) := by kernel_rfl

theorem row_shape49 {w : World} {base : Nat} {v : Value} {xs : List (List UInt8)} (h : w.ownsRow base 91 1 v xs.length (xs.map strV)) :
    ∃ a cap, v = .slice a xs.length cap ∧ xs.length ≤ cap ∧ cap ≤ maxLen ∧ ∀ k, (hk : k < xs.length) → ∃ g, a = some ⟨g, 0, none⟩ ∧ base ≤ g ∧ g < w.heap.size ∧ w.cell? ⟨g, k, none⟩ = some (strV xs[k]) := by
  have h0 := h
  obtain ⟨_, ⟨rfl, hn⟩ | ⟨g, cap, cur, rfl, hg, hh, hcap, hmax, _⟩⟩ := h
  · exact ⟨none, 0, by rw [hn], by omega, by decide, fun k hk => by omega⟩
  · refine ⟨_, cap, rfl, hcap, hmax, fun k hk => ⟨g, rfl, hg, (Array.getElem?_eq_some_iff.1 hh).1, ?_⟩⟩
    rw [h0.cellAt k (by omega)]
    simp [hk]

/-- Rows of two types lie apart. -/
theorem rows_apart {w : World} {b1 b2 : Nat} {e1 e2 : TypeId} {s1 s2 n1 n2 : Nat} {v1 v2 : Value} {x1 x2 : List Value} (he : e1 ≠ e2) (h1 : w.ownsRow b1 e1 s1 v1 n1 x1) (h2 : w.ownsRow b2 e2 s2 v2 n2 x2) : Apart v1 v2 := by
  rcases h2.2 with ⟨rfl, _⟩ | ⟨g, cap, cur, rfl, _, hg, _⟩
  · exact .inl rfl
  · right
    rcases h1.2 with ⟨rfl, _⟩ | ⟨g', cap', cur', rfl, _, hg', _⟩
    · simp [Value.ownBlock]
    · intro e
      have e' : g = g' := by simpa [Value.ownBlock] using e
      subst e'
      rw [hg] at hg'
      simp at hg'
      exact he hg'.2.symm

set_option maxHeartbeats 1000000 in
set_option maxRecDepth 100000 in
theorem index_any (base : Nat) (v : Value) (M : List (List UInt8)) (t : ByteArray) (w : World) (hrow : w.ownsRow base 91 1 v M.length (M.map strV)) (hM : M.length ≤ 1048576) :
    Calls Tryz.prog 81 #[v, .agg #[.string t]] w fun e w' => ∃ i : Int, e = .returned (.int .i64 i) ∧ (0 ≤ i ↔ t.data.toList ∈ M) ∧ Below w.heap.size w w' := by
  obtain ⟨a, cap, rfl, hcap, hmax, hcell⟩ := row_shape49 hrow
  have HC : Hid (∀ k, (hk : k < M.length) → ∃ g, a = some ⟨g, 0, none⟩ ∧ base ≤ g ∧ g < w.heap.size ∧ w.cell? ⟨g, k, none⟩ = some (strV M[k])) := hcell
  clear hcell hmax hrow
  go_enter Tryz.func81, Tryz.ntmps81
  go_wp2
  go_loopw [8] (fun i wr => ∃ k : Nat, k ≤ M.length ∧ i = .int .i64 k ∧ Hid (∀ j, (hj : j < M.length) → j < k → M[j] ≠ t.data.toList) ∧ ∃ n, wr = (w.alloc (.cells #[.string t] 91)).drewN n) (fun i _ => M.length - (intOf i).toNat)
  case atStart => exact ⟨0, Nat.zero_le _, rfl, fun j _ h => by omega, 0, rfl⟩
  case round =>
    obtain ⟨k, hk, rfl, hno, n, rfl⟩ := hrel
    have hB : Below w.heap.size w ((w.alloc (.cells #[.string t] 91)).drewN n) := below_drewN ((Below.refl _ w).alloc (Nat.le_refl _) _) n
    by_cases hlt : k < M.length
    · obtain ⟨g, rfl, _, hg, hc⟩ := HC.out k hlt
      obtain ⟨q, hq⟩ : ∃ q : ByteArray, q = ⟨M[k].toArray⟩ := ⟨_, rfl⟩
      have hcq : w.cell? ⟨g, k, none⟩ = some (.string q) := by rw [hc, hq]; rfl
      have hqd : q.data.toList = M[k] := by rw [hq]
      by_cases heq : t = q
      · subst heq
        have HE : Hid (t.data.toList ∈ M) := by unfold Hid; rw [hqd]; exact List.getElem_mem hlt
        clear hc hq hqd
        go_wp2
        go_quiet (fail)
        go_wp2
        go_ret
        exact ⟨k, rfl, ⟨fun _ => HE.out, fun _ => by omega⟩, below_drewN hB nq⟩
      · have hne : (t.toList == q.toList) = false := by
          rw [beq_eq_false_iff_ne, Go.ByteArray.toList_eq, Go.ByteArray.toList_eq]
          exact fun h => heq (bytes_eq h)
        have HN : Hid (∀ j, (hj : j < M.length) → j < k + 1 → M[j] ≠ t.data.toList) := fun j hj h => by
          by_cases hjk : j = k
          · subst hjk; rw [← hqd]; intro h2; exact heq (bytes_eq h2.symm)
          · exact hno.out j hj (by omega)
        clear hc hq hqd
        go_wp2
        go_quiet (fail)
        go_wp2
        go_roundw
        case rel => exact ⟨k + 1, by omega, by go_num, HN, n + nq, by simp [World.drewN]⟩
        case measure => simp [intOf]; omega
    · have HN : Hid (t.data.toList ∉ M) := fun h => by
        obtain ⟨j, hj, e⟩ := List.mem_iff_getElem.1 h
        exact hno.out j hj (by omega) e
      go_wp2
      go_ret
      exact ⟨-1, rfl, ⟨fun h => by omega, fun h => absurd h HN.out⟩, hB⟩

end Go.Proofs.YtimgafblpmjajaaGreat
namespace Go.Proofs.YtimgafblpmjajaaGreat

open Go.RowKit

set_option maxHeartbeats 1000000 in
set_option maxRecDepth 100000 in
theorem contains_any (base : Nat) (v : Value) (M : List (List UInt8)) (t : ByteArray) (w : World) (hrow : w.ownsRow base 91 1 v M.length (M.map strV)) (hM : M.length ≤ 1048576) :
    Calls Tryz.prog 71 #[v, .agg #[.string t]] w fun e w' => e = .returned (.bool (decide (t.data.toList ∈ M))) ∧ Below w.heap.size w w' := by
  obtain ⟨d, hd⟩ : ∃ d, d = decide (t.data.toList ∈ M) := ⟨_, rfl⟩
  rw [← hd]
  have HD : Hid (d = decide (t.data.toList ∈ M)) := hd
  clear hd
  go_enter Tryz.func71, Tryz.ntmps71
  go_wp2_with fail
  refine (index_any base v M t _ (hrow.alloc _) hM).mono ?_
  rintro e w1 ⟨i, rfl, hi, hb⟩
  have HI : Hid (decide (0 ≤ i) = d) := by
    unfold Hid; rw [HD.out]; exact decide_eq_decide.2 hi
  clear hi
  go_wp2
  go_ret
  exact ⟨ret_bool HI.out, below_one hb⟩

set_option maxHeartbeats 1000000 in
set_option maxRecDepth 100000 in
theorem rooted_any (r n : ByteArray) (w : World) (hr : r.size ≤ 4194304) (hn : n.size ≤ 4194304) :
    Calls Tryz.prog 70 #[.string r, .string n] w fun e w' => e = .returned (strV (Pl.rooted r.data.toList n.data.toList)) ∧ w' = w := by
  by_cases h : r.data.toList = []
  · have hr0 : Pl.rooted r.data.toList n.data.toList = n.data.toList := by unfold Pl.rooted; rw [if_pos h]
    rw [hr0, strV_data]
    have he : r.toList.isEmpty = true := by rw [Go.ByteArray.toList_eq, h]; rfl
    clear hr0 h
    go_enter Tryz.func70, Tryz.ntmps70
    go_wp2
    go_ret
    exact ⟨rfl, rfl⟩
  · have hr0 : strV (Pl.rooted r.data.toList n.data.toList) = .string (r ++ ⟨#[47]⟩ ++ n) := by
      unfold Pl.rooted; rw [if_neg h, ← strV_data, ByteArray.data_append, ByteArray.data_append, Array.toList_append, Array.toList_append]
    rw [hr0]
    have he : r.toList.isEmpty = false := by rw [Go.ByteArray.toList_eq]; simpa using h
    clear hr0 h
    go_enter Tryz.func70, Tryz.ntmps70
    go_wp2
    go_ret
    exact ⟨rfl, rfl⟩

theorem under_succ (L : List (List UInt8)) (n : List UInt8) (k : Nat) (hk : k < L.length) : Pl.under (L.take (k + 1)) n = Pl.addTry (Pl.under (L.take k) n) (Pl.nm [] (Pl.rooted L[k] n)) := by
  unfold Pl.under; rw [List.take_succ_eq_append_getElem hk, List.foldl_append]; rfl
theorem addTry_len (out : List (List UInt8)) (x : Int × List UInt8) : (Pl.addTry out x).length ≤ out.length + 1 := by
  unfold Pl.addTry; split
  · split
    · omega
    · simp
  · omega
theorem under_len (L : List (List UInt8)) (n : List UInt8) (k : Nat) (hk : k ≤ L.length) : (Pl.under (L.take k) n).length ≤ k := by
  induction k with
  | zero => simp [Pl.under]
  | succ k ih =>
    rw [under_succ L n k (by omega)]
    have := addTry_len (Pl.under (L.take k) n) (Pl.nm [] (Pl.rooted L[k] n))
    have := ih (by omega); omega

set_option maxHeartbeats 2000000 in
set_option maxRecDepth 100000 in
theorem underRoots_any (vr : Value) (L : List (List UInt8)) (n : ByteArray) (w : World) (hv : Strs w vr L) (hl : Pl.total L ≤ 1048576) (hn : n.size ≤ 60) :
    Calls Tryz.prog 56 #[vr, .string n] w fun e w' => ∃ v, e = .returned v ∧ w'.ownsRow w.heap.size 91 1 v (Pl.under L n.data.toList).length ((Pl.under L n.data.toList).map strV) ∧ Below w.heap.size w w' := by
  obtain ⟨i49, hj, hy0, hy1, hy2⟩ := info_parts Tryz.info49
  obtain ⟨a, cap, rfl, hcap, hmax, hcell⟩ := hv
  have HC : Hid (∀ k, (hk : k < L.length) → ∃ b o, a = some ⟨b, o, none⟩ ∧ b < w.heap.size ∧ w.cell? ⟨b, o + k, none⟩ = some (strV L[k])) := hcell
  have hll : L.length ≤ 1048576 := by unfold Pl.total at hl; omega
  have HLE : Hid (∀ k, (hk : k < L.length) → L[k].length ≤ 1048576) := fun k hk => by have := len_le_total L k hk; omega
  have HUL : Hid (∀ k, k ≤ L.length → (Pl.under (L.take k) n.data.toList).length ≤ k) := fun k hk => under_len L _ k hk
  clear hcell hmax hl
  go_enter Tryz.func56, Tryz.ntmps56
  go_wp2
  go_loopw [5, 12] (fun vm i wr => ∃ k : Nat, k ≤ L.length ∧ i = .int .i64 k ∧ wr.ownsRow w.heap.size 91 1 vm (Pl.under (L.take k) n.data.toList).length ((Pl.under (L.take k) n.data.toList).map strV) ∧ Below w.heap.size w wr) (fun _ i _ => L.length - (intOf i).toNat)
  case atStart => exact ⟨0, Nat.zero_le _, rfl, World.ownsRow_nil _ _ _ _, Below.refl _ _⟩
  case round =>
    obtain ⟨k, hk, rfl, hm, hB⟩ := hrel
    have hsz := hB.size
    by_cases hlt : k < L.length
    · obtain ⟨b, o, rfl, hb, hc⟩ := HC.out k hlt
      obtain ⟨q, hq⟩ : ∃ q : ByteArray, q = ⟨L[k].toArray⟩ := ⟨_, rfl⟩
      have hqd : q.data.toList = L[k] := by rw [hq]
      have hqs : q.size ≤ 4194304 := by rw [size_data, hqd]; have := HLE.out k hlt; omega
      have hcq : wr.cell? ⟨b, o + k, none⟩ = some (.string q) := by rw [hB.cell (p := ⟨b, o + k, none⟩) hb, hc, hq]; rfl
      have hroot := rooted_any q n wr hqs (by omega)
      obtain ⟨rt, hrt⟩ : ∃ rt : ByteArray, rt = ⟨(Pl.rooted q.data.toList n.data.toList).toArray⟩ := ⟨_, rfl⟩
      have hrtd : rt.data.toList = Pl.rooted q.data.toList n.data.toList := by rw [hrt]
      rw [show strV (Pl.rooted q.data.toList n.data.toList) = .string rt by rw [hrt]; rfl] at hroot
      obtain ⟨c, x, hn'⟩ : ∃ c x, Pl.nm [] rt.data.toList = (c, x) := ⟨_, _, rfl⟩
      have hU := under_succ L n.data.toList k hlt
      rw [← hqd, ← hrtd, hn'] at hU
      have hul := HUL.out k (by omega)
      obtain ⟨T, hT⟩ : ∃ T, T = Pl.under (L.take k) n.data.toList := ⟨_, rfl⟩
      rw [← hT] at hm hU hul
      obtain ⟨t, htx⟩ : ∃ t : ByteArray, t = ⟨x.toArray⟩ := ⟨_, rfl⟩
      have htd : t.data.toList = x := by rw [htx]
      have hwalk : ∀ W : World, Calls Tryz.prog 55 #[.slice none 0 0, .string rt] W fun e w' => e = .returned (.tuple #[.agg #[.string t], .int .i64 c]) ∧ Below W.heap.size W w' := fun W => by
        have := walk_any W.heap.size (.slice none 0 0) [] rt W (World.ownsRow_nil _ _ _ _) (Nat.le_refl _) (by decide)
        rw [hn', formV, htx] at *; exact this
      have HWALK : Hid (∀ W : World, Calls Tryz.prog 55 #[.slice none 0 0, .string rt] W fun e w' => e = .returned (.tuple #[.agg #[.string t], .int .i64 c]) ∧ Below W.heap.size W w') := hwalk
      have HTD : Hid (t.data.toList = x) := htd
      have HU : Hid (Pl.under (L.take (k + 1)) n.data.toList = Pl.addTry T (c, x)) := hU
      clear hwalk htd htx hU hT hn' hrtd hrt hq hqd hc
      obtain ⟨am, capm, rfl, hcapm, _, _⟩ := row_shape49 hm
      by_cases hc0 : c = 0
      · have hb0 : (c == 0) = true := by simpa using hc0
        have hb0' : (c != 0) = false := by simpa using hc0
        have hcont : ∀ W : World, W.ownsRow w.heap.size 91 1 (.slice am T.length capm) T.length (T.map strV) → Calls Tryz.prog 71 #[.slice am T.length capm, .agg #[.string t]] W fun e w' => e = .returned (.bool (decide (x ∈ T))) ∧ Below W.heap.size W w' := fun W h => by
          have := contains_any _ _ T t W h (by omega); rw [HTD.out] at this; exact this
        have HCONT : Hid (∀ W : World, W.ownsRow w.heap.size 91 1 (.slice am T.length capm) T.length (T.map strV) → Calls Tryz.prog 71 #[.slice am T.length capm, .agg #[.string t]] W fun e w' => e = .returned (.bool (decide (x ∈ T))) ∧ Below W.heap.size W w') := hcont
        clear hcont
        by_cases hx : x ∈ T
        · have hdx : decide (x ∈ T) = true := by simpa using hx
          have HF : Hid (Pl.under (L.take (k + 1)) n.data.toList = T) := by unfold Hid; rw [HU.out]; unfold Pl.addTry; rw [if_pos hc0, if_pos hx]
          rw [hdx] at HCONT
          clear hc0 hx hdx
          go_wp2_with fail
          refine hroot.mono ?_
          rintro e w' ⟨rfl, rfl⟩
          go_wp2_with fail
          refine (HWALK.out _).mono ?_
          rintro e w2 ⟨rfl, hb2⟩
          have hm2 := (own_below hm hb2 (Nat.le_refl _)).alloc (.cells #[.string t] 91)
          have hB2 : Below w.heap.size w (w2.alloc (.cells #[.string t] 91)) := (hB.trans (hb2.mono hsz)).alloc (by have := hb2.size; omega) _
          go_wp2_with fail
          refine (HCONT.out _ hm2).mono ?_
          rintro e w3 ⟨rfl, hb3⟩
          go_wp2
          go_roundw
          case rel => exact ⟨k + 1, by omega, by go_num, by rw [HF.out]; exact own_below hm2 hb3 (Nat.le_refl _), hB2.trans (hb3.mono hB2.size)⟩
          case measure => simp [intOf]; omega
        · have hdx : decide (x ∈ T) = false := by simpa using hx
          have HF : Hid (Pl.under (L.take (k + 1)) n.data.toList = T ++ [x]) := by unfold Hid; rw [HU.out]; unfold Pl.addTry; rw [if_pos hc0, if_neg hx]
          have HTX : Hid (Value.string t = strV x) := by unfold Hid; rw [← strV_data, HTD.out]
          rw [hdx] at HCONT
          clear hc0 hx hdx
          go_wp2_with fail
          refine hroot.mono ?_
          rintro e w' ⟨rfl, rfl⟩
          go_wp2_with fail
          refine (HWALK.out _).mono ?_
          rintro e w2 ⟨rfl, hb2⟩
          have hm2 := (own_below hm hb2 (Nat.le_refl _)).alloc (.cells #[.string t] 91)
          have hB2 : Below w.heap.size w (w2.alloc (.cells #[.string t] 91)) := (hB.trans (hb2.mono hsz)).alloc (by have := hb2.size; omega) _
          go_wp2_with fail
          refine (HCONT.out _ hm2).mono ?_
          rintro e w3 ⟨rfl, hb3⟩
          have hm3 := own_below hm2 hb3 (Nat.le_refl _)
          have hB3 : Below w.heap.size w w3 := hB2.trans (hb3.mono hB2.size)
          have hz3 := hB3.size
          have hf3 : w3.cell? ⟨w2.heap.size, 0, none⟩ = some (.string t) := by
            rw [hb3.cell (p := ⟨w2.heap.size, 0, none⟩) (by simp)]; simp
          have hz23 : w2.heap.size < w3.heap.size := by have := hb3.size; simp at this; omega
          clear hm2 hB2 hb3 hb2 hB hm
          go_wp2_with (at_builtin; refine wpList_app1 _ rfl (.tmp 31) (.tmp 33) 88 rfl w.heap.size 91 i49 (.agg #[.string ⟨#[]⟩]) 16 Tryz.underlying88 hj hy0 hy1 hy2 rfl _ _ _ rfl (hm3.alloc _) ⟨_, 0, none⟩ 1 (.string t) rfl (cell_one_new _ _ _) (by simp [Value.oneCell']) (by unfold maxLen; omega) (by omega) (by simp; omega) ?_; intro vm' w4 hm4 hg4 hs4; have hB4 := below_append hB3 hz3 hm3 hg4; clear hm3 hf3 hg4 hs4 hB3)
          rw [HTX.out] at hm4
          go_roundw
          case rel => exact ⟨k + 1, by omega, by go_num, by rw [HF.out]; simpa using hm4, hB4⟩
          case measure => simp [intOf]; omega
      · have hb0 : (c == 0) = false := by simpa using hc0
        have hb0' : (c != 0) = true := by simpa using hc0
        have HF : Hid (Pl.under (L.take (k + 1)) n.data.toList = T) := by unfold Hid; rw [HU.out]; unfold Pl.addTry; rw [if_neg hc0]
        clear hc0
        go_wp2_with fail
        refine hroot.mono ?_
        rintro e w' ⟨rfl, rfl⟩
        go_wp2_with fail
        refine (HWALK.out _).mono ?_
        rintro e w2 ⟨rfl, hb2⟩
        go_wp2_with (fail)
        go_roundw
        case rel => exact ⟨k + 1, by omega, by go_num, by rw [HF.out]; exact (own_below hm hb2 (Nat.le_refl _)).alloc _, (hB.trans (hb2.mono hsz)).alloc (by have := hb2.size; omega) _⟩
        case measure => simp [intOf]; omega
    · have hkL : L.take k = L := List.take_of_length_le (by omega)
      rw [hkL] at hm
      clear hkL
      go_wp2
      go_ret
      exact ⟨_, rfl, hm, hB⟩

end Go.Proofs.YtimgafblpmjajaaGreat
namespace Go.Proofs.YtimgafblpmjajaaGreat

open Go.RowKit

theorem lit_one (W : World) (B : Nat) (x : List UInt8) (hB : B ≤ W.heap.size) : (W.alloc (.cells #[strV x] 9)).ownsRow B 9 1 (.slice (some ⟨W.heap.size, 0, none⟩) 1 1) [x].length ([x].map strV) :=
  World.ownsRow_lit W #[strV x] 1 hB (by decide) rfl

theorem lit_one49 (W : World) (B : Nat) (x : List UInt8) (hB : B ≤ W.heap.size) : (W.alloc (.cells #[strV x] 91)).ownsRow B 91 1 (.slice (some ⟨W.heap.size, 0, none⟩) 1 1) [x].length ([x].map strV) :=
  World.ownsRow_lit W #[strV x] 1 hB (by decide) rfl

set_option maxHeartbeats 1000000 in
set_option maxRecDepth 100000 in
theorem formsToTry_any (vr : Value) (L : List (List UInt8)) (f s : ByteArray) (w : World) (hv : Strs w vr L) (hl : Pl.total L ≤ 1048576) (hs : s.size ≤ 1048576) :
    Calls Tryz.prog 37 #[vr, .string f, .string s] w fun e w' => ∃ v, e = .returned v ∧ w'.ownsRow w.heap.size 91 1 v (Pl.tries L f.data.toList s.data.toList).length ((Pl.tries L f.data.toList s.data.toList).map strV) ∧ Below w.heap.size w w' := by
  have hv0 := hv
  obtain ⟨a, cap, rfl, hcap, hmax, hcell⟩ := hv
  clear hcell
  by_cases h8 : 8 < L.length
  · have hT : Pl.tries L f.data.toList s.data.toList = [] := by unfold Pl.tries; rw [if_pos h8]
    rw [hT]
    clear hT hv0
    go_enter Tryz.func37, Tryz.ntmps37
    go_wp2
    go_ret
    exact ⟨_, rfl, World.ownsRow_nil _ _ _ _, Below.refl _ _⟩
  · cases hnear : Pl.near s.data.toList with
    | true =>
      obtain ⟨c, x, hn⟩ : ∃ c x, Pl.wn f.data.toList s.data.toList = (c, x) := ⟨_, _, rfl⟩
      have hT : Pl.tries L f.data.toList s.data.toList = if c = 0 then [x] else [] := by unfold Pl.tries; rw [if_neg h8, hnear, if_pos rfl, hn]
      have hrel := isRelative_any s w hs
      rw [hnear] at hrel
      have HN : Hid (Pl.wn f.data.toList s.data.toList = (c, x)) := hn
      obtain ⟨t, htx⟩ : ∃ t : ByteArray, strV x = .string t := ⟨_, rfl⟩
      have HTX : Hid (strV x = .string t) := htx
      rw [hT]
      clear hT hn hnear hv0 htx
      by_cases hc0 : c = 0
      · rw [if_pos hc0]
        have hb0 : (c == 0) = true := by simpa using hc0
        have hb0' : (c != 0) = false := by simpa using hc0
        clear hc0
        go_enter Tryz.func37, Tryz.ntmps37
        go_wp2_with fail
        refine hrel.mono ?_
        rintro e w1 ⟨rfl, hb1⟩
        go_wp2_with fail
        refine (within_any f s _).mono ?_
        rw [HN.out]
        unfold formV
        rw [HTX.out]
        rintro e w2 ⟨rfl, hb2⟩
        have hb12 : Below w.heap.size w w2 := hb1.trans (hb2.mono hb1.size)
        have hz := hb12.size
        have hL : ((w2.alloc (.cells #[.string t] 91)).alloc (.cells #[.string t] 91)).ownsRow w.heap.size 91 1 (.slice (some ⟨(w2.alloc (.cells #[.string t] 91)).heap.size, 0, none⟩) 1 1) [x].length ([x].map strV) := by
          have := lit_one49 (w2.alloc (.cells #[.string t] 91)) w.heap.size x (by simp; omega)
          rw [HTX.out] at this; exact this
        go_wp2
        go_ret
        exact ⟨_, rfl, by simpa using hL, (hb12.alloc hz _).alloc (by simp; omega) _⟩
      · rw [if_neg hc0]
        have hb0 : (c == 0) = false := by simpa using hc0
        have hb0' : (c != 0) = true := by simpa using hc0
        clear hc0
        go_enter Tryz.func37, Tryz.ntmps37
        go_wp2_with fail
        refine hrel.mono ?_
        rintro e w1 ⟨rfl, hb1⟩
        go_wp2_with fail
        refine (within_any f s _).mono ?_
        rw [HN.out]
        unfold formV
        rw [HTX.out]
        rintro e w2 ⟨rfl, hb2⟩
        have hb12 : Below w.heap.size w w2 := hb1.trans (hb2.mono hb1.size)
        have hz := hb12.size
        go_wp2
        go_ret
        exact ⟨_, rfl, World.ownsRow_nil _ _ _ _, hb12.alloc hz _⟩
    | false =>
      obtain ⟨c, x, hn⟩ : ∃ c x, Pl.nm [] s.data.toList = (c, x) := ⟨_, _, rfl⟩
      have hT : Pl.tries L f.data.toList s.data.toList = if c = 0 then Pl.under L x else [] := by unfold Pl.tries; rw [if_neg h8, hnear, if_neg (by decide), hn]
      have hx60 : x.length ≤ 60 := by have := Pl.nm_len [] s.data.toList; rw [hn] at this; exact this
      have hrel := isRelative_any s w hs
      rw [hnear] at hrel
      have HN : Hid (Pl.nm [] s.data.toList = (c, x)) := hn
      obtain ⟨t, htx⟩ : ∃ t : ByteArray, t = ⟨x.toArray⟩ := ⟨_, rfl⟩
      have HTX : Hid (strV x = .string t) := by unfold Hid; rw [htx]; rfl
      have htd : t.data.toList = x := by rw [htx]
      have hts : t.size ≤ 60 := by rw [size_data, htd]; exact hx60
      have HTD : Hid (t.data.toList = x) := htd
      rw [hT]
      clear hT hn hnear htx htd
      have HW : Hid (∀ W : World, Calls Tryz.prog 55 #[.slice none 0 0, .string s] W fun e w' => e = .returned (.tuple #[.agg #[.string t], .int .i64 c]) ∧ Below W.heap.size W w') := fun W => by
        have := walk_any W.heap.size (.slice none 0 0) [] s W (World.ownsRow_nil _ _ _ _) (Nat.le_refl _) (by decide)
        rw [HN.out, formV, HTX.out] at this; exact this
      by_cases hc0 : c = 0
      · rw [if_pos hc0]
        have hb0 : (c == 0) = true := by simpa using hc0
        have hb0' : (c != 0) = false := by simpa using hc0
        clear hc0
        have HV0 : Hid (Strs w (.slice a L.length cap) L) := hv0
        clear hv0
        go_enter Tryz.func37, Tryz.ntmps37
        go_wp2_with fail
        refine hrel.mono ?_
        rintro e w1 ⟨rfl, hb1⟩
        go_wp2_with fail
        refine (HW.out _).mono ?_
        rintro e w2 ⟨rfl, hb2⟩
        have hb12 : Below w.heap.size w w2 := hb1.trans (hb2.mono hb1.size)
        have hz := hb12.size
        have hb3 : Below w.heap.size w (w2.alloc (.cells #[.string t] 91)) := hb12.alloc hz _
        go_wp2_with fail
        refine (underRoots_any _ L t _ (HV0.out.below hb3 (Nat.le_refl _)) hl hts).mono ?_
        rw [HTD.out]
        rintro e w3 ⟨v, rfl, hr, hb4⟩
        go_wp2
        go_ret
        exact ⟨_, rfl, own_mono hr (by simp; omega), hb3.trans (hb4.mono (by simp; omega))⟩
      · rw [if_neg hc0]
        have hb0 : (c == 0) = false := by simpa using hc0
        have hb0' : (c != 0) = true := by simpa using hc0
        clear hc0 hv0
        go_enter Tryz.func37, Tryz.ntmps37
        go_wp2_with fail
        refine hrel.mono ?_
        rintro e w1 ⟨rfl, hb1⟩
        go_wp2_with fail
        refine (HW.out _).mono ?_
        rintro e w2 ⟨rfl, hb2⟩
        have hb12 : Below w.heap.size w w2 := hb1.trans (hb2.mono hb1.size)
        have hz := hb12.size
        go_wp2
        go_ret
        exact ⟨_, rfl, World.ownsRow_nil _ _ _ _, hb12.alloc hz _⟩

theorem Pl.tries_len (L : List (List UInt8)) (f s : List UInt8) : (Pl.tries L f s).length ≤ 8 := by
  unfold Pl.tries
  split
  · simp
  · split
    · split <;> simp
    · split
      · have := under_len L (Pl.nm [] s).2 L.length (Nat.le_refl _)
        rw [List.take_length] at this
        omega
      · simp

end Go.Proofs.YtimgafblpmjajaaGreat
namespace Go.Proofs.YtimgafblpmjajaaGreat

open Go.RowKit

set_option maxHeartbeats 1000000 in
set_option maxRecDepth 100000 in
theorem l1rooted_any (r n : ByteArray) (w : World) (hr : r.size ≤ 4194304) (hn : n.size ≤ 4194304) :
    Calls Tryz.prog 52 #[.string r, .string n] w fun e w' => e = .returned (namedV (Pl.nm [] (Pl.rooted r.data.toList n.data.toList))) ∧ Below w.heap.size w w' := by
  obtain ⟨c, x, hnm⟩ : ∃ c x, Pl.nm [] (Pl.rooted r.data.toList n.data.toList) = (c, x) := ⟨_, _, rfl⟩
  rw [hnm]
  by_cases h : r.data.toList = []
  · have hr0 : Pl.rooted r.data.toList n.data.toList = n.data.toList := by unfold Pl.rooted; rw [if_pos h]
    rw [hr0] at hnm
    have HN : Hid (Pl.nm [] n.data.toList = (c, x)) := hnm
    have he : r.toList.isEmpty = true := by rw [Go.ByteArray.toList_eq, h]; rfl
    clear hr0 h hnm
    go_enter Tryz.func52, Tryz.ntmps52
    go_wp2_with fail
    refine (specClean_all n _).mono ?_
    rw [HN.out]
    unfold namedV strV
    rintro e w1 ⟨rfl, hb⟩
    obtain ⟨hc, hf⟩ := bcell hb
    go_wp2
    exact bodyPost_ret (v := namedV (c, x)) (by simp [results, Tryz.results52, go_sem, namedV, strV, hc]) rfl ⟨rfl, below_set2 hb _ _⟩
  · have hr0 : Pl.rooted r.data.toList n.data.toList = (r ++ ⟨#[47]⟩ ++ n).data.toList := by
      unfold Pl.rooted; rw [if_neg h, ByteArray.data_append, ByteArray.data_append, Array.toList_append, Array.toList_append]
    rw [hr0] at hnm
    have HN : Hid (Pl.nm [] (r ++ ⟨#[47]⟩ ++ n).data.toList = (c, x)) := hnm
    have he : r.toList.isEmpty = false := by rw [Go.ByteArray.toList_eq]; simpa using h
    clear hr0 h hnm
    go_enter Tryz.func52, Tryz.ntmps52
    go_wp2_with fail
    refine (specClean_all _ _).mono ?_
    rw [HN.out]
    unfold namedV strV
    rintro e w1 ⟨rfl, hb⟩
    obtain ⟨hc, hf⟩ := bcell hb
    go_wp2
    exact bodyPost_ret (v := namedV (c, x)) (by simp [results, Tryz.results52, go_sem, namedV, strV, hc]) rfl ⟨rfl, below_set2 hb _ _⟩

set_option maxHeartbeats 1000000 in
set_option maxRecDepth 100000 in
theorem specTries_near (vr : Value) (L : List (List UInt8)) (f s : ByteArray) (w : World) (hv : Strs w vr L) (h8 : ¬ 8 < L.length) (hf : f.size ≤ 1048576) (hs : s.size ≤ 1048576) (hnear : Pl.near s.data.toList = true) :
    Calls Tryz.prog 36 #[vr, .string f, .string s] w fun e w' => ∃ v, e = .returned v ∧ w'.ownsRow w.heap.size 9 1 v (Pl.tries L f.data.toList s.data.toList).length ((Pl.tries L f.data.toList s.data.toList).map strV) ∧ Below w.heap.size w w' := by
  obtain ⟨a, cap, rfl, hcap, hmax, hcell⟩ := hv
  clear hcell
  obtain ⟨c, x, hn⟩ : ∃ c x, Pl.wn f.data.toList s.data.toList = (c, x) := ⟨_, _, rfl⟩
  have hT : Pl.tries L f.data.toList s.data.toList = if c = 0 then [x] else [] := by unfold Pl.tries; rw [if_neg h8, hnear, if_pos rfl, hn]
  have hrel := l1near_any s w hs
  rw [hnear] at hrel
  have HN : Hid (Pl.wn f.data.toList s.data.toList = (c, x)) := hn
  obtain ⟨t, htx⟩ : ∃ t : ByteArray, strV x = .string t := ⟨_, rfl⟩
  have HTX : Hid (strV x = .string t) := htx
  rw [hT]
  clear hT hn hnear htx
  by_cases hc0 : c = 0
  · rw [if_pos hc0]
    have hb0 : (c == 0) = true := by simpa using hc0
    have hb0' : (c != 0) = false := by simpa using hc0
    clear hc0
    go_enter Tryz.func36, Tryz.ntmps36
    go_wp2_with fail
    refine hrel.mono ?_
    rintro e w1 ⟨rfl, hb1⟩
    go_wp2_with fail
    refine (specWithin_any f s _ hf hs).mono ?_
    rw [HN.out]
    unfold namedV
    rw [HTX.out]
    rintro e w2 ⟨rfl, hb2⟩
    have hb12 : Below w.heap.size w w2 := hb1.trans (hb2.mono hb1.size)
    have hz := hb12.size
    go_wp2
    go_ret
    refine ⟨_, rfl, ?_, (hb12.alloc hz _).alloc (by simp; omega) _⟩
    have := lit_one (w2.alloc (.cells #[.int .i64 c, .string t] 118)) w.heap.size x (by simp; omega)
    rw [HTX.out] at this
    simpa [HTX.out] using this
  · rw [if_neg hc0]
    have hb0 : (c == 0) = false := by simpa using hc0
    have hb0' : (c != 0) = true := by simpa using hc0
    clear hc0
    go_enter Tryz.func36, Tryz.ntmps36
    go_wp2_with fail
    refine hrel.mono ?_
    rintro e w1 ⟨rfl, hb1⟩
    go_wp2_with fail
    refine (specWithin_any f s _ hf hs).mono ?_
    rw [HN.out]
    unfold namedV
    rw [HTX.out]
    rintro e w2 ⟨rfl, hb2⟩
    have hb12 : Below w.heap.size w w2 := hb1.trans (hb2.mono hb1.size)
    have hz := hb12.size
    go_wp2
    go_ret
    exact ⟨_, rfl, World.ownsRow_nil _ _ _ _, hb12.alloc hz _⟩

set_option maxHeartbeats 2000000 in
set_option maxRecDepth 100000 in
theorem specTries_far (vr : Value) (L : List (List UInt8)) (f s : ByteArray) (w : World) (hv : Strs w vr L) (hl : Pl.total L ≤ 1048576) (h8 : ¬ 8 < L.length) (hs : s.size ≤ 1048576) (hnear : Pl.near s.data.toList = false) :
    Calls Tryz.prog 36 #[vr, .string f, .string s] w fun e w' => ∃ v, e = .returned v ∧ w'.ownsRow w.heap.size 9 1 v (Pl.tries L f.data.toList s.data.toList).length ((Pl.tries L f.data.toList s.data.toList).map strV) ∧ Below w.heap.size w w' := by
  obtain ⟨i9, hi, hz0, hz1, hz2⟩ := info_parts Tryz.info9
  have HV0 : Hid (Strs w vr L) := hv
  obtain ⟨a, cap, rfl, hcap, hmax, hcell⟩ := hv
  have hll : L.length ≤ 1048576 := by unfold Pl.total at hl; omega
  have HLE : Hid (∀ k, (hk : k < L.length) → L[k].length ≤ 1048576) := fun k hk => by have := len_le_total L k hk; omega
  clear hcell hmax hl
  obtain ⟨c, x, hn⟩ : ∃ c x, Pl.nm [] s.data.toList = (c, x) := ⟨_, _, rfl⟩
  have hT : Pl.tries L f.data.toList s.data.toList = if c = 0 then Pl.under L x else [] := by unfold Pl.tries; rw [if_neg h8, hnear, if_neg (by decide), hn]
  have hx60 : x.length ≤ 60 := by have := Pl.nm_len [] s.data.toList; rw [hn] at this; exact this
  have hrel := l1near_any s w hs
  rw [hnear] at hrel
  have HN : Hid (Pl.nm [] s.data.toList = (c, x)) := hn
  obtain ⟨t, htx⟩ : ∃ t : ByteArray, t = ⟨x.toArray⟩ := ⟨_, rfl⟩
  have HTX : Hid (strV x = .string t) := by unfold Hid; rw [htx]; rfl
  have htd : t.data.toList = x := by rw [htx]
  have hts : t.size ≤ 60 := by rw [size_data, htd]; exact hx60
  have HTD : Hid (t.data.toList = x) := htd
  have HUL : Hid (∀ k, k ≤ L.length → (Pl.under (L.take k) x).length ≤ k) := fun k hk => under_len L _ k hk
  rw [hT]
  clear hT hn hnear htx htd
  by_cases hc0 : c = 0
  · rw [if_pos hc0]
    have hb0 : (c == 0) = true := by simpa using hc0
    have hb0' : (c != 0) = false := by simpa using hc0
    clear hc0
    go_enter Tryz.func36, Tryz.ntmps36
    go_wp2_with fail
    refine hrel.mono ?_
    rintro e w1 ⟨rfl, hb1⟩
    go_wp2_with fail
    refine (specClean_any s _ hs).mono ?_
    rw [HN.out]
    unfold namedV
    rw [HTX.out]
    rintro e w2 ⟨rfl, hb2⟩
    have hb12 : Below w.heap.size w w2 := hb1.trans (hb2.mono hb1.size)
    have hz := hb12.size
    have hb3 : Below w.heap.size w (w2.alloc (.cells #[.int .i64 c, .string t] 118)) := hb12.alloc hz _
    have hstr := HV0.out.below hb3 (Nat.le_refl _)
    obtain ⟨a', cap', hve, hcap', _, hcell⟩ := hstr
    cases hve
    have HC : Hid (∀ k, (hk : k < L.length) → ∃ b o, a = some ⟨b, o, none⟩ ∧ b < (w2.alloc (.cells #[.int .i64 c, .string t] 118)).heap.size ∧ (w2.alloc (.cells #[.int .i64 c, .string t] 118)).cell? ⟨b, o + k, none⟩ = some (strV L[k])) := hcell
    have hnc : (w2.alloc (.cells #[.int .i64 c, .string t] 118)).cell? ⟨w2.heap.size, 1, none⟩ = some (.string t) := by simp
    clear hcell
    go_wp2
    obtain ⟨W0, hW0⟩ : ∃ W0, W0 = w2.alloc (.cells #[.int .i64 c, .string t] 118) := ⟨_, rfl⟩
    have hN0 : w2.heap.size < W0.heap.size := by rw [hW0]; simp
    rw [← hW0] at HC hnc hb3 ⊢
    have HW0 : Hid (W0 = w2.alloc (.cells #[.int .i64 c, .string t] 118)) := hW0
    clear hW0
    go_loopw [9, 37] (fun v i wr => ∃ k : Nat, k ≤ L.length ∧ i = .int .i64 k ∧ wr.ownsRow W0.heap.size 9 1 v (Pl.under (L.take k) x).length ((Pl.under (L.take k) x).map strV) ∧ Below W0.heap.size W0 wr) (fun _ i _ => L.length - (intOf i).toNat)
    case atStart => exact ⟨0, Nat.zero_le _, rfl, World.ownsRow_nil _ _ _ _, Below.refl _ _⟩
    case round =>
      obtain ⟨k, hk, rfl, ht, hB⟩ := hrel
      have hsz := hB.size
      by_cases hlt : k < L.length
      · obtain ⟨b, o, rfl, hb, hc⟩ := HC.out k hlt
        obtain ⟨q, hq⟩ : ∃ q : ByteArray, q = ⟨L[k].toArray⟩ := ⟨_, rfl⟩
        have hqd : q.data.toList = L[k] := by rw [hq]
        have hqs : q.size ≤ 4194304 := by rw [size_data, hqd]; have := HLE.out k hlt; omega
        have hcq : wr.cell? ⟨b, o + k, none⟩ = some (.string q) := by rw [hB.cell (p := ⟨b, o + k, none⟩) hb, hc, hq]; rfl
        have hnc2 : wr.cell? ⟨w2.heap.size, 1, none⟩ = some (.string t) := (hB.cell (p := ⟨w2.heap.size, 1, none⟩) hN0).trans hnc
        have hroot := l1rooted_any q t wr hqs (by omega)
        rw [HTD.out] at hroot
        obtain ⟨c2, x2, hn'⟩ : ∃ c2 x2, Pl.nm [] (Pl.rooted q.data.toList x) = (c2, x2) := ⟨_, _, rfl⟩
        have hU := under_succ L x k hlt
        rw [← hqd, hn'] at hU
        have hul := HUL.out k (by omega)
        obtain ⟨T, hT⟩ : ∃ T, T = Pl.under (L.take k) x := ⟨_, rfl⟩
        rw [← hT] at ht hU hul
        obtain ⟨t2, ht2⟩ : ∃ t2 : ByteArray, t2 = ⟨x2.toArray⟩ := ⟨_, rfl⟩
        have ht2d : t2.data.toList = x2 := by rw [ht2]
        have HT2D : Hid (t2.data.toList = x2) := ht2d
        rw [hn', namedV, show strV x2 = .string t2 by rw [ht2]; rfl] at hroot
        have HU : Hid (Pl.under (L.take (k + 1)) x = Pl.addTry T (c2, x2)) := hU
        obtain ⟨at', capt, rfl, hcapt, _, _⟩ := row_shape ht
        clear hU hT hn' hq hqd hc ht2 ht2d
        by_cases hc2 : c2 = 0
        · have hd0 : (c2 == 0) = true := by simpa using hc2
          have hd0' : (c2 != 0) = false := by simpa using hc2
          have HA : Hid (x2 ∈ T → Pl.under (L.take (k + 1)) x = T) := fun h => by rw [HU.out]; unfold Pl.addTry; rw [if_pos hc2, if_pos h]
          have HA2 : Hid (x2 ∉ T → Pl.under (L.take (k + 1)) x = T ++ [x2]) := fun h => by rw [HU.out]; unfold Pl.addTry; rw [if_pos hc2, if_neg h]
          clear hc2
          go_wp2_with fail
          refine hroot.mono ?_
          rintro e w3 ⟨rfl, hb3'⟩
          have hz3 := hb3'.size
          have ht3 := (own_below ht hb3' (Nat.le_refl _)).alloc (.cells #[.int .i64 c2, .string t2] 118)
          have hB3 : Below W0.heap.size W0 (w3.alloc (.cells #[.int .i64 c2, .string t2] 118)) := (hB.trans (hb3'.mono hsz)).alloc (by omega) _
          have hxc : (w3.alloc (.cells #[.int .i64 c2, .string t2] 118)).cell? ⟨w3.heap.size, 1, none⟩ = some (.string t2) := by simp
          obtain ⟨_, _, hvt, _, _, hcellt⟩ := row_shape ht3
          cases hvt
          have HCT : Hid (∀ j, (hj : j < T.length) → ∃ g, at' = some ⟨g, 0, none⟩ ∧ W0.heap.size ≤ g ∧ g < (w3.alloc (.cells #[.int .i64 c2, .string t2] 118)).heap.size ∧ (w3.alloc (.cells #[.int .i64 c2, .string t2] 118)).cell? ⟨g, j, none⟩ = some (strV T[j])) := hcellt
          clear hcellt ht hB
          go_wp2
          obtain ⟨W3, hW3⟩ : ∃ W3, W3 = w3.alloc (.cells #[.int .i64 c2, .string t2] 118) := ⟨_, rfl⟩
          rw [← hW3] at HCT hxc ht3 hB3 ⊢
          clear hW3
          go_loop [13, 50] (fun m i => ∃ (j : Nat) (d : Bool), j ≤ T.length ∧ i = .int .i64 j ∧ m = .bool d ∧ Hid (d = decide (x2 ∈ T.take j))) (fun _ i => T.length - (intOf i).toNat)
          case atStart => exact ⟨0, false, Nat.zero_le _, rfl, rfl, by unfold Hid; simp⟩
          case round =>
            obtain ⟨j, d, hj, rfl, rfl, hd⟩ := hrel
            by_cases hjt : j < T.length
            · obtain ⟨g, rfl, _, _, hcg⟩ := HCT.out j hjt
              obtain ⟨y, hy⟩ : ∃ y : ByteArray, y = ⟨T[j].toArray⟩ := ⟨_, rfl⟩
              have hyd : y.data.toList = T[j] := by rw [hy]
              have hcy : W3.cell? ⟨g, j, none⟩ = some (.string y) := by rw [hcg, hy]; rfl
              have HS : Hid (decide (x2 ∈ T.take (j + 1)) = (d || (y.toList == t2.toList))) := by
                unfold Hid
                rw [hd.out, List.take_succ_eq_append_getElem hjt, Go.ByteArray.toList_eq, Go.ByteArray.toList_eq, hyd, HT2D.out, Bool.eq_iff_iff]
                simp only [decide_eq_true_eq, Bool.or_eq_true, beq_iff_eq, List.mem_append, List.mem_singleton]
                exact or_congr Iff.rfl eq_comm
              clear hcg hy hyd
              cases d with
              | true =>
                rw [Bool.true_or] at HS
                go_wp2
                go_round
                case rel => exact ⟨j + 1, true, by omega, by go_num, rfl, HS.out.symm⟩
                case measure => simp [intOf]; omega
              | false =>
                rw [Bool.false_or] at HS
                go_wp2
                go_round
                case rel => exact ⟨j + 1, _, by omega, by go_num, rfl, HS.out.symm⟩
                case measure => simp [intOf]; omega
            · have hd2 : d = decide (x2 ∈ T) := by rw [hd.out, List.take_of_length_le (by omega)]
              cases d with
              | true =>
                have HF : Hid (Pl.under (L.take (k + 1)) x = T) := HA.out (by simpa using hd2.symm)
                clear hd2 hd
                go_wp2
                go_roundw
                case rel => exact ⟨k + 1, by omega, by go_num, by rw [HF.out]; exact ht3, hB3⟩
                case measure => simp [intOf]; omega
              | false =>
                have HF : Hid (Pl.under (L.take (k + 1)) x = T ++ [x2]) := HA2.out (by simpa using hd2.symm)
                have HTX2 : Hid (Value.string t2 = strV x2) := by unfold Hid; rw [← strV_data, HT2D.out]
                have hz4 := hB3.size
                clear hd2 hd
                go_wp2_with (at_builtin; refine wpList_append_own _ rfl _ _ 23 rfl W0.heap.size 9 i9 (.string ByteArray.empty) 1 16 Tryz.underlying23 hi hz0 hz1 hz2 rfl (by decide) _ _ _ rfl (ht3.alloc _) ⟨_, 0, none⟩ 1 1 [.string t2] rfl rfl (cell_one_new _ _ _) (by simp [Value.oneCell']) (by unfold maxLen; omega) (by omega) (by simp; omega) ?_; intro v' w4 hown' hgrow _; have hb4 := below_append hB3 hz4 ht3 hgrow; have ho := row_snoc (p := x2) HTX2.out hown'; clear hown' hgrow)
                go_roundw
                case rel => exact ⟨k + 1, by omega, by go_num, by rw [HF.out]; exact ho, hb4⟩
                case measure => simp [intOf]; omega
        · have hd0 : (c2 == 0) = false := by simpa using hc2
          have hd0' : (c2 != 0) = true := by simpa using hc2
          have HF : Hid (Pl.under (L.take (k + 1)) x = T) := by unfold Hid; rw [HU.out]; unfold Pl.addTry; rw [if_neg hc2]
          clear hc2
          go_wp2_with fail
          refine hroot.mono ?_
          rintro e w3 ⟨rfl, hb3'⟩
          have hz3 := hb3'.size
          go_wp2
          go_roundw
          case rel => exact ⟨k + 1, by omega, by go_num, by rw [HF.out]; exact (own_below ht hb3' (Nat.le_refl _)).alloc _, (hB.trans (hb3'.mono hsz)).alloc (by omega) _⟩
          case measure => simp [intOf]; omega
      · have hkL : L.take k = L := List.take_of_length_le (by omega)
        rw [hkL] at ht
        clear hkL
        go_wp2
        go_ret
        exact ⟨_, rfl, own_mono ht hb3.size, hb3.trans (hB.mono hb3.size)⟩
  · rw [if_neg hc0]
    have hb0 : (c == 0) = false := by simpa using hc0
    have hb0' : (c != 0) = true := by simpa using hc0
    clear hc0
    go_enter Tryz.func36, Tryz.ntmps36
    go_wp2_with fail
    refine hrel.mono ?_
    rintro e w1 ⟨rfl, hb1⟩
    go_wp2_with fail
    refine (specClean_any s _ hs).mono ?_
    rw [HN.out]
    unfold namedV
    rw [HTX.out]
    rintro e w2 ⟨rfl, hb2⟩
    have hb12 : Below w.heap.size w w2 := hb1.trans (hb2.mono hb1.size)
    have hz := hb12.size
    go_wp2
    go_ret
    exact ⟨_, rfl, World.ownsRow_nil _ _ _ _, hb12.alloc hz _⟩

set_option maxHeartbeats 1000000 in
set_option maxRecDepth 100000 in
theorem specTries_any (vr : Value) (L : List (List UInt8)) (f s : ByteArray) (w : World) (hv : Strs w vr L) (hl : Pl.total L ≤ 1048576) (hf : f.size ≤ 1048576) (hs : s.size ≤ 1048576) :
    Calls Tryz.prog 36 #[vr, .string f, .string s] w fun e w' => ∃ v, e = .returned v ∧ w'.ownsRow w.heap.size 9 1 v (Pl.tries L f.data.toList s.data.toList).length ((Pl.tries L f.data.toList s.data.toList).map strV) ∧ Below w.heap.size w w' := by
  by_cases h8 : 8 < L.length
  · have hT : Pl.tries L f.data.toList s.data.toList = [] := by unfold Pl.tries; rw [if_pos h8]
    rw [hT]
    obtain ⟨a, cap, rfl, hcap, hmax, hcell⟩ := hv
    clear hT hcell
    go_enter Tryz.func36, Tryz.ntmps36
    go_wp2
    go_ret
    exact ⟨_, rfl, World.ownsRow_nil _ _ _ _, Below.refl _ _⟩
  · cases hnear : Pl.near s.data.toList with
    | true => exact specTries_near vr L f s w hv h8 hf hs hnear
    | false => exact specTries_far vr L f s w hv hl h8 hs hnear

end Go.Proofs.YtimgafblpmjajaaGreat
namespace Go.Proofs.YtimgafblpmjajaaGreat

open Go.RowKit

theorem tries_len (L : List (List UInt8)) (f s : List UInt8) : (Pl.tries L f s).length ≤ 1048576 := by
  unfold Pl.tries
  split
  · simp
  · rename_i h8
    split
    · split <;> simp
    · split
      · have h := under_len L (Pl.nm [] s).2 L.length (Nat.le_refl _)
        rw [List.take_of_length_le (Nat.le_refl _)] at h; omega
      · simp

theorem apart_of_lt {w w' : World} {b1 b2 : Nat} {e1 e2 : TypeId} {s1 s2 n1 n2 : Nat} {v1 v2 : Value} {x1 x2 : List Value} (h1 : w.ownsRow b1 e1 s1 v1 n1 x1) (h2 : w'.ownsRow b2 e2 s2 v2 n2 x2) (hle : w.heap.size ≤ b2) : Apart v2 v1 ∧ Apart v1 v2 := by
  have key : ∀ g, v1.ownBlock = some g → v2.ownBlock = some g → False := fun g e1 e2 => by
    have a1 := (h1.lt g e1).2
    have a2 := (h2.lt g e2).1
    omega
  constructor
  · cases hv : v1.ownBlock with
    | none => exact .inl hv
    | some g => exact .inr (fun e => key g hv (by rw [← e]; exact hv))
  · cases hv : v2.ownBlock with
    | none => exact .inl hv
    | some g => exact .inr (fun e => key g (by rw [← e]; exact hv) hv)

theorem own_drewN {w : World} {base : Nat} {e : TypeId} {size : Nat} {v : Value} {n : Nat} {xs : List Value} (h : w.ownsRow base e size v n xs) (m : Nat) : (w.drewN m).ownsRow base e size v n xs := h

end Go.Proofs.YtimgafblpmjajaaGreat
namespace Go.Proofs.YtimgafblpmjajaaGreat

open Go.RowKit

/-- The place of the first that p says yes to; the length for none. -/
def place {α : Type} (p : α → Bool) : List α → Nat
  | [] => 0
  | x :: r => if p x then 0 else place p r + 1
theorem place_le {α : Type} (p : α → Bool) : ∀ L : List α, place p L ≤ L.length
  | [] => Nat.le_refl _
  | x :: r => by
    rw [place]
    split
    · simp
    · have := place_le p r; simp; omega
theorem place_lt {α : Type} {p : α → Bool} : ∀ {L : List α} (h : place p L < L.length), p L[place p L] = true
  | [], h => absurd h (by simp)
  | x :: r, h => by
    by_cases hx : p x = true
    · have : place p (x :: r) = 0 := by rw [place, if_pos hx]
      simp only [this, List.getElem_cons_zero]; exact hx
    · have e : place p (x :: r) = place p r + 1 := by rw [place, if_neg hx]
      have h' : place p r < r.length := by rw [e] at h; simpa using h
      simp only [e, List.getElem_cons_succ]; exact place_lt h'
theorem place_miss {α : Type} {p : α → Bool} {L : List α} : ∀ {j : Nat} (hj : j < L.length), j < place p L → p L[j] = false := by
  induction L with
  | nil => intro j hj; exact absurd hj (by simp)
  | cons x r ih =>
    intro j hj h
    by_cases hx : p x = true
    · rw [place, if_pos hx] at h; omega
    · rw [place, if_neg hx] at h
      cases j with
      | zero => simpa using hx
      | succ j =>
        have := ih (j := j) (by simpa using hj) (by omega)
        simpa using this
theorem place_hit {α : Type} {p : α → Bool} : ∀ {L : List α} {k : Nat} (hk : k < L.length), (∀ j (hj : j < L.length), j < k → p L[j] = false) → p L[k] = true → place p L = k
  | [], _, hk, _, _ => absurd hk (by simp)
  | x :: r, 0, _, _, h => by rw [place, if_pos (by simpa using h)]
  | x :: r, k + 1, hk, hall, h => by
    have h0 := hall 0 (by simp) (by omega)
    rw [place, if_neg (by simpa using h0), place_hit (k := k) (by simpa using hk) (fun j hj hjk => by have := hall (j + 1) (by simpa using hj) (by omega); simpa using this) (by simpa using h)]
theorem place_none {α : Type} {p : α → Bool} : ∀ {L : List α}, (∀ j (hj : j < L.length), p L[j] = false) → place p L = L.length
  | [], _ => rfl
  | x :: r, h => by
    have h0 := h 0 (by simp)
    rw [place, if_neg (by simpa using h0), place_none (fun j hj => by have := h (j + 1) (by simpa using hj); simpa using this)]; rfl

def Wd.idx (D : Wd) (n : List UInt8) : Nat := place (fun s => decide (s.name = n)) D.mods
def sIdx (i len : Nat) : Int := if i < len then (i : Int) else -1

set_option maxHeartbeats 2000000 in
set_option maxRecDepth 100000 in
theorem l2find_any (v : Value) (D : Wd) (n : ByteArray) (w : World) (h : Wds w v D) (hl : D.mods.length ≤ 1048576) :
    Calls Tryz.prog 27 #[v, .string n] w fun e w' => e = .returned (.int .i64 (sIdx (D.idx n.data.toList) D.mods.length)) ∧ Below w.heap.size w w' := by
  obtain ⟨vr, vm, vf, rfl, h1, h2, h3⟩ := h
  obtain ⟨a1, k1, rfl⟩ := h1.slice
  obtain ⟨a3, k3, rfl⟩ := h3.slice
  obtain ⟨a, cap, rfl, hcap, hmax, hc⟩ := h2
  have HC : Hid (∀ k, (hk : k < D.mods.length) → ∃ b o s, a = some ⟨b, o, none⟩ ∧ b < w.heap.size ∧
    w.cell? ⟨b, o + k * 2, none⟩ = some (strV D.mods[k].name) ∧ w.cell? ⟨b, o + k * 2 + 1, none⟩ = some s ∧ Lns w s D.mods[k].lines) := hc
  obtain ⟨R, hR⟩ : ∃ R, R = sIdx (D.idx n.data.toList) D.mods.length := ⟨_, rfl⟩
  rw [← hR]
  have HR : Hid (R = sIdx (D.idx n.data.toList) D.mods.length) := hR
  clear hc hR hmax h1 h3
  go_enter Tryz.func27, Tryz.ntmps27
  go_wp2
  go_loopw [10] (fun i wr => ∃ k : Nat, k ≤ D.mods.length ∧ i = .int .i64 k ∧ (∀ j (hj : j < D.mods.length), j < k → decide (D.mods[j].name = n.data.toList) = false) ∧ Below w.heap.size w wr) (fun i _ => D.mods.length - (intOf i).toNat)
  case atStart => exact ⟨0, Nat.zero_le _, rfl, fun j _ h => absurd h (by omega), (Below.refl _ _).alloc (Nat.le_refl _) _⟩
  case round =>
    obtain ⟨k, hk, rfl, hno, hB⟩ := hrel
    have HNO : Hid (∀ j (hj : j < D.mods.length), j < k → decide (D.mods[j].name = n.data.toList) = false) := hno
    clear hno
    by_cases hlt : k < D.mods.length
    · obtain ⟨b, o, v, rfl, hb, h0, h1, h2⟩ := HC.out k hlt
      obtain ⟨av, cv, rfl⟩ := h2.slice
      have d0 := (hB.cell (p := ⟨b, o + k * 2, none⟩) hb).trans h0
      have d1 := (hB.cell (p := ⟨b, o + k * 2 + 1, none⟩) hb).trans h1
      obtain ⟨s, hs⟩ : ∃ s : ByteArray, s.data.toList = D.mods[k].name := ⟨⟨D.mods[k].name.toArray⟩, by simp⟩
      have hsv : strV D.mods[k].name = .string s := by rw [← hs, strV_data]
      rw [hsv] at d0
      have hbq := str_beq hs (rfl : n.data.toList = n.data.toList)
      clear h0 h1 h2 hsv
      by_cases he : D.mods[k].name = n.data.toList
      · obtain rfl : s = n := str_eq (hs.trans he) rfl
        have HK : Hid (R = k) := by
          unfold Hid
          rw [HR.out, sIdx]
          have : D.idx s.data.toList = k := place_hit hlt HNO.out (by simpa using he)
          rw [this, if_pos hlt]
        clear hbq he hs
        go_wp2
        go_ret
        exact ⟨ret_int HK.out.symm, hB.alloc hB.size _⟩
      · have hne : (s.toList == n.toList) = false := by rw [hbq]; simpa using he
        have HE : Hid (¬ D.mods[k].name = n.data.toList) := he
        clear hbq he hs
        go_wp2
        go_roundw
        case rel => exact ⟨k + 1, by omega, by go_num, fun j hj hjk => by
          by_cases hjk' : j = k
          · subst hjk'; simpa using HE.out
          · exact HNO.out j hj (by omega), hB.alloc hB.size _⟩
        case measure => simp [intOf]; omega
    · have HK : Hid (R = -1) := by
        unfold Hid
        rw [HR.out, sIdx]
        have : D.idx n.data.toList = D.mods.length := place_none (fun j hj => HNO.out j hj (by omega))
        rw [this, if_neg (by omega)]
      go_wp2
      go_ret
      exact ⟨ret_int HK.out.symm, hB⟩

/-- The first of the names that is there at all. -/
def thereT (D : Wd) : List (List UInt8) → Int
  | [] => -1
  | n :: r => if D.idx n < D.mods.length then (D.idx n : Int) else thereT D r
def toOf (D : Wd) (f n : List UInt8) : Int := thereT D (Pl.tries D.roots f n)
theorem thereT_miss (D : Wd) : ∀ (T : List (List UInt8)) (k : Nat), (∀ j (hj : j < T.length), j < k → ¬ D.idx T[j] < D.mods.length) → thereT D T = thereT D (T.drop k)
  | _, 0, _ => by rw [List.drop_zero]
  | [], _ + 1, _ => by simp
  | n :: r, k + 1, h => by
    have h0 := h 0 (by simp) (by omega)
    rw [thereT, if_neg (by simpa using h0), List.drop_succ_cons]
    exact thereT_miss D r k (fun j hj hjk => by have := h (j + 1) (by simpa using hj) (by omega); simpa using this)
/-- The edges of a module's lines, of the modules. -/
def lineE (D : Wd) (i : Nat) (nm : List UInt8) : Nat → List Ln → List Eg
  | _, [] => []
  | k, l :: r => (if l.op = 3 ∨ l.op = 4 then [⟨(i : Int), (k : Int), toOf D nm l.name⟩] else []) ++ lineE D i nm (k + 1) r
def modE (D : Wd) : Nat → List Md → List Eg
  | _, [] => []
  | i, m :: r => lineE D i m.name 0 m.lines ++ modE D (i + 1) r
def edgesOf (D : Wd) : List Eg := if (wok D).1 = 0 then modE D 0 D.mods else []
theorem lineE_snoc (D : Wd) (i : Nat) (nm : List UInt8) (l : Ln) : ∀ (L : List Ln) (k : Nat), lineE D i nm k (L ++ [l]) = lineE D i nm k L ++ (if l.op = 3 ∨ l.op = 4 then [⟨(i : Int), ((k + L.length : Nat) : Int), toOf D nm l.name⟩] else [])
  | [], k => by simp [lineE]
  | x :: r, k => by
    rw [List.cons_append, lineE, lineE_snoc D i nm l r (k + 1), lineE, List.append_assoc, List.length_cons]
    rw [show k + 1 + r.length = k + (r.length + 1) by omega]
theorem lineE_app (D : Wd) (i : Nat) (nm : List UInt8) : ∀ (L R : List Ln) (k : Nat), lineE D i nm k (L ++ R) = lineE D i nm k L ++ lineE D i nm (k + L.length) R
  | [], R, k => by simp [lineE]
  | x :: r, R, k => by
    rw [List.cons_append, lineE, lineE_app D i nm r R (k + 1), lineE, List.append_assoc, List.length_cons]
    rw [show k + 1 + r.length = k + (r.length + 1) by omega]
theorem modE_snoc (D : Wd) (m : Md) : ∀ (M : List Md) (i : Nat), modE D i (M ++ [m]) = modE D i M ++ lineE D (i + M.length) m.name 0 m.lines
  | [], i => by simp [modE]
  | x :: r, i => by
    rw [List.cons_append, modE, modE_snoc D m r (i + 1), modE, List.append_assoc, List.length_cons]
    rw [show i + 1 + r.length = i + (r.length + 1) by omega]
theorem lineE_len (D : Wd) (i : Nat) (nm : List UInt8) : ∀ (L : List Ln) (k : Nat), (lineE D i nm k L).length ≤ L.length
  | [], _ => by simp [lineE]
  | x :: r, k => by
    have := lineE_len D i nm r (k + 1)
    rw [lineE, List.length_append, List.length_cons]
    split <;> simp <;> omega
theorem modE_len (D : Wd) : ∀ (M : List Md) (i : Nat), (modE D i M).length ≤ lineN M
  | [], _ => by simp [modE]
  | x :: r, i => by
    have h1 := modE_len D r (i + 1)
    have h2 := lineE_len D i x.name x.lines 0
    have h3 : lineN (x :: r) = x.lines.length + lineN r := by unfold lineN; simp
    rw [modE, List.length_append]; omega
theorem edgesOf_len (D : Wd) (hD : D.t ≤ 1048576) : (edgesOf D).length ≤ 1048576 := by
  unfold edgesOf
  split
  · have h1 := modE_len D D.mods 0
    have h2 := lineN_le D.mods
    unfold Wd.t at hD; omega
  · simp

set_option maxHeartbeats 4000000 in
set_option maxRecDepth 100000 in
theorem l4ok_any (v : Value) (D : Wd) (w : World) (h : Wds w v D) (hD : D.t ≤ 1048576) :
    Calls Tryz.prog 15 #[v] w fun e w' => e = .returned (.bool (decide ((wok D).1 = 0))) ∧ Below w.heap.size w w' := by
  obtain ⟨a1, a2, a3, k1, k2, k3, rfl⟩ : ∃ a1 a2 a3 k1 k2 k3, v = .agg #[.slice a1 D.roots.length k1, .slice a2 D.mods.length k2, .slice a3 D.faults.length k3] := by
    obtain ⟨r, m, f, rfl, h1, h2, h3⟩ := h
    obtain ⟨a1, k1, rfl⟩ := h1.slice
    obtain ⟨a2, k2, rfl⟩ := h2.slice
    obtain ⟨a3, k3, rfl⟩ := h3.slice
    exact ⟨a1, a2, a3, k1, k2, k3, rfl⟩
  obtain ⟨W, hW⟩ : ∃ W, W = w.alloc (.cells #[.slice a1 D.roots.length k1, .slice a2 D.mods.length k2, .slice a3 D.faults.length k3] 27) := ⟨_, rfl⟩
  have hWB : Below w.heap.size w W := by rw [hW]; exact (Below.refl _ _).alloc (Nat.le_refl _) _
  have hs := specWorldOk_any _ D W (h.below hWB (Nat.le_refl _)) hD
  obtain ⟨rc, rm, rl, hrr⟩ : ∃ rc rm rl, wok D = (rc, rm, rl) := ⟨_, _, _, rfl⟩
  have hwv : wrongV (wok D) = .agg #[.int .i64 rc, .int .i64 rm, .int .i64 rl] := by rw [hrr]; rfl
  rw [hwv] at hs
  have HD : Hid ((wok D).1 = rc) := by unfold Hid; rw [hrr]
  have HW : Hid (W = w.alloc (.cells #[.slice a1 D.roots.length k1, .slice a2 D.mods.length k2, .slice a3 D.faults.length k3] 27)) := hW
  rw [HD.out]
  obtain ⟨d, hd⟩ : ∃ d, (rc == 0) = d := ⟨_, rfl⟩
  have HDD : Hid (d = decide (rc = 0)) := by unfold Hid; rw [← hd, Bool.eq_iff_iff]; simp
  clear hW h hrr hwv
  go_enter Tryz.func15, Tryz.ntmps15
  go_wp2_with fail
  rw [← HW.out]
  refine hs.mono ?_
  rintro e w1 ⟨rfl, hb⟩
  go_wp2
  go_ret
  exact ⟨ret_bool HDD.out, (hWB.trans (hb.mono hWB.size)).alloc (by have := hb.size; have := hWB.size; omega) _⟩
end Go.Proofs.YtimgafblpmjajaaGreat
namespace Go.Proofs.YtimgafblpmjajaaGreat
open Go.RowKit Go.Maps

/-- The shelf has each module's place. -/
def Placed (M : List Md) (k : Nat) (D : DataW Unit) : Prop := ∀ j (hj : j < M.length), j < k → D.atKey (keyL M[j].name) (.lit (.int .i64 0)) = .lit (.int .i64 (j : Int))
theorem placed_zero (M : List Md) : Placed M 0 (.map []) := fun j _ h => absurd h (by omega)
theorem placed_put {M : List Md} {k : Nat} {D : DataW Unit} (h : Placed M k D) (hD : IsMap D) (hk : k < M.length) (hn : ∀ j (hj : j < M.length), M[j].name.length ≤ 1048576) (hf : (M.take k).any (fun m => decide (m.name = M[k].name)) = false) :
    Placed M (k + 1) (D.put (keyL M[k].name) (.lit (.int .i64 (k : Int)))) := by
  intro j hj hjk
  obtain ⟨t, ht, htz⟩ := arr_of M[k].name (hn k hk)
  by_cases he : j = k
  · subst he
    exact atKey_put_same hD (lawK.key (key_mk ht htz)) _ _
  · obtain ⟨s, hs, hsz⟩ := arr_of M[j].name (hn j hj)
    have hne : M[j].name ≠ M[k].name := fun e => by
      have : (M.take k).any (fun m => decide (m.name = M[k].name)) = true := by
        rw [List.any_eq_true]
        exact ⟨M[j], List.mem_take_iff_getElem.2 ⟨j, by omega, rfl⟩, by simpa using e⟩
      rw [hf] at this; cases this
    have hkn : keyL M[j].name ≠ keyL M[k].name := by
      have := keyL_ne hsz htz (by rw [hs, ht]; exact hne)
      rwa [hs, ht] at this
    rw [atKey_put_other hkn]
    exact h j hj (by omega)
theorem has_idx {D : Wd} {DM : DataW Unit} (h : Shelved D.mods D.mods.length DM) {l : List UInt8} (hl : l.length ≤ 1048576) : Maps.has DM (keyL l) = decide (D.idx l < D.mods.length) := by
  rw [h.2 l hl, List.take_length, Bool.eq_iff_iff, List.any_eq_true]
  constructor
  · rintro ⟨m, hm, he⟩
    rcases Nat.lt_or_ge (D.idx l) D.mods.length with h1 | h1
    · simpa using h1
    · obtain ⟨j, hj, rfl⟩ := List.getElem_of_mem hm
      have := place_miss (p := fun s : Md => decide (s.name = l)) hj (by unfold Wd.idx at h1; omega)
      rw [this] at he; cases he
  · intro h1
    have h1' : D.idx l < D.mods.length := by simpa using h1
    exact ⟨_, List.getElem_mem h1', place_lt h1'⟩
theorem at_idx {D : Wd} {DM : DataW Unit} (h : Placed D.mods D.mods.length DM) {l : List UInt8} (hl : D.idx l < D.mods.length) : DM.atKey (keyL l) (.lit (.int .i64 0)) = .lit (.int .i64 (D.idx l : Int)) := by
  have h1 := h (D.idx l) hl hl
  have h2 : D.mods[D.idx l].name = l := of_decide_eq_true (place_lt (p := fun s : Md => decide (s.name = l)) hl)
  rwa [h2] at h1

set_option maxRecDepth 100000 in
set_option maxHeartbeats 8000000 in
theorem shelve_full (v : Value) (M : List Md) (w : World) (h : Mds w v M) (hM : M.length ≤ 1048576) (hMM : ∀ m ∈ M, m.t ≤ 1048576) (hgood : ∀ j, j < M.length → badMd M j = false) :
    Calls Tryz.prog 31 #[v] w fun e w' => e = .returned (.tuple #[.map (some w.heap.size), .int .i64 (M.length : Nat)]) ∧ (∃ DM, w'.ownsMap Tryz.prog 91 (plainElem Tryz.prog 3) w.heap.size M.length DM ∧ Shelved M M.length DM ∧ Placed M M.length DM) ∧ Below w.heap.size w w' := by
  have hmm := @run_makeMap Tryz.prog
  obtain ⟨a, cap, rfl, hcap, hmax, hc⟩ := h
  have HC : Hid (∀ k, (hk : k < M.length) → ∃ b o s, a = some ⟨b, o, none⟩ ∧ b < w.heap.size ∧
    w.cell? ⟨b, o + k * 2, none⟩ = some (strV M[k].name) ∧ w.cell? ⟨b, o + k * 2 + 1, none⟩ = some s ∧ Lns w s M[k].lines) := hc
  have HMM : Hid (∀ m ∈ M, m.t ≤ 1048576) := hMM
  have HGD : Hid (∀ j, j < M.length → badMd M j = false) := hgood
  have HNL : Hid (∀ j (hj : j < M.length), M[j].name.length ≤ 1048576) := fun j hj => (Md.small (hMM _ (List.getElem_mem hj))).1
  clear hc hmax hMM hgood
  go_enter Tryz.func31, Tryz.ntmps31
  go_wp2
  go_loopw [14] (fun i wr => ∃ (k : Nat) (D : DataW Unit), k ≤ M.length ∧ i = .int .i64 k ∧ wr.ownsMap Tryz.prog 91 (plainElem Tryz.prog 3) w.heap.size k D ∧ Shelved M k D ∧ Placed M k D ∧ Below w.heap.size w wr) (fun i _ => M.length - (intOf i).toNat)
  case atStart => exact ⟨0, _, Nat.zero_le _, rfl, World.ownsMap_made _ _ _ _, shelved_zero M, placed_zero M, (Below.refl _ _).alloc (Nat.le_refl _) _⟩
  case round =>
    obtain ⟨k, D, hk, rfl, hown, hsh, hpl, hB⟩ := hrel
    have HSH : Hid (Shelved M k D) := hsh
    have HPL : Hid (Placed M k D) := hpl
    have hwB := hown.lt
    clear hsh hpl hmm
    by_cases hlt : k < M.length
    · obtain ⟨b, o, s, rfl, hb, h0, h1, h2⟩ := HC.out k hlt
      obtain ⟨hs1, hs2, hs3⟩ := Md.small (HMM.out _ (List.getElem_mem hlt))
      obtain ⟨asl, cs, rfl⟩ := h2.slice
      obtain ⟨N, hN⟩ : ∃ N, N = M[k].lines.length := ⟨_, rfl⟩
      obtain ⟨ns, hns⟩ : ∃ ns : ByteArray, ns.data.toList = M[k].name := ⟨⟨M[k].name.toArray⟩, by simp⟩
      have hnv : strV M[k].name = .string ns := by rw [← hns, strV_data]
      rw [hnv] at h0
      rw [← hN] at h1 hs2
      have c0 := (hB.cell (p := ⟨b, o + k * 2, none⟩) hb).trans h0
      have c1 := (hB.cell (p := ⟨b, o + k * 2 + 1, none⟩) hb).trans h1
      have hbm := badMd_at hlt
      rw [← hN, HGD.out k hlt] at hbm
      have HNS : Hid (ns.data.toList = M[k].name) := hns
      have HSZ : Hid (M[k].name.length ≤ 1048576) := hs1
      have hbm' := hbm.symm
      rw [Bool.or_eq_false_iff, Bool.or_eq_false_iff] at hbm'
      obtain ⟨⟨hb1, hb2⟩, hb3⟩ := hbm'
      have hi : isN M[k].name = true := by simpa using hb1
      have h60 : ¬ 60 < N := by simpa using hb2
      have HFR : Hid ((M.take k).any (fun m => decide (m.name = M[k].name)) = false) := hb3
      have HNV : Hid (strV M[k].name = .string ns) := hnv
      clear h0 h1 h2 hs3 hs1 hbm hns hnv hN hb1 hb2 hb3
      go_wp2_with fail
      refine (asWritten_any ns _).mono ?_
      rw [HNS.out]
      clear c0 c1
      have hwv : writtenV M[k].name = .tuple #[.agg #[.string ns], .bool true] := by rw [writtenV, if_pos hi, HNV.out]
      rw [hwv]
      have HI : Hid (isN M[k].name = true) := hi
      clear hwv hi
      rintro e w1 ⟨rfl, hb1⟩
      have m0 : w1.cell? ⟨wr.heap.size, 0, none⟩ = some (.string ns) := below_cell0 hb1 (by simp) (by simp [go_sem])
      have m1 : w1.cell? ⟨wr.heap.size, 1, none⟩ = some (.slice asl N cs) := below_cell0 hb1 (by simp) (by simp [go_sem])
      have hB1 : Below w.heap.size w w1 := (hB.alloc hB.size _).trans (hb1.mono (by have := hB.size; simp; omega))
      have hz1 : wr.heap.size < w1.heap.size := by have := hb1.size; simp at this; omega
      have hz2 : w.heap.size < w1.heap.size := by omega
      have hown1 := map_below (hown.alloc _) hb1 (by simp; omega)
      have hkey := key_mk HNS.out (by rw [size_data, HNS.out]; have := HSZ.out; unfold maxLen; omega)
      have HHAS : Hid (Maps.has D (keyL M[k].name) = (M.take k).any (fun m => decide (m.name = M[k].name))) := HSH.out.2 _ HSZ.out
      clear hb1 hown
      obtain ⟨kl, hkl⟩ : ∃ kl, kl = keyL M[k].name := ⟨_, rfl⟩
      rw [← hkl] at hkey HHAS
      have HKL : Hid (kl = keyL M[k].name) := hkl
      clear hkl
      have HTK : Hid (Maps.has D kl = false) := by unfold Hid; rw [HHAS.out, HFR.out]
      have hzz : w.heap.size < (w1.alloc (Obj.cells #[Value.string ns] 91)).heap.size := by simp; omega
      go_wp2_with (first | (at_lookup; refine wpList_lookup_own_ok_int _ rfl _ _ 48 rfl 91 3 .i64 lawK Tryz.underlying48 Tryz.underlying3 (zero3 _) w.heap.size k D rfl (hown1.alloc _) _ kl rfl hkey ?_; intro c hat hwc; rw [HTK.out]; clear hat hwc) | (at_mapUpdate; refine wpList_mapUpdate_own _ rfl _ _ _ 48 rfl 91 3 lawK Tryz.underlying48 (plainElem (H := Unit) Tryz.prog 3) w.heap.size k D rfl (hown1.alloc _) (by unfold maxLen; omega) _ _ kl rfl rfl hkey _ [] (plainElem_int Tryz.underlying3 (WalkArith.wf_i64 (by omega))) ?_; intro w2 hown2 hgrow2))
      have hB2 : Below w.heap.size w w2 := (hB1.alloc (by omega) _).grown hgrow2 (by simp; omega) (fun j hj => by cases hj; exact Nat.le_refl _)
      go_roundw
      case rel => exact ⟨k + 1, _, by omega, by go_num, hown2, by rw [HKL.out]; exact shelved_put HSH.out hlt HSZ.out _, by rw [HKL.out]; exact placed_put HPL.out HSH.out.1 hlt HNL.out HFR.out, hB2⟩
      case measure => simp [intOf]; omega
    · obtain rfl : k = M.length := by omega
      go_wp2
      exact bodyPost_ret (v := .tuple #[.map (some w.heap.size), .int .i64 M.length]) (by simp [results, Tryz.results31, go_sem]) rfl ⟨rfl, ⟨D, hown, HSH.out, HPL.out⟩, hB⟩
end Go.Proofs.YtimgafblpmjajaaGreat
namespace Go.Proofs.YtimgafblpmjajaaGreat
open Go.RowKit

theorem is_say_imp (v : Value) (W : World) : (Instr.typeAssert (.iface 111 v) 84 108 true).run Tryz.prog W = .ok (.tuple #[.agg #[.string ⟨#[]⟩], .bool false]) W := by kernel_rfl
theorem is_say_tr (v : Value) (W : World) : (Instr.typeAssert (.iface 111 v) 84 109 true).run Tryz.prog W = .ok (.tuple #[.agg #[.string ⟨#[]⟩], .bool false]) W := by kernel_rfl
theorem is_give_imp (v : Value) (W : World) : (Instr.typeAssert (.iface 112 v) 84 108 true).run Tryz.prog W = .ok (.tuple #[.agg #[.string ⟨#[]⟩], .bool false]) W := by kernel_rfl
theorem is_give_tr (v : Value) (W : World) : (Instr.typeAssert (.iface 112 v) 84 109 true).run Tryz.prog W = .ok (.tuple #[.agg #[.string ⟨#[]⟩], .bool false]) W := by kernel_rfl
theorem is_imp_imp (v : Value) (W : World) : (Instr.typeAssert (.iface 108 v) 84 108 true).run Tryz.prog W = .ok (.tuple #[v, .bool true]) W := by kernel_rfl
theorem is_tr_imp (v : Value) (W : World) : (Instr.typeAssert (.iface 109 v) 84 108 true).run Tryz.prog W = .ok (.tuple #[.agg #[.string ⟨#[]⟩], .bool false]) W := by kernel_rfl
theorem is_tr_tr (v : Value) (W : World) : (Instr.typeAssert (.iface 109 v) 84 109 true).run Tryz.prog W = .ok (.tuple #[v, .bool true]) W := by kernel_rfl
theorem is_show_imp (v : Value) (W : World) : (Instr.typeAssert (.iface 113 v) 84 108 true).run Tryz.prog W = .ok (.tuple #[.agg #[.string ⟨#[]⟩], .bool false]) W := by kernel_rfl
theorem is_show_tr (v : Value) (W : World) : (Instr.typeAssert (.iface 113 v) 84 109 true).run Tryz.prog W = .ok (.tuple #[.agg #[.string ⟨#[]⟩], .bool false]) W := by kernel_rfl
theorem is_thr_imp (v : Value) (W : World) : (Instr.typeAssert (.iface 114 v) 84 108 true).run Tryz.prog W = .ok (.tuple #[.agg #[.string ⟨#[]⟩], .bool false]) W := by kernel_rfl
theorem is_thr_tr (v : Value) (W : World) : (Instr.typeAssert (.iface 114 v) 84 109 true).run Tryz.prog W = .ok (.tuple #[.agg #[.string ⟨#[]⟩], .bool false]) W := by kernel_rfl
theorem is_iff_imp (v : Value) (W : World) : (Instr.typeAssert (.iface 116 v) 84 108 true).run Tryz.prog W = .ok (.tuple #[.agg #[.string ⟨#[]⟩], .bool false]) W := by kernel_rfl
theorem is_iff_tr (v : Value) (W : World) : (Instr.typeAssert (.iface 116 v) 84 109 true).run Tryz.prog W = .ok (.tuple #[.agg #[.string ⟨#[]⟩], .bool false]) W := by kernel_rfl
theorem is_nil_imp (W : World) : (Instr.typeAssert .nilIface 84 108 true).run Tryz.prog W = .ok (.tuple #[.agg #[.string ⟨#[]⟩], .bool false]) W := by kernel_rfl
theorem is_nil_tr (W : World) : (Instr.typeAssert .nilIface 84 109 true).run Tryz.prog W = .ok (.tuple #[.agg #[.string ⟨#[]⟩], .bool false]) W := by kernel_rfl

/-- What a step imports. -/
def impV (op : Int) (s : ByteArray) : Value := if op = 3 ∨ op = 4 then .tuple #[.string s, .bool true] else .tuple #[.string ⟨#[]⟩, .bool false]

set_option maxRecDepth 100000 in
set_option maxHeartbeats 4000000 in
theorem importedBy_any (op num skip : Int) (s : ByteArray) (w : World) :
    Calls Tryz.prog 32 #[stepV op s num skip] w fun e w' => e = .returned (impV op s) ∧ Below w.heap.size w w' := by
  obtain ⟨r, hr⟩ : ∃ r, r = impV op s := ⟨_, rfl⟩
  rw [← hr]
  by_cases h1 : op = 1
  · subst h1
    have hrt : r = .tuple #[.string ⟨#[]⟩, .bool false] := by rw [hr]; rfl
    subst hrt
    simp (config := { decide := true }) only [stepV, if_true, if_false]
    clear hr
    have t1 := is_say_imp
    have t2 := is_say_tr
    go_enter Tryz.func32, Tryz.ntmps32
    go_wp2
    exact bodyPost_ret (v := .tuple #[.string ⟨#[]⟩, .bool false]) (by simp [results, Tryz.results32, go_sem]) rfl ⟨rfl, by first | exact Below.refl _ _ | exact (Below.refl _ _).alloc (Nat.le_refl _) _ | exact below_alloc2 _ _⟩
  by_cases h2 : op = 2
  · subst h2
    have hrt : r = .tuple #[.string ⟨#[]⟩, .bool false] := by rw [hr]; rfl
    subst hrt
    simp (config := { decide := true }) only [stepV, if_true, if_false]
    clear hr
    have t1 := is_give_imp
    have t2 := is_give_tr
    go_enter Tryz.func32, Tryz.ntmps32
    go_wp2
    exact bodyPost_ret (v := .tuple #[.string ⟨#[]⟩, .bool false]) (by simp [results, Tryz.results32, go_sem]) rfl ⟨rfl, by first | exact Below.refl _ _ | exact (Below.refl _ _).alloc (Nat.le_refl _) _ | exact below_alloc2 _ _⟩
  by_cases h3 : op = 3
  · subst h3
    have hrt : r = .tuple #[.string s, .bool true] := by rw [hr]; rfl
    subst hrt
    simp (config := { decide := true }) only [stepV, if_true, if_false]
    clear hr
    have t1 := is_imp_imp
    go_enter Tryz.func32, Tryz.ntmps32
    go_wp2
    exact bodyPost_ret (v := .tuple #[.string s, .bool true]) (by simp [results, Tryz.results32, go_sem]) rfl ⟨rfl, by first | exact Below.refl _ _ | exact (Below.refl _ _).alloc (Nat.le_refl _) _ | exact below_alloc2 _ _⟩
  by_cases h4 : op = 4
  · subst h4
    have hrt : r = .tuple #[.string s, .bool true] := by rw [hr]; rfl
    subst hrt
    simp (config := { decide := true }) only [stepV, if_true, if_false]
    clear hr
    have t1 := is_tr_imp
    have t2 := is_tr_tr
    go_enter Tryz.func32, Tryz.ntmps32
    go_wp2
    exact bodyPost_ret (v := .tuple #[.string s, .bool true]) (by simp [results, Tryz.results32, go_sem]) rfl ⟨rfl, by first | exact Below.refl _ _ | exact (Below.refl _ _).alloc (Nat.le_refl _) _ | exact below_alloc2 _ _⟩
  by_cases h5 : op = 5
  · subst h5
    have hrt : r = .tuple #[.string ⟨#[]⟩, .bool false] := by rw [hr]; rfl
    subst hrt
    simp (config := { decide := true }) only [stepV, if_true, if_false]
    clear hr
    have t1 := is_show_imp
    have t2 := is_show_tr
    go_enter Tryz.func32, Tryz.ntmps32
    go_wp2
    exact bodyPost_ret (v := .tuple #[.string ⟨#[]⟩, .bool false]) (by simp [results, Tryz.results32, go_sem]) rfl ⟨rfl, by first | exact Below.refl _ _ | exact (Below.refl _ _).alloc (Nat.le_refl _) _ | exact below_alloc2 _ _⟩
  by_cases h6 : op = 6
  · subst h6
    have hrt : r = .tuple #[.string ⟨#[]⟩, .bool false] := by rw [hr]; rfl
    subst hrt
    simp (config := { decide := true }) only [stepV, if_true, if_false]
    clear hr
    have t1 := is_thr_imp
    have t2 := is_thr_tr
    go_enter Tryz.func32, Tryz.ntmps32
    go_wp2
    exact bodyPost_ret (v := .tuple #[.string ⟨#[]⟩, .bool false]) (by simp [results, Tryz.results32, go_sem]) rfl ⟨rfl, by first | exact Below.refl _ _ | exact (Below.refl _ _).alloc (Nat.le_refl _) _ | exact below_alloc2 _ _⟩
  by_cases h7 : op = 7
  · subst h7
    have hrt : r = .tuple #[.string ⟨#[]⟩, .bool false] := by rw [hr]; rfl
    subst hrt
    simp (config := { decide := true }) only [stepV, if_true, if_false]
    clear hr
    have t1 := is_iff_imp
    have t2 := is_iff_tr
    go_enter Tryz.func32, Tryz.ntmps32
    go_wp2
    exact bodyPost_ret (v := .tuple #[.string ⟨#[]⟩, .bool false]) (by simp [results, Tryz.results32, go_sem]) rfl ⟨rfl, by first | exact Below.refl _ _ | exact (Below.refl _ _).alloc (Nat.le_refl _) _ | exact below_alloc2 _ _⟩
  have hrf : r = .tuple #[.string ⟨#[]⟩, .bool false] := by rw [hr, impV, if_neg (by omega)]
  subst hrf
  rw [stepV, if_neg h1, if_neg h2, if_neg h3, if_neg h4, if_neg h5, if_neg h6, if_neg h7]
  clear hr
  have t1 := is_nil_imp
  have t2 := is_nil_tr
  go_enter Tryz.func32, Tryz.ntmps32
  go_wp2
  exact bodyPost_ret (v := .tuple #[.string ⟨#[]⟩, .bool false]) (by simp [results, Tryz.results32, go_sem]) rfl ⟨rfl, by first | exact Below.refl _ _ | exact (Below.refl _ _).alloc (Nat.le_refl _) _ | exact below_alloc2 _ _⟩
end Go.Proofs.YtimgafblpmjajaaGreat
namespace Go.Proofs.YtimgafblpmjajaaGreat

open Go.RowKit

theorem Wds.agg' {w : World} {v : Value} {D : Wd} (h : Wds w v D) : ∃ a1 a2 a3 k1 k2 k3, v = .agg #[.slice a1 D.roots.length k1, .slice a2 D.mods.length k2, .slice a3 D.faults.length k3] := by
  obtain ⟨r, m, f, rfl, h1, h2, h3⟩ := h
  obtain ⟨a1, k1, rfl⟩ := h1.slice
  obtain ⟨a2, k2, rfl⟩ := h2.slice
  obtain ⟨a3, k3, rfl⟩ := h3.slice
  exact ⟨a1, a2, a3, k1, k2, k3, rfl⟩
theorem cells3 (w : World) (u0 u1 u2 : Value) (t : TypeId) : (w.alloc (.cells #[u0, u1, u2] t)).cell? ⟨w.heap.size, 0, none⟩ = some u0 ∧ (w.alloc (.cells #[u0, u1, u2] t)).cell? ⟨w.heap.size, 1, none⟩ = some u1 ∧ (w.alloc (.cells #[u0, u1, u2] t)).cell? ⟨w.heap.size, 2, none⟩ = some u2 := by
  simp [go_sem]

set_option maxHeartbeats 4000000 in
set_option maxRecDepth 100000 in
theorem l4to_any (v : Value) (D : Wd) (f n : ByteArray) (w : World) (h : Wds w v D) (hD : D.t ≤ 1048576) (hf : f.size ≤ 1048576) (hn : n.size ≤ 1048576) :
    Calls Tryz.prog 16 #[v, .string f, .string n] w fun e w' => e = .returned (.int .i64 (toOf D f.data.toList n.data.toList)) ∧ Below w.heap.size w w' := by
  obtain ⟨a1, a2, a3, k1, k2, k3, rfl⟩ := h.agg'
  obtain ⟨W, hW⟩ : ∃ W, W = w.alloc (.cells #[.slice a1 D.roots.length k1, .slice a2 D.mods.length k2, .slice a3 D.faults.length k3] 27) := ⟨_, rfl⟩
  have hWB : Below w.heap.size w W := by rw [hW]; exact (Below.refl _ _).alloc (Nat.le_refl _) _
  have hWs : W.heap.size = w.heap.size + 1 := by rw [hW]; simp
  have hc3 := cells3 w (.slice a1 D.roots.length k1) (.slice a2 D.mods.length k2) (.slice a3 D.faults.length k3) 27
  rw [← hW] at hc3
  have hWd := h.below hWB (Nat.le_refl _)
  have HWD : Hid (Wds W (.agg #[.slice a1 D.roots.length k1, .slice a2 D.mods.length k2, .slice a3 D.faults.length k3]) D) := hWd
  have hroots : Strs W (.slice a1 D.roots.length k1) D.roots := by
    obtain ⟨r, m, f, hv, h1, h2, h3⟩ := hWd
    have : r = .slice a1 D.roots.length k1 := by simp at hv; exact hv.1.symm
    rw [← this]; exact h1
  have hml : D.mods.length ≤ 1048576 := by unfold Wd.t mdsT at hD; omega
  have hrt : Pl.total D.roots ≤ 1048576 := by unfold Wd.t at hD; omega
  have htr := specTries_any _ D.roots f n W hroots hrt hf hn
  obtain ⟨R, hR⟩ : ∃ R, R = toOf D f.data.toList n.data.toList := ⟨_, rfl⟩
  have hT8 := Pl.tries_len D.roots f.data.toList n.data.toList
  rw [← hR]
  unfold toOf at hR
  obtain ⟨T, hT⟩ : ∃ T, T = Pl.tries D.roots f.data.toList n.data.toList := ⟨_, rfl⟩
  rw [← hT] at htr hT8 hR
  have HR : Hid (R = thereT D T) := hR
  have HW : Hid (W = w.alloc (.cells #[.slice a1 D.roots.length k1, .slice a2 D.mods.length k2, .slice a3 D.faults.length k3] 27)) := hW
  have HT60 : Hid (∀ (x : ByteArray) (V : World), Wds V (.agg #[.slice a1 D.roots.length k1, .slice a2 D.mods.length k2, .slice a3 D.faults.length k3]) D → Calls Tryz.prog 27 #[.agg #[.slice a1 D.roots.length k1, .slice a2 D.mods.length k2, .slice a3 D.faults.length k3], .string x] V fun e w' => e = .returned (.int .i64 (sIdx (D.idx x.data.toList) D.mods.length)) ∧ Below V.heap.size V w') := fun x V hV => l2find_any _ D x V hV hml
  clear hW h hWd hroots hR hT hD hrt
  go_enter Tryz.func16, Tryz.ntmps16
  go_wp2_with fail
  rw [← HW.out]
  refine htr.mono ?_
  rintro e w1 ⟨vt, rfl, hr, hb1⟩
  obtain ⟨at', capt, rfl, hcapt, hmx, hcell⟩ := row_shape hr
  have HC : Hid (∀ k, (hk : k < T.length) → ∃ g, at' = some ⟨g, 0, none⟩ ∧ W.heap.size ≤ g ∧ g < w1.heap.size ∧ w1.cell? ⟨g, k, none⟩ = some (strV T[k])) := hcell
  clear hcell hr hmx htr
  go_wp2
  go_loopw [16] (fun i wr => ∃ k : Nat, k ≤ T.length ∧ i = .int .i64 k ∧ Hid (∀ j (hj : j < T.length), j < k → ¬ D.idx T[j] < D.mods.length) ∧ Below w1.heap.size w1 wr) (fun i _ => T.length - (intOf i).toNat)
  case atStart => exact ⟨0, Nat.zero_le _, rfl, fun j _ h => absurd h (by omega), Below.refl _ _⟩
  case round =>
    obtain ⟨k, hk, rfl, hno, hB⟩ := hrel
    have hBW : Below W.heap.size W wr := hb1.trans (hB.mono hb1.size)
    by_cases hlt : k < T.length
    · obtain ⟨g, rfl, hg0, hg, hc⟩ := HC.out k hlt
      obtain ⟨q, hq⟩ : ∃ q : ByteArray, q.data.toList = T[k] := ⟨⟨T[k].toArray⟩, by simp⟩
      have hcq : wr.cell? ⟨g, k, none⟩ = some (.string q) := by rw [hB.cell (p := ⟨g, k, none⟩) hg, hc, ← hq, strV_data]
      have x0 := below_cell0 hBW (by omega) hc3.1
      have x1 := below_cell0 hBW (by omega) hc3.2.1
      have x2 := below_cell0 hBW (by omega) hc3.2.2
      have hcall := HT60.out q wr (HWD.out.below hBW (Nat.le_refl _))
      rw [hq] at hcall
      by_cases hin : D.idx T[k] < D.mods.length
      · have hsx : sIdx (D.idx T[k]) D.mods.length = (D.idx T[k] : Int) := by rw [sIdx, if_pos hin]
        rw [hsx] at hcall
        have HE : Hid (R = (D.idx T[k] : Int)) := by
          unfold Hid
          rw [HR.out, thereT_miss D T k hno.out, List.drop_eq_getElem_cons hlt, thereT, if_pos hin]
        obtain ⟨ix, hix⟩ : ∃ ix, ix = D.idx T[k] := ⟨_, rfl⟩
        rw [← hix] at hcall HE
        clear hc hq hsx hin hix
        go_wp2_with fail
        refine hcall.mono ?_
        rintro e w2 ⟨rfl, hb2⟩
        go_wp2
        go_ret
        exact ⟨ret_int HE.out.symm, hWB.trans ((hBW.trans (hb2.mono hBW.size)).mono hWB.size)⟩
      · have hsx : sIdx (D.idx T[k]) D.mods.length = -1 := by rw [sIdx, if_neg hin]
        rw [hsx] at hcall
        have HE : Hid (∀ j (hj : j < T.length), j < k + 1 → ¬ D.idx T[j] < D.mods.length) := fun j hj hjk => by
          by_cases hjk' : j = k
          · subst hjk'; exact hin
          · exact hno.out j hj (by omega)
        clear hc hq hsx hin
        go_wp2_with fail
        refine hcall.mono ?_
        rintro e w2 ⟨rfl, hb2⟩
        go_wp2
        go_roundw
        case rel => exact ⟨k + 1, by omega, by go_num, HE, hB.trans (hb2.mono hB.size)⟩
        case measure => simp [intOf]; omega
    · have HE : Hid (R = -1) := by
        unfold Hid
        rw [HR.out, thereT_miss D T k hno.out, List.drop_of_length_le (by omega)]; rfl
      go_wp2
      go_ret
      exact ⟨ret_int HE.out.symm, hWB.trans (hBW.mono hWB.size)⟩
end Go.Proofs.YtimgafblpmjajaaGreat
namespace Go.Proofs.YtimgafblpmjajaaGreat

open Go.RowKit

theorem Tryz.info75 : (Tryz.prog.info? 33).map (fun i => (i.zero, i.size, i.bytes)) = some (some (.agg #[.int .i64 0, .int .i64 0, .int .i64 0]), 3, 24) := by kernel_rfl
theorem grown_keep {w w' : World} {row : Option Nat} {b : Nat} (hg : w.grownBy w' row) (hb : b < w.heap.size) (hne : row ≠ some b) : w'.heap[b]? = w.heap[b]? := hg.block b hb (fun e => hne e.symm)
theorem new_blk (w : World) (o : Obj) : (w.alloc o).heap[w.heap.size]? = some o := by show (w.heap.push o)[w.heap.size]? = some o; simp
theorem egR_snoc (F : List Eg) (a b c : Int) : (F ++ [(⟨a, b, c⟩ : Eg)]).flatMap egR = F.flatMap egR ++ [.int .i64 a, .int .i64 b, .int .i64 c] := by simp [egR]
theorem old_blk (w : World) (o : Obj) {b : Nat} (h : b < w.heap.size) : (w.alloc o).heap[b]? = w.heap[b]? := ((Below.refl w.heap.size w).alloc (Nat.le_refl _) o).block b h
theorem blk_ne {w : World} {B : Nat} {cs : Array Value} {t e : TypeId} {fr : Nat × Nat} {base size n : Nat} {v : Value} {xs : List Value} (hB : w.heap[B]? = some (.cells cs t fr)) (h : w.ownsRow base e size v n xs) (hne : t ≠ e) : v.ownBlock ≠ some B := fun hv => by
  rcases h.2 with ⟨rfl, _⟩ | ⟨g, cap, cur, rfl, _, hg, _⟩
  · simp [Value.ownBlock] at hv
  · simp [Value.ownBlock] at hv
    subst hv
    rw [hB] at hg
    simp at hg
    exact hne hg.2.1
theorem new3' (w : World) (a b c : Value) (t : TypeId) : ∀ j u, [a, b, c][j]? = some u → (w.alloc (.cells #[a, b, c] t)).cell? ((⟨w.heap.size, 0, none⟩ : Addr).add j) = some u := by
  intro j u hj
  match j with
  | 0 => simp at hj; subst hj; simp [Addr.add]
  | 1 => simp at hj; subst hj; simp [Addr.add]
  | 2 => simp at hj; subst hj; simp [Addr.add]
  | j + 3 => simp at hj

set_option maxHeartbeats 8000000 in
set_option maxRecDepth 100000 in
theorem specEdges_any (v : Value) (D : Wd) (w : World) (h : Wds w v D) (hD : D.t ≤ 1048576) :
    Calls Tryz.prog 6 #[v] w fun e w' => ∃ v', e = .returned v' ∧ w'.ownsRow w.heap.size 33 3 v' (edgesOf D).length ((edgesOf D).flatMap egR) ∧ Below w.heap.size w w' := by
  obtain ⟨i75, hi, hz0, hz1, hz2⟩ := info_parts Tryz.info75
  obtain ⟨a1, a2, a3, k1, k2, k3, rfl⟩ := h.agg'
  obtain ⟨W, hW⟩ : ∃ W, W = w.alloc (.cells #[.slice a1 D.roots.length k1, .slice a2 D.mods.length k2, .slice a3 D.faults.length k3] 27) := ⟨_, rfl⟩
  have hWB : Below w.heap.size w W := by rw [hW]; exact (Below.refl _ _).alloc (Nat.le_refl _) _
  have hWs : W.heap.size = w.heap.size + 1 := by rw [hW]; simp
  have hc3 := cells3 w (.slice a1 D.roots.length k1) (.slice a2 D.mods.length k2) (.slice a3 D.faults.length k3) 27
  rw [← hW] at hc3
  have hWd := h.below hWB (Nat.le_refl _)
  have HWD : Hid (Wds W (.agg #[.slice a1 D.roots.length k1, .slice a2 D.mods.length k2, .slice a3 D.faults.length k3]) D) := hWd
  have hmods : Mds W (.slice a2 D.mods.length k2) D.mods := by
    obtain ⟨r, m, f, hv, h1, h2, h3⟩ := hWd
    have : m = .slice a2 D.mods.length k2 := by simp at hv; exact hv.2.1.symm
    rw [← this]; exact h2
  have hok := l4ok_any _ D W hWd hD
  have hml : D.mods.length ≤ 1048576 := by unfold Wd.t mdsT at hD; omega
  have HW : Hid (W = w.alloc (.cells #[.slice a1 D.roots.length k1, .slice a2 D.mods.length k2, .slice a3 D.faults.length k3] 27)) := hW
  have HTO : Hid (∀ (f n : ByteArray) (V : World), Wds V (.agg #[.slice a1 D.roots.length k1, .slice a2 D.mods.length k2, .slice a3 D.faults.length k3]) D → f.size ≤ 1048576 → n.size ≤ 1048576 → Calls Tryz.prog 16 #[.agg #[.slice a1 D.roots.length k1, .slice a2 D.mods.length k2, .slice a3 D.faults.length k3], .string f, .string n] V fun e w' => e = .returned (.int .i64 (toOf D f.data.toList n.data.toList)) ∧ Below V.heap.size V w') := fun f n V hV hf hn => l4to_any _ D f n V hV hD hf hn
  have hmt : mdsT D.mods ≤ 1048576 := by unfold Wd.t at hD; omega
  have HLE : Hid (lineN D.mods ≤ 1048576) := by unfold Hid; have := lineN_le D.mods; omega
  have HMS : Hid (∀ m ∈ D.mods, m.t ≤ 1048576) := fun m hm => by
    have h1 : m.t ≤ (D.mods.map Md.t).sum := mem_le_sum _ _ (List.mem_map.2 ⟨m, hm, rfl⟩)
    unfold mdsT at hmt; omega
  clear hW h hWd hmt
  by_cases hgood : (wok D).1 = 0
  · have hdec : decide ((wok D).1 = 0) = true := by simpa using hgood
    rw [hdec] at hok
    have hE : edgesOf D = modE D 0 D.mods := by unfold edgesOf; rw [if_pos hgood]
    rw [hE]
    obtain ⟨am, capm, hvm, hcapm, hmaxm, hcm⟩ := hmods
    have HCM : Hid (∀ k, (hk : k < D.mods.length) → ∃ b o s, a2 = some ⟨b, o, none⟩ ∧ b < W.heap.size ∧
      W.cell? ⟨b, o + k * 2, none⟩ = some (strV D.mods[k].name) ∧ W.cell? ⟨b, o + k * 2 + 1, none⟩ = some s ∧ Lns W s D.mods[k].lines) := by
      cases hvm; exact hcm
    have hk2 : D.mods.length ≤ k2 := by cases hvm; exact hcapm
    clear hdec hgood hE hcm hvm hmaxm hcapm
    go_enter Tryz.func6, Tryz.ntmps6
    go_wp2_with fail
    rw [← HW.out]
    refine hok.mono ?_
    rintro e w1 ⟨rfl, hb1⟩
    have x1 := below_cell0 hb1 (by omega) hc3.2.1
    go_wp2
    go_loopw [3, 14] (fun vo i wr => ∃ k : Nat, k ≤ D.mods.length ∧ i = .int .i64 k ∧ wr.ownsRow W.heap.size 33 3 vo (modE D 0 (D.mods.take k)).length ((modE D 0 (D.mods.take k)).flatMap egR) ∧ Below W.heap.size W wr) (fun _ i _ => D.mods.length - (intOf i).toNat)
    case atStart => exact ⟨0, Nat.zero_le _, rfl, World.ownsRow_nil _ _ _ _, hb1⟩
    case round =>
      obtain ⟨k, hk, rfl, hown, hB⟩ := hrel
      by_cases hlt : k < D.mods.length
      · obtain ⟨b, o, ls, rfl, hb, h0, h1, h2⟩ := HCM.out k hlt
        obtain ⟨la, lcap, rfl⟩ := h2.slice
        obtain ⟨hs1, hs2, hs3⟩ := Md.small (HMS.out _ (List.getElem_mem hlt))
        obtain ⟨ns, hns⟩ : ∃ ns : ByteArray, ns.data.toList = D.mods[k].name := ⟨⟨D.mods[k].name.toArray⟩, by simp⟩
        have hnv : strV D.mods[k].name = .string ns := by rw [← hns, strV_data]
        rw [hnv] at h0
        have hnsz : ns.size ≤ 1048576 := by rw [size_data, hns]; exact hs1
        have y0 := below_cell0 hB hb h0
        have y1 := below_cell0 hB hb h1
        obtain ⟨L, hL⟩ : ∃ L, L = D.mods[k].lines := ⟨_, rfl⟩
        have hEk : modE D 0 (D.mods.take (k + 1)) = modE D 0 (D.mods.take k) ++ lineE D k D.mods[k].name 0 D.mods[k].lines := by
          rw [List.take_succ_eq_append_getElem hlt, modE_snoc, List.length_take, Nat.min_eq_left (by omega), Nat.zero_add]
        have hEl : (modE D 0 (D.mods.take (k + 1))).length ≤ 1048576 := by
          have e1 := modE_len D (D.mods.take (k + 1)) 0
          have e2 := lineN_mono D.mods (k + 1)
          have e3 := HLE.out
          omega
        rw [← hL, ← hns] at hEk
        rw [← hL] at h2 hs2 hs3 y1
        obtain ⟨E, hE⟩ : ∃ E, E = modE D 0 (D.mods.take k) := ⟨_, rfl⟩
        rw [← hE] at hown hEk
        obtain ⟨NM, hNM⟩ : ∃ NM, NM = ns.data.toList := ⟨_, rfl⟩
        rw [← hNM] at hEk
        have HEK : Hid (modE D 0 (D.mods.take (k + 1)) = E ++ lineE D k NM 0 L) := hEk
        have HNM : Hid (NM = ns.data.toList) := hNM
        have hEL2 : (E ++ lineE D k NM 0 L).length ≤ 1048576 := by rw [← hEk]; exact hEl
        have hsplit : ∀ q, q ≤ L.length → (E ++ lineE D k NM 0 (L.take q)).length ≤ (E ++ lineE D k NM 0 L).length := fun q hq => by
          have : lineE D k NM 0 L = lineE D k NM 0 (L.take q) ++ lineE D k NM q (L.drop q) := by
            have h := lineE_app D k NM (L.take q) (L.drop q) 0
            rw [List.take_append_drop, List.length_take, Nat.min_eq_left hq, Nat.zero_add] at h
            exact h
          rw [this]; simp only [List.length_append]; omega
        have HSP : Hid (∀ q, q ≤ L.length → (E ++ lineE D k NM 0 (L.take q)).length ≤ 1048576) := fun q hq => Nat.le_trans (hsplit q hq) hEL2
        obtain ⟨al, capl, hvl, hcapl, hmaxl, hcl⟩ := h2
        have HCL : Hid (∀ q, (hq : q < L.length) → ∃ b o, la = some ⟨b, o, none⟩ ∧ b < W.heap.size ∧
          W.cell? ⟨b, o + q * 4, none⟩ = some (.int .i64 L[q].op) ∧ W.cell? ⟨b, o + q * 4 + 1, none⟩ = some (strV L[q].name) ∧ W.cell? ⟨b, o + q * 4 + 2, none⟩ = some (.int .i64 L[q].num) ∧ W.cell? ⟨b, o + q * 4 + 3, none⟩ = some (.int .i64 L[q].skip)) := by
          cases hvl; exact hcl
        have hlc : L.length ≤ lcap := by cases hvl; exact hcapl
        have HS3 : Hid (∀ l ∈ L, l.name.length ≤ 1048576) := hs3
        have hszB := hB.size
        clear h0 h1 hs1 hnv hns hL hEk hEl hE hNM hEL2 hsplit hvl hcapl hmaxl hcl hs3
        have HE0 : Hid (E ++ lineE D k NM 0 (L.take 0) = E) := by unfold Hid; simp [lineE]
        obtain ⟨wo, rfl⟩ : ∃ wo, wo = wr := ⟨_, rfl⟩
        go_wp2
        go_loopw [3, 22] (fun vo j wi => ∃ q : Nat, q ≤ L.length ∧ j = .int .i64 q ∧ wi.ownsRow W.heap.size 33 3 vo (E ++ lineE D k NM 0 (L.take q)).length ((E ++ lineE D k NM 0 (L.take q)).flatMap egR) ∧ Below W.heap.size W wi ∧ wo.heap.size < wi.heap.size ∧ wi.heap[wo.heap.size]? = some (.cells #[.string ns, .slice la L.length lcap] 39 (0, 0))) (fun _ j _ => L.length - (intOf j).toNat)
        case atStart => exact ⟨0, Nat.zero_le _, rfl, by rw [HE0.out]; exact hown.alloc _, hB.alloc hszB _, by simp, new_blk _ _⟩
        case round =>
          obtain ⟨q, hq, rfl, hown2, hB2, hzi, hbx⟩ := hrel
          have hszB2 := hB2.size
          have z0' : wr.cell? ⟨wo.heap.size, 0, none⟩ = some (.string ns) := by simp [World.cell?, hbx]
          have z0 := fun o' => below_cell0 ((Below.refl wr.heap.size wr).alloc (Nat.le_refl _) o') hzi z0'
          clear z0'
          have x0 := fun o' => below_cell0 ((Below.refl wr.heap.size wr).alloc (Nat.le_refl _) o') (by omega) (below_cell0 hB2 (by omega) hc3.1)
          have x1 := fun o' => below_cell0 ((Below.refl wr.heap.size wr).alloc (Nat.le_refl _) o') (by omega) (below_cell0 hB2 (by omega) hc3.2.1)
          have x2 := fun o' => below_cell0 ((Below.refl wr.heap.size wr).alloc (Nat.le_refl _) o') (by omega) (below_cell0 hB2 (by omega) hc3.2.2)
          by_cases hlq : q < L.length
          · obtain ⟨b', o', rfl, hb', l0, l1, l2, l3⟩ := HCL.out q hlq
            obtain ⟨ln, hln⟩ : ∃ ln : ByteArray, ln.data.toList = L[q].name := ⟨⟨L[q].name.toArray⟩, by simp⟩
            have hlv : strV L[q].name = .string ln := by rw [← hln, strV_data]
            rw [hlv] at l1
            have hlnsz : ln.size ≤ 1048576 := by rw [size_data, hln]; exact HS3.out _ (List.getElem_mem hlq)
            have m0 := below_cell0 hB2 hb' l0
            have m1 := below_cell0 hB2 hb' l1
            have m2 := below_cell0 hB2 hb' l2
            have m3 := below_cell0 hB2 hb' l3
            have hsn : E ++ lineE D k NM 0 (L.take (q + 1)) = (E ++ lineE D k NM 0 (L.take q)) ++ (if L[q].op = 3 ∨ L[q].op = 4 then [⟨(k : Int), (q : Int), toOf D NM L[q].name⟩] else []) := by
              rw [List.take_succ_eq_append_getElem hlq, lineE_snoc, List.length_take, Nat.min_eq_left (by omega), Nat.zero_add, List.append_assoc]
            rw [← hln] at hsn
            have hspq := HSP.out q (by omega)
            obtain ⟨F, hF⟩ : ∃ F, F = E ++ lineE D k NM 0 (L.take q) := ⟨_, rfl⟩
            rw [← hF] at hsn hown2 hspq
            obtain ⟨op, hop⟩ : ∃ op, op = L[q].op := ⟨_, rfl⟩
            obtain ⟨nu, hnu⟩ : ∃ nu, nu = L[q].num := ⟨_, rfl⟩
            obtain ⟨sk, hsk⟩ : ∃ sk, sk = L[q].skip := ⟨_, rfl⟩
            rw [← hop] at hsn m0
            rw [← hnu] at m2
            rw [← hsk] at m3
            have HSN : Hid (E ++ lineE D k NM 0 (L.take (q + 1)) = F ++ (if op = 3 ∨ op = 4 then [⟨(k : Int), (q : Int), toOf D NM ln.data.toList⟩] else [])) := hsn
            have hcall := fun V (hV : Wds V (.agg #[.slice a1 D.roots.length k1, .slice (some ⟨b, o, none⟩) D.mods.length k2, .slice a3 D.faults.length k3]) D) => HTO.out ns ln V hV hnsz hlnsz
            rw [← HNM.out] at hcall
            obtain ⟨tt, htt⟩ : ∃ tt, tt = toOf D NM ln.data.toList := ⟨_, rfl⟩
            rw [← htt] at hcall
            have HTT : Hid (tt = toOf D NM ln.data.toList) := htt
            have HCALL : Hid (∀ V, Wds V (.agg #[.slice a1 D.roots.length k1, .slice (some ⟨b, o, none⟩) D.mods.length k2, .slice a3 D.faults.length k3]) D → Calls Tryz.prog 16 #[.agg #[.slice a1 D.roots.length k1, .slice (some ⟨b, o, none⟩) D.mods.length k2, .slice a3 D.faults.length k3], .string ns, .string ln] V fun e w' => e = .returned (.int .i64 tt) ∧ Below V.heap.size V w') := hcall
            have hWi := HWD.out.below hB2 (Nat.le_refl _)
            clear l0 l1 l2 l3 hlv hln hsn hF hop hnu hsk hcall htt
            have hgo : ∀ (hyes : op = 3 ∨ op = 4), (op == 3) = true ∨ (op == 3) = false ∧ (op == 4) = true := fun hy => by
              rcases hy with rfl | rfl
              · exact .inl rfl
              · exact .inr ⟨rfl, rfl⟩
            by_cases hyes : op = 3 ∨ op = 4
            · have HF : Hid (E ++ lineE D k NM 0 (L.take (q + 1)) = F ++ [⟨(k : Int), (q : Int), tt⟩]) := by unfold Hid; rw [HSN.out, if_pos hyes, HTT.out]
              obtain ⟨af, capf, rfl, hcapf, _⟩ := row_form hown2
              rcases hgo hyes with h3 | ⟨h3, h4⟩
              · clear hyes hgo
                go_wp2_with fail
                refine (HCALL.out _ (hWi.below ((Below.refl wr.heap.size wr).alloc (Nat.le_refl _) _) (Nat.le_refl _))).mono ?_
                rintro e w3 ⟨rfl, hb3⟩
                have hown3 := own_below (hown2.alloc (.cells #[.int .i64 op, .string ln, .int .i64 nu, .int .i64 sk] 56)) hb3 (Nat.le_refl _)
                have hz34 : wr.heap.size < w3.heap.size := by have := hb3.size; simp at this; omega
                have hB3 : Below W.heap.size W w3 := (hB2.alloc hszB2 _).trans (hb3.mono (by simp; omega))
                have hbx3 : w3.heap[wo.heap.size]? = some (.cells #[.string ns, .slice (some ⟨b', o', none⟩) L.length lcap] 39 (0, 0)) := (hb3.block _ (by simp; omega)).trans ((old_blk _ _ hzi).trans hbx)
                have hz3 : wo.heap.size < w3.heap.size := by omega
                have hszB3 := hB3.size
                clear hown2 hb3 hbx x0 x1 x2 m0 m1 m2 m3 z0 hWi
                go_wp2_with (at_builtin; refine wpList_append_own_at _ rfl _ _ 30 rfl W.heap.size 33 i75 _ 3 24 Tryz.underlying30 hi hz0 hz1 hz2 rfl (by decide) _ _ _ rfl (hown3.alloc _) ⟨w3.heap.size, 0, none⟩ 1 1 [Value.int .i64 (k : Int), Value.int .i64 (q : Int), Value.int .i64 tt] rfl rfl (new3' _ _ _ _ _) (by intro u hu; simp at hu; rcases hu with rfl | rfl | rfl <;> rfl) (by unfold maxLen; omega) (by omega) (by simp; omega) ?_; intro v' w4 hown4 hgrow hnil hloc; have hbx4 : w4.heap[wo.heap.size]? = some (.cells #[.string ns, .slice (some ⟨b', o', none⟩) L.length lcap] 39 (0, 0)) := (grown_keep hgrow (by simp; omega) (blk_ne hbx3 hown3 (by decide))).trans ((old_blk _ _ hz3).trans hbx3); have hB4 := below_append hB3 hszB3 hown3 hgrow; have hz4 : wo.heap.size < w4.heap.size := (by have := hgrow.size; simp at this; omega); clear hgrow hnil hloc hown3 hbx3)
                go_roundw
                case rel => exact ⟨q + 1, by omega, by go_num, by rw [HF.out, List.length_append, List.length_singleton, egR_snoc]; exact hown4, hB4, hz4, hbx4⟩
                case measure => simp [intOf]; omega
              · clear hyes hgo
                go_wp2_with fail
                refine (HCALL.out _ (hWi.below ((Below.refl wr.heap.size wr).alloc (Nat.le_refl _) _) (Nat.le_refl _))).mono ?_
                rintro e w3 ⟨rfl, hb3⟩
                have hown3 := own_below (hown2.alloc (.cells #[.int .i64 op, .string ln, .int .i64 nu, .int .i64 sk] 56)) hb3 (Nat.le_refl _)
                have hz34 : wr.heap.size < w3.heap.size := by have := hb3.size; simp at this; omega
                have hB3 : Below W.heap.size W w3 := (hB2.alloc hszB2 _).trans (hb3.mono (by simp; omega))
                have hbx3 : w3.heap[wo.heap.size]? = some (.cells #[.string ns, .slice (some ⟨b', o', none⟩) L.length lcap] 39 (0, 0)) := (hb3.block _ (by simp; omega)).trans ((old_blk _ _ hzi).trans hbx)
                have hz3 : wo.heap.size < w3.heap.size := by omega
                have hszB3 := hB3.size
                clear hown2 hb3 hbx x0 x1 x2 m0 m1 m2 m3 z0 hWi
                go_wp2_with (at_builtin; refine wpList_append_own_at _ rfl _ _ 30 rfl W.heap.size 33 i75 _ 3 24 Tryz.underlying30 hi hz0 hz1 hz2 rfl (by decide) _ _ _ rfl (hown3.alloc _) ⟨w3.heap.size, 0, none⟩ 1 1 [Value.int .i64 (k : Int), Value.int .i64 (q : Int), Value.int .i64 tt] rfl rfl (new3' _ _ _ _ _) (by intro u hu; simp at hu; rcases hu with rfl | rfl | rfl <;> rfl) (by unfold maxLen; omega) (by omega) (by simp; omega) ?_; intro v' w4 hown4 hgrow hnil hloc; have hbx4 : w4.heap[wo.heap.size]? = some (.cells #[.string ns, .slice (some ⟨b', o', none⟩) L.length lcap] 39 (0, 0)) := (grown_keep hgrow (by simp; omega) (blk_ne hbx3 hown3 (by decide))).trans ((old_blk _ _ hz3).trans hbx3); have hB4 := below_append hB3 hszB3 hown3 hgrow; have hz4 : wo.heap.size < w4.heap.size := (by have := hgrow.size; simp at this; omega); clear hgrow hnil hloc hown3 hbx3)
                go_roundw
                case rel => exact ⟨q + 1, by omega, by go_num, by rw [HF.out, List.length_append, List.length_singleton, egR_snoc]; exact hown4, hB4, hz4, hbx4⟩
                case measure => simp [intOf]; omega
            · have HF : Hid (E ++ lineE D k NM 0 (L.take (q + 1)) = F) := by unfold Hid; rw [HSN.out, if_neg hyes, List.append_nil]
              have h3 : (op == 3) = false := by simp; exact fun e => hyes (.inl e)
              have h4 : (op == 4) = false := by simp; exact fun e => hyes (.inr e)
              clear hyes hgo
              go_wp2
              go_roundw
              case rel => exact ⟨q + 1, by omega, by go_num, by rw [HF.out]; exact hown2.alloc _, hB2.alloc hszB2 _, by simp; omega, (old_blk _ _ hzi).trans hbx⟩
              case measure => simp [intOf]; omega
          · have HQ : Hid (L.take q = L) := List.take_of_length_le (by omega)
            rw [HQ.out, ← HEK.out] at hown2
            go_wp2
            go_roundw
            case rel => exact ⟨k + 1, by omega, by go_num, hown2, hB2⟩
            case measure => simp [intOf]; omega
      · have HK : Hid (D.mods.take k = D.mods) := List.take_of_length_le (by omega)
        rw [HK.out] at hown
        go_wp2
        go_ret
        exact ⟨_, rfl, own_mono hown hWB.size, hWB.trans (hB.mono hWB.size)⟩
  · have hdec : decide ((wok D).1 = 0) = false := by simpa using hgood
    rw [hdec] at hok
    have hE : edgesOf D = [] := by unfold edgesOf; rw [if_neg hgood]
    rw [hE]
    clear hdec hgood hE hmods
    go_enter Tryz.func6, Tryz.ntmps6
    go_wp2_with fail
    rw [← HW.out]
    refine hok.mono ?_
    rintro e w1 ⟨rfl, hb1⟩
    go_wp2
    go_ret
    exact ⟨_, rfl, World.ownsRow_nil _ _ _ _, hWB.trans (hb1.mono hWB.size)⟩
end Go.Proofs.YtimgafblpmjajaaGreat
namespace Go.Proofs.YtimgafblpmjajaaGreat
open Go.RowKit

/-- A place, as a number. -/
def numV (n : Nat) : Value := .int .i64 (n : Int)
/-- Where the imports of a module lead. -/
def leadsOf (E : List Eg) (k : Nat) : List Nat := E.flatMap fun e => if e.src = (k : Int) ∧ 0 ≤ e.to then [e.to.toNat] else []
theorem leadsOf_snoc (E : List Eg) (e : Eg) (k : Nat) : leadsOf (E ++ [e]) k = leadsOf E k ++ (if e.src = (k : Int) ∧ 0 ≤ e.to then [e.to.toNat] else []) := by
  unfold leadsOf; rw [List.flatMap_append]; simp
theorem leadsOf_cons (E : List Eg) (e : Eg) (k : Nat) : leadsOf (e :: E) k = (if e.src = (k : Int) ∧ 0 ≤ e.to then [e.to.toNat] else []) ++ leadsOf E k := by
  unfold leadsOf; rw [List.flatMap_cons]
theorem leadsOf_lt {E : List Eg} {N : Nat} (hE : ∀ e ∈ E, e.to < (N : Int)) (k : Nat) : ∀ t ∈ leadsOf E k, t < N := by
  intro t ht
  unfold leadsOf at ht
  obtain ⟨e, he, h⟩ := List.mem_flatMap.1 ht
  split at h
  · have := hE e he; simp at h; omega
  · simp at h
theorem leadsOf_len (E : List Eg) (k : Nat) : (leadsOf E k).length ≤ E.length := by
  induction E with
  | nil => simp [leadsOf]
  | cons e r ih => rw [leadsOf_cons]; split <;> simp <;> omega
end Go.Proofs.YtimgafblpmjajaaGreat
namespace Go.Proofs.YtimgafblpmjajaaGreat
open Go.RowKit

/-- The rows of where imports lead, each in a block of its own. -/
structure Lds (lo : Nat) (w : World) (g : Nat) (S : List Value) (E : List Eg) : Prop where
  blk : w.heap[g]? = some (.cells S.toArray 25 (0, 0))
  low : lo ≤ g
  row : ∀ j s, S[j]? = some s → w.ownsRow lo 3 1 s (leadsOf E j).length ((leadsOf E j).map numV)
  dis : ∀ (i j : Nat) (a b : Value) (q : Nat), S[i]? = some a → S[j]? = some b → i ≠ j → a.ownBlock = some q → b.ownBlock ≠ some q
/-- A graph while it is made. -/
structure Gst (lo B mb g : Nat) (w : World) (r m f ve : Value) (S : List Value) (F E : List Eg) (N : Nat) (DM : DataW Unit) : Prop where
  blk : w.heap[B]? = some (.cells #[r, m, f, .map (some mb), ve, .slice (some ⟨g, 0, none⟩) N N] 51 (0, 0))
  low : lo ≤ B
  edg : w.ownsRow lo 33 3 ve F.length (F.flatMap egR)
  lds : Lds lo w g S E
  len : S.length = N
  sto : w.ownsMap Tryz.prog 91 (plainElem Tryz.prog 3) mb N DM
/-- All that is no row of edges, no row of numbers, no row of rows and no graph stands. -/
def Kg (w w' : World) : Prop := ∀ (b : Nat), b < w.heap.size → (∀ cs t fr, w.heap[b]? = some (.cells cs t fr) → t ≠ 33 ∧ t ≠ 3 ∧ t ≠ 25 ∧ t ≠ 51) → w'.heap[b]? = w.heap[b]?
theorem Kg.map {w w' : World} (h : Kg w w') {b n : Nat} {k : TypeId} {R : Value → Option (DataW Unit × List MemPlace)} {D : DataW Unit} (hm : w.ownsMap Tryz.prog k R b n D) : w'.ownsMap Tryz.prog k R b n D := by
  obtain ⟨es, clock, hh, r⟩ := hm
  exact ⟨es, clock, (h b (Array.getElem?_eq_some_iff.1 hh).1 (fun cs t fr e => by rw [hh] at e; cases e)).trans hh, r⟩
theorem Kg.of_keep {w w' : World} (h : ∀ b, b < w.heap.size → w'.heap[b]? = w.heap[b]?) : Kg w w' := fun b hb _ => h b hb
theorem Kg.refl (w : World) : Kg w w := fun _ _ _ => rfl
theorem Kg.trans {w w1 w2 : World} (h : Kg w w1) (k : Kg w1 w2) (hs : w.heap.size ≤ w1.heap.size) : Kg w w2 := fun b hb ht =>
  (k b (Nat.lt_of_lt_of_le hb hs) (fun cs t fr e => ht cs t fr ((h b hb ht).symm.trans e))).trans (h b hb ht)
theorem Kg.grown {w w' : World} {lo : Nat} {t : TypeId} {sz n : Nat} {v : Value} {xs : List Value} (hg : w.grownBy w' v.ownBlock) (hr : w.ownsRow lo t sz v n xs) (ht : t = 33 ∨ t = 3) : Kg w w' := fun b hb hh =>
  hg.block b hb (fun ev => by
    obtain ⟨_, j2 | ⟨q, c, cur, rfl, _, hq, _⟩⟩ := hr
    · rw [j2.1] at ev; cases ev
    · simp [Value.ownBlock] at ev
      subst ev
      have := hh _ _ _ hq
      rcases ht with ht | ht
      · exact this.1 ht
      · exact this.2.1 ht)
theorem Kg.set {w : World} {B i : Nat} {cs : Array Value} {t : TypeId} {fr : Nat × Nat} (hB : w.heap[B]? = some (.cells cs t fr)) (ht : t = 51 ∨ t = 25) (u : Value) : Kg w (w.setCell ⟨B, i, none⟩ u) := fun b _ hh =>
  Below.heap_setCell _ _ _ _ (fun e => by
    have e' : b = B := e
    subst e'
    have := hh _ _ _ hB
    rcases ht with ht | ht
    · exact this.2.2.2 ht
    · exact this.2.2.1 ht)
theorem Kg.of_below {w w' : World} (h : Below w.heap.size w w') : Kg w w' := fun b hb _ => h.block b hb
theorem Lds.keep {lo g : Nat} {w w' : World} {S : List Value} {E : List Eg} (h : Lds lo w g S E) (hg : w'.heap[g]? = w.heap[g]?) (hr : ∀ s ∈ S, ∀ b, s.ownBlock = some b → w'.heap[b]? = w.heap[b]?) : Lds lo w' g S E :=
  ⟨hg.trans h.blk, h.low, fun j s hs => own_block (h.row j s hs) (hr s (List.mem_of_getElem? hs)), h.dis⟩
theorem Gst.keep {lo B mb g : Nat} {w w' : World} {r m f ve : Value} {S : List Value} {F E : List Eg} {N : Nat} {DM : DataW Unit} (h : Gst lo B mb g w r m f ve S F E N DM) (hb : ∀ b, b < w.heap.size → w'.heap[b]? = w.heap[b]?) : Gst lo B mb g w' r m f ve S F E N DM :=
  ⟨(hb B (Array.getElem?_eq_some_iff.1 h.blk).1).trans h.blk, h.low, own_block h.edg (fun b e => hb b (h.edg.lt b e).2),
   h.lds.keep (hb g (Array.getElem?_eq_some_iff.1 h.lds.blk).1) (fun s hs b e => by
     obtain ⟨j, hj, rfl⟩ := List.getElem_of_mem hs
     exact hb b ((h.lds.row j _ (List.getElem?_eq_getElem hj)).lt b e).2), h.len, (Kg.of_keep hb).map h.sto⟩
theorem Gst.alloc {lo B mb g : Nat} {w : World} {r m f ve : Value} {S : List Value} {F E : List Eg} {N : Nat} {DM : DataW Unit} (h : Gst lo B mb g w r m f ve S F E N DM) (o : Obj) : Gst lo B mb g (w.alloc o) r m f ve S F E N DM :=
  h.keep (fun _ hb => old_blk w o hb)
theorem Gst.below {lo B mb g : Nat} {w w' : World} {r m f ve : Value} {S : List Value} {F E : List Eg} {N : Nat} {DM : DataW Unit} (h : Gst lo B mb g w r m f ve S F E N DM) (hb : Below w.heap.size w w') : Gst lo B mb g w' r m f ve S F E N DM :=
  h.keep (fun b h => hb.block b h)
theorem Gst.lt {lo B mb g : Nat} {w : World} {r m f ve : Value} {S : List Value} {F E : List Eg} {N : Nat} {DM : DataW Unit} (h : Gst lo B mb g w r m f ve S F E N DM) : B < w.heap.size ∧ g < w.heap.size ∧ lo ≤ g :=
  ⟨(Array.getElem?_eq_some_iff.1 h.blk).1, (Array.getElem?_eq_some_iff.1 h.lds.blk).1, h.lds.low⟩
theorem Gst.cells {lo B mb g : Nat} {w : World} {r m f ve : Value} {S : List Value} {F E : List Eg} {N : Nat} {DM : DataW Unit} (h : Gst lo B mb g w r m f ve S F E N DM) :
    w.cell? ⟨B, 0, none⟩ = some r ∧ w.cell? ⟨B, 1, none⟩ = some m ∧ w.cell? ⟨B, 2, none⟩ = some f ∧ w.cell? ⟨B, 3, none⟩ = some (.map (some mb)) ∧ w.cell? ⟨B, 4, none⟩ = some ve ∧ w.cell? ⟨B, 5, none⟩ = some (.slice (some ⟨g, 0, none⟩) N N) ∧ w.frozen? ⟨B, 4, none⟩ = false := by
  have hb := h.blk
  simp [World.cell?, World.frozen?, hb]
theorem grown_heap {w w' : World} (hg : w.grownBy w' (none : Option Nat)) : ∀ b, b < w.heap.size → w'.heap[b]? = w.heap[b]? := fun b hb => hg.block b hb (fun e => by cases e)
/-- The row of edges has one more; nothing else that was there has turned but the graph's box. -/
theorem Gst.edge {lo B mb g ge cap : Nat} {w w2 w3 : World} {r m f ve : Value} {S : List Value} {F E : List Eg} {N : Nat} {DM : DataW Unit} (h : Gst lo B mb g w r m f ve S F E N DM) {e : Eg}
    (ho : w2.ownsRow lo 33 3 (.slice (some ⟨ge, 0, none⟩) (F.length + 1) cap) (F.length + 1) (F.flatMap egR ++ egR e)) (hg : w.grownBy w2 ve.ownBlock)
    (h3 : w3 = w2.setCell ⟨B, 4, none⟩ (.slice (some ⟨ge, 0, none⟩) (F.length + 1) cap)) : Gst lo B mb g w3 r m f (.slice (some ⟨ge, 0, none⟩) (F.length + 1) cap) S (F ++ [e]) E N DM := by
  have kB : w2.heap[B]? = w.heap[B]? := hg.block B h.lt.1 (fun ev => blk_ne h.blk h.edg (by decide) ev.symm)
  have kc : ∀ b, b < w.heap.size → b ≠ B → (∀ cs t fr, w.heap[b]? = some (.cells cs t fr) → t ≠ 33) → w3.heap[b]? = w.heap[b]? := fun b hb hne ht => by
    rw [h3, Below.heap_setCell _ _ _ _ hne]
    refine hg.block b hb (fun ev => ?_)
    obtain ⟨_, j2 | ⟨q, c, cur, rfl, _, hq, _⟩⟩ := h.edg
    · rw [j2.1] at ev; cases ev
    · simp [Value.ownBlock] at ev
      subst ev
      exact ht _ _ _ hq rfl
  have blkof : ∀ {t : TypeId} {sz n : Nat} {v : Value} {xs : List Value}, w.ownsRow lo t sz v n xs → t ≠ 33 → t ≠ 51 → ∀ b, v.ownBlock = some b → w3.heap[b]? = w.heap[b]? := fun {t sz n v xs} hr h1 h2 b hb => by
    obtain ⟨_, j2 | ⟨q, c, cur, rfl, _, hq, _⟩⟩ := hr
    · rw [j2.1] at hb; cases hb
    · simp [Value.ownBlock] at hb
      subst hb
      refine kc _ (Array.getElem?_eq_some_iff.1 hq).1 (fun e => ?_) (fun cs t' fr hh => ?_)
      · rw [e, h.blk] at hq; simp at hq; exact h2 hq.2.symm
      · rw [hq] at hh; simp at hh; rw [← hh.2.1]; exact h1
  refine ⟨?_, h.low, ?_, ?_, h.len, ?_⟩
  · rw [h3, heap_setCell_same w2 B 4 _ _ _ (kB.trans h.blk)]; rfl
  · rw [h3]
    refine own_block (w := w2) ?_ (fun b hb => Below.heap_setCell _ _ _ _ (fun e' => blk_ne (kB.trans h.blk) ho (by decide) (by rw [hb]; exact congrArg some e')))
    rw [List.length_append, List.length_singleton, List.flatMap_append]
    simpa using ho
  · exact h.lds.keep (w' := w3) (kc g h.lt.2.1 (fun e => by have h1 := h.lds.blk; rw [e, h.blk] at h1; simp at h1) (fun cs t fr hh => by rw [h.lds.blk] at hh; simp at hh; rw [← hh.2.1]; decide)) (fun s hs b hb => by
      obtain ⟨j, hj, rfl⟩ := List.getElem_of_mem hs
      exact blkof (h.lds.row j _ (List.getElem?_eq_getElem hj)) (by decide) (by decide) b hb)
  · have k : Kg w w3 := fun b hb ht => kc b hb (fun e => by subst e; exact (ht _ _ _ h.blk).2.2.2 rfl) (fun cs t fr hh => (ht cs t fr hh).1)
    exact k.map h.sto
/-- An edge that leads nowhere is in no row. -/
theorem Gst.skip {lo B mb g : Nat} {w : World} {r m f ve : Value} {S : List Value} {F E : List Eg} {N : Nat} {DM : DataW Unit} (h : Gst lo B mb g w r m f ve S F E N DM) {e : Eg} (hto : ¬ 0 ≤ e.to) : Gst lo B mb g w r m f ve S F (E ++ [e]) N DM := by
  have hl : ∀ j, leadsOf (E ++ [e]) j = leadsOf E j := fun j => by rw [leadsOf_snoc, if_neg (fun h => hto h.2), List.append_nil]
  exact ⟨h.blk, h.low, h.edg, ⟨h.lds.blk, h.lds.low, fun j s hs => by rw [hl j]; exact h.lds.row j s hs, h.lds.dis⟩, h.len, h.sto⟩
/-- .. and the row of the module that it leads from, too. -/
theorem Gst.lead {lo B mb g gs cap : Nat} {w w2 w3 : World} {r m f ve s : Value} {S : List Value} {F E : List Eg} {N : Nat} {DM : DataW Unit} {e : Eg} {i t : Nat} (hi : e.src = (i : Int)) (ht : e.to = (t : Int))
    (h : Gst lo B mb g w r m f ve S F E N DM) (hs : S[i]? = some s)
    (ho : w2.ownsRow lo 3 1 (.slice (some ⟨gs, 0, none⟩) ((leadsOf E i).length + 1) cap) ((leadsOf E i).length + 1) ((leadsOf E i).map numV ++ [numV t])) (hg : w.grownBy w2 s.ownBlock) (hat : s.ownBlock = some gs ∨ w.heap.size ≤ gs)
    (h3 : w3 = w2.setCell ⟨g, i, none⟩ (.slice (some ⟨gs, 0, none⟩) ((leadsOf E i).length + 1) cap)) : Gst lo B mb g w3 r m f ve (S.set i (.slice (some ⟨gs, 0, none⟩) ((leadsOf E i).length + 1) cap)) F (E ++ [e]) N DM := by
  have he := h.edg
  have hl : ∀ j, leadsOf (E ++ [e]) j = leadsOf E j ++ (if i = j then [t] else []) := fun j => by
    rw [leadsOf_snoc]
    by_cases hij : i = j
    · rw [if_pos ⟨by rw [hi, hij], by omega⟩, if_pos hij, ht]; rfl
    · rw [if_neg (fun h => hij (by have := h.1; omega)), if_neg hij]
  have hil : i < S.length := by
    rcases Nat.lt_or_ge i S.length with h1 | h1
    · exact h1
    · rw [List.getElem?_eq_none h1] at hs; cases hs
  have hrow := h.lds.row i s hs
  have kg : w2.heap[g]? = w.heap[g]? := hg.block g h.lt.2.1 (fun ev => blk_ne h.lds.blk hrow (by decide) ev.symm)
  have kc : ∀ b, b < w.heap.size → b ≠ g → s.ownBlock ≠ some b → w3.heap[b]? = w.heap[b]? := fun b hb hne ht => by
    rw [h3, Below.heap_setCell _ _ _ _ hne]
    exact hg.block b hb (fun ev => ht ev.symm)
  have kt : ∀ (b : Nat) (cs : Array Value) (t : TypeId) (fr : Nat × Nat), w.heap[b]? = some (.cells cs t fr) → t ≠ 25 → t ≠ 3 → w3.heap[b]? = w.heap[b]? := fun b cs t fr hh h1 h2 => by
    refine kc b (Array.getElem?_eq_some_iff.1 hh).1 (fun e => ?_) (fun ev => blk_ne hh hrow h2 ev)
    rw [e, h.lds.blk] at hh; simp at hh; exact h1 hh.2.1.symm
  refine ⟨?_, h.low, ?_, ⟨?_, h.lds.low, ?_, ?_⟩, by rw [List.length_set]; exact h.len, ?_⟩
  · rw [kt B _ _ _ h.blk (by decide) (by decide)]; exact h.blk
  · refine own_block he (fun b hb => ?_)
    obtain ⟨_, j2 | ⟨q, c, cur, rfl, _, hq, _⟩⟩ := he
    · rw [j2.1] at hb; cases hb
    · simp [Value.ownBlock] at hb
      subst hb
      exact kt _ _ _ _ hq (by decide) (by decide)
  · rw [h3, heap_setCell_same w2 g i _ _ _ (kg.trans h.lds.blk)]
    simp
  · intro j s' hs'
    rw [hl j]
    by_cases hij : i = j
    · subst hij
      rw [List.getElem?_set_self hil] at hs'
      cases hs'
      rw [if_pos rfl, List.length_append, List.length_singleton, List.map_append, List.map_singleton, h3]
      exact own_block ho (fun b hb => Below.heap_setCell _ _ _ _ (fun e' => blk_ne (kg.trans h.lds.blk) ho (by decide) (by rw [hb]; exact congrArg some e')))
    · rw [List.getElem?_set_ne hij] at hs'
      rw [if_neg hij, List.append_nil]
      have h1 := h.lds.row j s' hs'
      exact own_block h1 (fun b hb => kc b (h1.lt b hb).2 (fun e' => blk_ne h.lds.blk h1 (by decide) (by rw [hb, e'])) (fun e' => h.lds.dis i j s s' b hs hs' hij e' hb))
  · intro a b x y q hx hy hab hq
    by_cases ha : i = a
    · subst ha
      rw [List.getElem?_set_self hil] at hx
      cases hx
      rw [List.getElem?_set_ne hab] at hy
      simp [Value.ownBlock] at hq
      subst hq
      rcases hat with hat | hat
      · exact h.lds.dis _ _ _ _ _ hs hy hab hat
      · intro hyb
        have := ((h.lds.row b y hy).lt _ hyb).2
        omega
    · rw [List.getElem?_set_ne ha] at hx
      by_cases hb : i = b
      · subst hb
        rw [List.getElem?_set_self hil] at hy
        cases hy
        intro hyb
        simp [Value.ownBlock] at hyb
        subst hyb
        rcases hat with hat | hat
        · exact h.lds.dis _ _ _ _ _ hx hs hab hq hat
        · have := ((h.lds.row a x hx).lt _ hq).2
          omega
      · rw [List.getElem?_set_ne hb] at hy
        exact h.lds.dis _ _ _ _ _ hx hy hab hq
  · have k : Kg w w3 := fun b hb ht => kc b hb (fun e => by subst e; exact (ht _ _ _ h.lds.blk).2.2.1 rfl) (fun ev => by
      obtain ⟨_, j2 | ⟨q, c, cur, rfl, _, hq, _⟩⟩ := hrow
      · rw [j2.1] at ev; cases ev
      · simp [Value.ownBlock] at ev
        subst ev
        exact (ht _ _ _ hq).2.1 rfl)
    exact k.map h.sto
end Go.Proofs.YtimgafblpmjajaaGreat
namespace Go.Proofs.YtimgafblpmjajaaGreat
open Go.RowKit Go.Maps

/-- A slice of places that lies below. -/
def Ntl (lo : Nat) (w : World) (v : Value) (L : List Nat) : Prop := ∃ a c, v = .slice a L.length c ∧ L.length ≤ c ∧ ∀ i (hi : i < L.length), ∃ b o, a = some ⟨b, o, none⟩ ∧ b < lo ∧ w.cell? ⟨b, o + i, none⟩ = some (numV L[i])
theorem Ntl.below {lo : Nat} {w w' : World} {v : Value} {L : List Nat} (h : Ntl lo w v L) (hb : Below lo w w') : Ntl lo w' v L := by
  obtain ⟨a, c, hv, hk, hc⟩ := h
  exact ⟨a, c, hv, hk, fun i hi => by obtain ⟨b, o, ha, hl, h0⟩ := hc i hi; exact ⟨b, o, ha, hl, below_cell0 hb hl h0⟩⟩
theorem ntl_own {base lo : Nat} {w : World} {v : Value} {L : List Nat} (h : w.ownsRow base 3 1 v L.length (L.map numV)) (hlo : w.heap.size ≤ lo) : Ntl lo w v L := by
  rcases h.2 with ⟨hv, hn⟩ | ⟨g, cap, cur, hv, hg, hh, hc, hm, _⟩
  · exact ⟨none, 0, by rw [hv, hn], by omega, fun k hk => by omega⟩
  · subst hv
    have hca := h.cellAt
    exact ⟨_, cap, rfl, hc, fun i hi => ⟨g, 0, rfl, Nat.lt_of_lt_of_le (Array.getElem?_eq_some_iff.1 hh).1 hlo, by rw [Nat.zero_add, hca i (by omega)]; simp [hi]⟩⟩
/-- A made graph, all of it below. -/
structure Grb (lo B g : Nat) (w : World) (r m f st ve : Value) (S : List Value) (E : List Eg) (N : Nat) : Prop where
  blk : w.heap[B]? = some (.cells #[r, m, f, st, ve, .slice (some ⟨g, 0, none⟩) N N] 51 (0, 0))
  lowB : B < lo
  gblk : w.heap[g]? = some (.cells S.toArray 25 (0, 0))
  lowg : g < lo
  len : S.length = N
  row : ∀ j s, S[j]? = some s → Ntl lo w s (leadsOf E j)
theorem Grb.below {lo B g : Nat} {w w' : World} {r m f st ve : Value} {S : List Value} {E : List Eg} {N : Nat} (h : Grb lo B g w r m f st ve S E N) (hb : Below lo w w') : Grb lo B g w' r m f st ve S E N :=
  ⟨(hb.block B h.lowB).trans h.blk, h.lowB, (hb.block g h.lowg).trans h.gblk, h.lowg, h.len, fun j s hs => (h.row j s hs).below hb⟩
theorem Gst.grb {lo B mb g : Nat} {w : World} {r m f ve : Value} {S : List Value} {F E : List Eg} {N : Nat} {DM : DataW Unit} (h : Gst lo B mb g w r m f ve S F E N DM) : Grb w.heap.size B g w r m f (.map (some mb)) ve S E N :=
  ⟨h.blk, h.lt.1, h.lds.blk, h.lt.2.1, h.len, fun j s hs => ntl_own (h.lds.row j s hs) (Nat.le_refl _)⟩

set_option maxHeartbeats 1000000 in
set_option maxRecDepth 100000 in
theorem leadsTo_any {lo B g : Nat} {w : World} {r m f st ve : Value} {S : List Value} {E : List Eg} {N : Nat} (h : Grb lo B g w r m f st ve S E N) (k : Nat) (hk : k < N) :
    Calls Tryz.prog 19 #[.pointer (some ⟨B, 0, none⟩), .int .i64 k] w fun e w' => ∃ s, e = .returned s ∧ Ntl lo w' s (leadsOf E k) ∧ Below w.heap.size w w' := by
  obtain ⟨s, hs⟩ : ∃ s, S[k]? = some s := ⟨_, List.getElem?_eq_getElem (by rw [h.len]; exact hk)⟩
  have hrow := h.row k s hs
  have c5 : w.cell? ⟨B, 5, none⟩ = some (.slice (some ⟨g, 0, none⟩) N N) := by have := h.blk; simp [World.cell?, this]
  have cg : w.cell? ⟨g, k, none⟩ = some s := by have := h.gblk; simp [World.cell?, this, hs]
  obtain ⟨a, c, rfl, _, _⟩ := id hrow
  have HR : Hid (Ntl lo w (.slice a (leadsOf E k).length c) (leadsOf E k)) := hrow
  clear hrow h hs
  go_enter Tryz.func19, Tryz.ntmps19
  go_wp2
  go_ret
  exact ⟨_, rfl, HR.out, Below.refl _ _⟩
end Go.Proofs.YtimgafblpmjajaaGreat
