import Derived.Maps.AppendAt
import Derived.Test.YtimgafblpmjajabGreatRows
import Derived.WalkKit
import Derived.ProofKit
import Derived.OpenShut
import Derived.ShutString
import Derived.ChangeOld
import Derived.Below
import Derived.SliceStrings
import Derived.Deep.AppendLies
import Derived.Deep.RegionLaw
import Derived.Test.YtimgafblpmjajabGreatKa5
namespace Go.Proofs.YtimgafblpmjajabGreat

open Go.RowKit

/-- The place of the first that p says yes to; the length for none. -/
def place {α : Type} (p : α → Bool) : List α → Nat
  | [] => 0
  | x :: r => if p x then 0 else place p r + 1
theorem place_le {α : Type} (p : α → Bool) : ∀ L : List α, place p L ≤ L.length
  | [] => Nat.le_refl _
  | x :: r => by
    rw [place]
    split
    · simp
    · have := place_le p r; simp; omega
theorem place_lt {α : Type} {p : α → Bool} : ∀ {L : List α} (h : place p L < L.length), p L[place p L] = true
  | [], h => absurd h (by simp)
  | x :: r, h => by
    by_cases hx : p x = true
    · have : place p (x :: r) = 0 := by rw [place, if_pos hx]
      simp only [this, List.getElem_cons_zero]; exact hx
    · have e : place p (x :: r) = place p r + 1 := by rw [place, if_neg hx]
      have h' : place p r < r.length := by rw [e] at h; simpa using h
      simp only [e, List.getElem_cons_succ]; exact place_lt h'
theorem place_miss {α : Type} {p : α → Bool} {L : List α} : ∀ {j : Nat} (hj : j < L.length), j < place p L → p L[j] = false := by
  induction L with
  | nil => intro j hj; exact absurd hj (by simp)
  | cons x r ih =>
    intro j hj h
    by_cases hx : p x = true
    · rw [place, if_pos hx] at h; omega
    · rw [place, if_neg hx] at h
      cases j with
      | zero => simpa using hx
      | succ j =>
        have := ih (j := j) (by simpa using hj) (by omega)
        simpa using this
theorem place_hit {α : Type} {p : α → Bool} : ∀ {L : List α} {k : Nat} (hk : k < L.length), (∀ j (hj : j < L.length), j < k → p L[j] = false) → p L[k] = true → place p L = k
  | [], _, hk, _, _ => absurd hk (by simp)
  | x :: r, 0, _, _, h => by rw [place, if_pos (by simpa using h)]
  | x :: r, k + 1, hk, hall, h => by
    have h0 := hall 0 (by simp) (by omega)
    rw [place, if_neg (by simpa using h0), place_hit (k := k) (by simpa using hk) (fun j hj hjk => by have := hall (j + 1) (by simpa using hj) (by omega); simpa using this) (by simpa using h)]
theorem place_none {α : Type} {p : α → Bool} : ∀ {L : List α}, (∀ j (hj : j < L.length), p L[j] = false) → place p L = L.length
  | [], _ => rfl
  | x :: r, h => by
    have h0 := h 0 (by simp)
    rw [place, if_neg (by simpa using h0), place_none (fun j hj => by have := h (j + 1) (by simpa using hj); simpa using this)]; rfl

def Wd.idx (D : Wd) (n : List UInt8) : Nat := place (fun s => decide (s.name = n)) D.mods
def sIdx (i len : Nat) : Int := if i < len then (i : Int) else -1

set_option maxHeartbeats 2000000 in
set_option maxRecDepth 100000 in
theorem l2find_any (v : Value) (D : Wd) (n : ByteArray) (w : World) (h : Wds w v D) (hl : D.mods.length ≤ 1048576) :
    Calls Tryz.prog 48 #[v, .string n] w fun e w' => e = .returned (.int .i64 (sIdx (D.idx n.data.toList) D.mods.length)) ∧ Below w.heap.size w w' := by
  obtain ⟨vr, vm, vf, rfl, h1, h2, h3⟩ := h
  obtain ⟨a1, k1, rfl⟩ := h1.slice
  obtain ⟨a3, k3, rfl⟩ := h3.slice
  obtain ⟨a, cap, rfl, hcap, hmax, hc⟩ := h2
  have HC : Hid (∀ k, (hk : k < D.mods.length) → ∃ b o s, a = some ⟨b, o, none⟩ ∧ b < w.heap.size ∧
    w.cell? ⟨b, o + k * 2, none⟩ = some (strV D.mods[k].name) ∧ w.cell? ⟨b, o + k * 2 + 1, none⟩ = some s ∧ Lns w s D.mods[k].lines) := hc
  obtain ⟨R, hR⟩ : ∃ R, R = sIdx (D.idx n.data.toList) D.mods.length := ⟨_, rfl⟩
  rw [← hR]
  have HR : Hid (R = sIdx (D.idx n.data.toList) D.mods.length) := hR
  clear hc hR hmax h1 h3
  go_enter Tryz.func48, Tryz.ntmps48
  go_wp2
  go_loopw [10] (fun i wr => ∃ k : Nat, k ≤ D.mods.length ∧ i = .int .i64 k ∧ (∀ j (hj : j < D.mods.length), j < k → decide (D.mods[j].name = n.data.toList) = false) ∧ Below w.heap.size w wr) (fun i _ => D.mods.length - (intOf i).toNat)
  case atStart => exact ⟨0, Nat.zero_le _, rfl, fun j _ h => absurd h (by omega), (Below.refl _ _).alloc (Nat.le_refl _) _⟩
  case round =>
    obtain ⟨k, hk, rfl, hno, hB⟩ := hrel
    have HNO : Hid (∀ j (hj : j < D.mods.length), j < k → decide (D.mods[j].name = n.data.toList) = false) := hno
    clear hno
    by_cases hlt : k < D.mods.length
    · obtain ⟨b, o, v, rfl, hb, h0, h1, h2⟩ := HC.out k hlt
      obtain ⟨av, cv, rfl⟩ := h2.slice
      have d0 := (hB.cell (p := ⟨b, o + k * 2, none⟩) hb).trans h0
      have d1 := (hB.cell (p := ⟨b, o + k * 2 + 1, none⟩) hb).trans h1
      obtain ⟨s, hs⟩ : ∃ s : ByteArray, s.data.toList = D.mods[k].name := ⟨⟨D.mods[k].name.toArray⟩, by simp⟩
      have hsv : strV D.mods[k].name = .string s := by rw [← hs, strV_data]
      rw [hsv] at d0
      have hbq := str_beq hs (rfl : n.data.toList = n.data.toList)
      clear h0 h1 h2 hsv
      by_cases he : D.mods[k].name = n.data.toList
      · obtain rfl : s = n := str_eq (hs.trans he) rfl
        have HK : Hid (R = k) := by
          unfold Hid
          rw [HR.out, sIdx]
          have : D.idx s.data.toList = k := place_hit hlt HNO.out (by simpa using he)
          rw [this, if_pos hlt]
        clear hbq he hs
        go_wp2
        go_ret
        exact ⟨ret_int HK.out.symm, hB.alloc hB.size _⟩
      · have hne : (s.toList == n.toList) = false := by rw [hbq]; simpa using he
        have HE : Hid (¬ D.mods[k].name = n.data.toList) := he
        clear hbq he hs
        go_wp2
        go_roundw
        case rel => exact ⟨k + 1, by omega, by go_num, fun j hj hjk => by
          by_cases hjk' : j = k
          · subst hjk'; simpa using HE.out
          · exact HNO.out j hj (by omega), hB.alloc hB.size _⟩
        case measure => simp [intOf]; omega
    · have HK : Hid (R = -1) := by
        unfold Hid
        rw [HR.out, sIdx]
        have : D.idx n.data.toList = D.mods.length := place_none (fun j hj => HNO.out j hj (by omega))
        rw [this, if_neg (by omega)]
      go_wp2
      go_ret
      exact ⟨ret_int HK.out.symm, hB⟩

/-- The first of the names that is there at all. -/
def thereT (D : Wd) : List (List UInt8) → Int
  | [] => -1
  | n :: r => if D.idx n < D.mods.length then (D.idx n : Int) else thereT D r
def toOf (D : Wd) (f n : List UInt8) : Int := thereT D (Pl.tries D.roots f n)
theorem thereT_miss (D : Wd) : ∀ (T : List (List UInt8)) (k : Nat), (∀ j (hj : j < T.length), j < k → ¬ D.idx T[j] < D.mods.length) → thereT D T = thereT D (T.drop k)
  | _, 0, _ => by rw [List.drop_zero]
  | [], _ + 1, _ => by simp
  | n :: r, k + 1, h => by
    have h0 := h 0 (by simp) (by omega)
    rw [thereT, if_neg (by simpa using h0), List.drop_succ_cons]
    exact thereT_miss D r k (fun j hj hjk => by have := h (j + 1) (by simpa using hj) (by omega); simpa using this)
/-- The edges of a module's lines, of the modules. -/
def lineE (D : Wd) (i : Nat) (nm : List UInt8) : Nat → List Ln → List Eg
  | _, [] => []
  | k, l :: r => (if l.op = 3 ∨ l.op = 4 then [⟨(i : Int), (k : Int), toOf D nm l.name⟩] else []) ++ lineE D i nm (k + 1) r
def modE (D : Wd) : Nat → List Md → List Eg
  | _, [] => []
  | i, m :: r => lineE D i m.name 0 m.lines ++ modE D (i + 1) r
def edgesOf (D : Wd) : List Eg := if (wok D).1 = 0 then modE D 0 D.mods else []
theorem lineE_snoc (D : Wd) (i : Nat) (nm : List UInt8) (l : Ln) : ∀ (L : List Ln) (k : Nat), lineE D i nm k (L ++ [l]) = lineE D i nm k L ++ (if l.op = 3 ∨ l.op = 4 then [⟨(i : Int), ((k + L.length : Nat) : Int), toOf D nm l.name⟩] else [])
  | [], k => by simp [lineE]
  | x :: r, k => by
    rw [List.cons_append, lineE, lineE_snoc D i nm l r (k + 1), lineE, List.append_assoc, List.length_cons]
    rw [show k + 1 + r.length = k + (r.length + 1) by omega]
theorem lineE_app (D : Wd) (i : Nat) (nm : List UInt8) : ∀ (L R : List Ln) (k : Nat), lineE D i nm k (L ++ R) = lineE D i nm k L ++ lineE D i nm (k + L.length) R
  | [], R, k => by simp [lineE]
  | x :: r, R, k => by
    rw [List.cons_append, lineE, lineE_app D i nm r R (k + 1), lineE, List.append_assoc, List.length_cons]
    rw [show k + 1 + r.length = k + (r.length + 1) by omega]
theorem modE_snoc (D : Wd) (m : Md) : ∀ (M : List Md) (i : Nat), modE D i (M ++ [m]) = modE D i M ++ lineE D (i + M.length) m.name 0 m.lines
  | [], i => by simp [modE]
  | x :: r, i => by
    rw [List.cons_append, modE, modE_snoc D m r (i + 1), modE, List.append_assoc, List.length_cons]
    rw [show i + 1 + r.length = i + (r.length + 1) by omega]
theorem lineE_len (D : Wd) (i : Nat) (nm : List UInt8) : ∀ (L : List Ln) (k : Nat), (lineE D i nm k L).length ≤ L.length
  | [], _ => by simp [lineE]
  | x :: r, k => by
    have := lineE_len D i nm r (k + 1)
    rw [lineE, List.length_append, List.length_cons]
    split <;> simp <;> omega
theorem modE_len (D : Wd) : ∀ (M : List Md) (i : Nat), (modE D i M).length ≤ lineN M
  | [], _ => by simp [modE]
  | x :: r, i => by
    have h1 := modE_len D r (i + 1)
    have h2 := lineE_len D i x.name x.lines 0
    have h3 : lineN (x :: r) = x.lines.length + lineN r := by unfold lineN; simp
    rw [modE, List.length_append]; omega
theorem edgesOf_len (D : Wd) (hD : D.t ≤ 1048576) : (edgesOf D).length ≤ 1048576 := by
  unfold edgesOf
  split
  · have h1 := modE_len D D.mods 0
    have h2 := lineN_le D.mods
    unfold Wd.t at hD; omega
  · simp

set_option maxHeartbeats 4000000 in
set_option maxRecDepth 100000 in
theorem l4ok_any (v : Value) (D : Wd) (w : World) (h : Wds w v D) (hD : D.t ≤ 1048576) :
    Calls Tryz.prog 25 #[v] w fun e w' => e = .returned (.bool (decide ((wok D).1 = 0))) ∧ Below w.heap.size w w' := by
  obtain ⟨a1, a2, a3, k1, k2, k3, rfl⟩ : ∃ a1 a2 a3 k1 k2 k3, v = .agg #[.slice a1 D.roots.length k1, .slice a2 D.mods.length k2, .slice a3 D.faults.length k3] := by
    obtain ⟨r, m, f, rfl, h1, h2, h3⟩ := h
    obtain ⟨a1, k1, rfl⟩ := h1.slice
    obtain ⟨a2, k2, rfl⟩ := h2.slice
    obtain ⟨a3, k3, rfl⟩ := h3.slice
    exact ⟨a1, a2, a3, k1, k2, k3, rfl⟩
  obtain ⟨W, hW⟩ : ∃ W, W = w.alloc (.cells #[.slice a1 D.roots.length k1, .slice a2 D.mods.length k2, .slice a3 D.faults.length k3] 32) := ⟨_, rfl⟩
  have hWB : Below w.heap.size w W := by rw [hW]; exact (Below.refl _ _).alloc (Nat.le_refl _) _
  have hs := specWorldOk_any _ D W (h.below hWB (Nat.le_refl _)) hD
  obtain ⟨rc, rm, rl, hrr⟩ : ∃ rc rm rl, wok D = (rc, rm, rl) := ⟨_, _, _, rfl⟩
  have hwv : wrongV (wok D) = .agg #[.int .i64 rc, .int .i64 rm, .int .i64 rl] := by rw [hrr]; rfl
  rw [hwv] at hs
  have HD : Hid ((wok D).1 = rc) := by unfold Hid; rw [hrr]
  have HW : Hid (W = w.alloc (.cells #[.slice a1 D.roots.length k1, .slice a2 D.mods.length k2, .slice a3 D.faults.length k3] 32)) := hW
  rw [HD.out]
  obtain ⟨d, hd⟩ : ∃ d, (rc == 0) = d := ⟨_, rfl⟩
  have HDD : Hid (d = decide (rc = 0)) := by unfold Hid; rw [← hd, Bool.eq_iff_iff]; simp
  clear hW h hrr hwv
  go_enter Tryz.func25, Tryz.ntmps25
  go_wp2_with fail
  rw [← HW.out]
  refine hs.mono ?_
  rintro e w1 ⟨rfl, hb⟩
  go_wp2
  go_ret
  exact ⟨ret_bool HDD.out, (hWB.trans (hb.mono hWB.size)).alloc (by have := hb.size; have := hWB.size; omega) _⟩
end Go.Proofs.YtimgafblpmjajabGreat
namespace Go.Proofs.YtimgafblpmjajabGreat

open Go.RowKit

theorem Wds.agg' {w : World} {v : Value} {D : Wd} (h : Wds w v D) : ∃ a1 a2 a3 k1 k2 k3, v = .agg #[.slice a1 D.roots.length k1, .slice a2 D.mods.length k2, .slice a3 D.faults.length k3] := by
  obtain ⟨r, m, f, rfl, h1, h2, h3⟩ := h
  obtain ⟨a1, k1, rfl⟩ := h1.slice
  obtain ⟨a2, k2, rfl⟩ := h2.slice
  obtain ⟨a3, k3, rfl⟩ := h3.slice
  exact ⟨a1, a2, a3, k1, k2, k3, rfl⟩
theorem cells3 (w : World) (u0 u1 u2 : Value) (t : TypeId) : (w.alloc (.cells #[u0, u1, u2] t)).cell? ⟨w.heap.size, 0, none⟩ = some u0 ∧ (w.alloc (.cells #[u0, u1, u2] t)).cell? ⟨w.heap.size, 1, none⟩ = some u1 ∧ (w.alloc (.cells #[u0, u1, u2] t)).cell? ⟨w.heap.size, 2, none⟩ = some u2 := by
  simp [go_sem]

set_option maxHeartbeats 4000000 in
set_option maxRecDepth 100000 in
theorem l4to_any (v : Value) (D : Wd) (f n : ByteArray) (w : World) (h : Wds w v D) (hD : D.t ≤ 1048576) (hf : f.size ≤ 1048576) (hn : n.size ≤ 1048576) :
    Calls Tryz.prog 26 #[v, .string f, .string n] w fun e w' => e = .returned (.int .i64 (toOf D f.data.toList n.data.toList)) ∧ Below w.heap.size w w' := by
  obtain ⟨a1, a2, a3, k1, k2, k3, rfl⟩ := h.agg'
  obtain ⟨W, hW⟩ : ∃ W, W = w.alloc (.cells #[.slice a1 D.roots.length k1, .slice a2 D.mods.length k2, .slice a3 D.faults.length k3] 32) := ⟨_, rfl⟩
  have hWB : Below w.heap.size w W := by rw [hW]; exact (Below.refl _ _).alloc (Nat.le_refl _) _
  have hWs : W.heap.size = w.heap.size + 1 := by rw [hW]; simp
  have hc3 := cells3 w (.slice a1 D.roots.length k1) (.slice a2 D.mods.length k2) (.slice a3 D.faults.length k3) 32
  rw [← hW] at hc3
  have hWd := h.below hWB (Nat.le_refl _)
  have HWD : Hid (Wds W (.agg #[.slice a1 D.roots.length k1, .slice a2 D.mods.length k2, .slice a3 D.faults.length k3]) D) := hWd
  have hroots : Strs W (.slice a1 D.roots.length k1) D.roots := by
    obtain ⟨r, m, f, hv, h1, h2, h3⟩ := hWd
    have : r = .slice a1 D.roots.length k1 := by simp at hv; exact hv.1.symm
    rw [← this]; exact h1
  have hml : D.mods.length ≤ 1048576 := by unfold Wd.t mdsT at hD; omega
  have hrt : Pl.total D.roots ≤ 1048576 := by unfold Wd.t at hD; omega
  have htr := specTries_any _ D.roots f n W hroots hrt hf hn
  obtain ⟨R, hR⟩ : ∃ R, R = toOf D f.data.toList n.data.toList := ⟨_, rfl⟩
  have hT8 := Pl.tries_len D.roots f.data.toList n.data.toList
  rw [← hR]
  unfold toOf at hR
  obtain ⟨T, hT⟩ : ∃ T, T = Pl.tries D.roots f.data.toList n.data.toList := ⟨_, rfl⟩
  rw [← hT] at htr hT8 hR
  have HR : Hid (R = thereT D T) := hR
  have HW : Hid (W = w.alloc (.cells #[.slice a1 D.roots.length k1, .slice a2 D.mods.length k2, .slice a3 D.faults.length k3] 32)) := hW
  have HT60 : Hid (∀ (x : ByteArray) (V : World), Wds V (.agg #[.slice a1 D.roots.length k1, .slice a2 D.mods.length k2, .slice a3 D.faults.length k3]) D → Calls Tryz.prog 48 #[.agg #[.slice a1 D.roots.length k1, .slice a2 D.mods.length k2, .slice a3 D.faults.length k3], .string x] V fun e w' => e = .returned (.int .i64 (sIdx (D.idx x.data.toList) D.mods.length)) ∧ Below V.heap.size V w') := fun x V hV => l2find_any _ D x V hV hml
  clear hW h hWd hroots hR hT hD hrt
  go_enter Tryz.func26, Tryz.ntmps26
  go_wp2_with fail
  rw [← HW.out]
  refine htr.mono ?_
  rintro e w1 ⟨vt, rfl, hr, hb1⟩
  obtain ⟨at', capt, rfl, hcapt, hmx, hcell⟩ := row_shape hr
  have HC : Hid (∀ k, (hk : k < T.length) → ∃ g, at' = some ⟨g, 0, none⟩ ∧ W.heap.size ≤ g ∧ g < w1.heap.size ∧ w1.cell? ⟨g, k, none⟩ = some (strV T[k])) := hcell
  clear hcell hr hmx htr
  go_wp2
  go_loopw [16] (fun i wr => ∃ k : Nat, k ≤ T.length ∧ i = .int .i64 k ∧ Hid (∀ j (hj : j < T.length), j < k → ¬ D.idx T[j] < D.mods.length) ∧ Below w1.heap.size w1 wr) (fun i _ => T.length - (intOf i).toNat)
  case atStart => exact ⟨0, Nat.zero_le _, rfl, fun j _ h => absurd h (by omega), Below.refl _ _⟩
  case round =>
    obtain ⟨k, hk, rfl, hno, hB⟩ := hrel
    have hBW : Below W.heap.size W wr := hb1.trans (hB.mono hb1.size)
    by_cases hlt : k < T.length
    · obtain ⟨g, rfl, hg0, hg, hc⟩ := HC.out k hlt
      obtain ⟨q, hq⟩ : ∃ q : ByteArray, q.data.toList = T[k] := ⟨⟨T[k].toArray⟩, by simp⟩
      have hcq : wr.cell? ⟨g, k, none⟩ = some (.string q) := by rw [hB.cell (p := ⟨g, k, none⟩) hg, hc, ← hq, strV_data]
      have x0 := below_cell0 hBW (by omega) hc3.1
      have x1 := below_cell0 hBW (by omega) hc3.2.1
      have x2 := below_cell0 hBW (by omega) hc3.2.2
      have hcall := HT60.out q wr (HWD.out.below hBW (Nat.le_refl _))
      rw [hq] at hcall
      by_cases hin : D.idx T[k] < D.mods.length
      · have hsx : sIdx (D.idx T[k]) D.mods.length = (D.idx T[k] : Int) := by rw [sIdx, if_pos hin]
        rw [hsx] at hcall
        have HE : Hid (R = (D.idx T[k] : Int)) := by
          unfold Hid
          rw [HR.out, thereT_miss D T k hno.out, List.drop_eq_getElem_cons hlt, thereT, if_pos hin]
        obtain ⟨ix, hix⟩ : ∃ ix, ix = D.idx T[k] := ⟨_, rfl⟩
        rw [← hix] at hcall HE
        clear hc hq hsx hin hix
        go_wp2_with fail
        refine hcall.mono ?_
        rintro e w2 ⟨rfl, hb2⟩
        go_wp2
        go_ret
        exact ⟨ret_int HE.out.symm, hWB.trans ((hBW.trans (hb2.mono hBW.size)).mono hWB.size)⟩
      · have hsx : sIdx (D.idx T[k]) D.mods.length = -1 := by rw [sIdx, if_neg hin]
        rw [hsx] at hcall
        have HE : Hid (∀ j (hj : j < T.length), j < k + 1 → ¬ D.idx T[j] < D.mods.length) := fun j hj hjk => by
          by_cases hjk' : j = k
          · subst hjk'; exact hin
          · exact hno.out j hj (by omega)
        clear hc hq hsx hin
        go_wp2_with fail
        refine hcall.mono ?_
        rintro e w2 ⟨rfl, hb2⟩
        go_wp2
        go_roundw
        case rel => exact ⟨k + 1, by omega, by go_num, HE, hB.trans (hb2.mono hB.size)⟩
        case measure => simp [intOf]; omega
    · have HE : Hid (R = -1) := by
        unfold Hid
        rw [HR.out, thereT_miss D T k hno.out, List.drop_of_length_le (by omega)]; rfl
      go_wp2
      go_ret
      exact ⟨ret_int HE.out.symm, hWB.trans (hBW.mono hWB.size)⟩
end Go.Proofs.YtimgafblpmjajabGreat
namespace Go.Proofs.YtimgafblpmjajabGreat

open Go.RowKit

theorem Tryz.info75 : (Tryz.prog.info? 54).map (fun i => (i.zero, i.size, i.bytes)) = some (some (.agg #[.int .i64 0, .int .i64 0, .int .i64 0]), 3, 24) := by kernel_rfl
theorem grown_keep {w w' : World} {row : Option Nat} {b : Nat} (hg : w.grownBy w' row) (hb : b < w.heap.size) (hne : row ≠ some b) : w'.heap[b]? = w.heap[b]? := hg.block b hb (fun e => hne e.symm)
theorem new_blk (w : World) (o : Obj) : (w.alloc o).heap[w.heap.size]? = some o := by show (w.heap.push o)[w.heap.size]? = some o; simp
theorem egR_snoc (F : List Eg) (a b c : Int) : (F ++ [(⟨a, b, c⟩ : Eg)]).flatMap egR = F.flatMap egR ++ [.int .i64 a, .int .i64 b, .int .i64 c] := by simp [egR]
theorem old_blk (w : World) (o : Obj) {b : Nat} (h : b < w.heap.size) : (w.alloc o).heap[b]? = w.heap[b]? := ((Below.refl w.heap.size w).alloc (Nat.le_refl _) o).block b h
theorem blk_ne {w : World} {B : Nat} {cs : Array Value} {t e : TypeId} {fr : Nat × Nat} {base size n : Nat} {v : Value} {xs : List Value} (hB : w.heap[B]? = some (.cells cs t fr)) (h : w.ownsRow base e size v n xs) (hne : t ≠ e) : v.ownBlock ≠ some B := fun hv => by
  rcases h.2 with ⟨rfl, _⟩ | ⟨g, cap, cur, rfl, _, hg, _⟩
  · simp [Value.ownBlock] at hv
  · simp [Value.ownBlock] at hv
    subst hv
    rw [hB] at hg
    simp at hg
    exact hne hg.2.1
theorem new3' (w : World) (a b c : Value) (t : TypeId) : ∀ j u, [a, b, c][j]? = some u → (w.alloc (.cells #[a, b, c] t)).cell? ((⟨w.heap.size, 0, none⟩ : Addr).add j) = some u := by
  intro j u hj
  match j with
  | 0 => simp at hj; subst hj; simp [Addr.add]
  | 1 => simp at hj; subst hj; simp [Addr.add]
  | 2 => simp at hj; subst hj; simp [Addr.add]
  | j + 3 => simp at hj

set_option maxHeartbeats 8000000 in
set_option maxRecDepth 100000 in
theorem specEdges_any (v : Value) (D : Wd) (w : World) (h : Wds w v D) (hD : D.t ≤ 1048576) :
    Calls Tryz.prog 7 #[v] w fun e w' => ∃ v', e = .returned v' ∧ w'.ownsRow w.heap.size 54 3 v' (edgesOf D).length ((edgesOf D).flatMap egR) ∧ Below w.heap.size w w' := by
  obtain ⟨i75, hi, hz0, hz1, hz2⟩ := info_parts Tryz.info75
  obtain ⟨a1, a2, a3, k1, k2, k3, rfl⟩ := h.agg'
  obtain ⟨W, hW⟩ : ∃ W, W = w.alloc (.cells #[.slice a1 D.roots.length k1, .slice a2 D.mods.length k2, .slice a3 D.faults.length k3] 32) := ⟨_, rfl⟩
  have hWB : Below w.heap.size w W := by rw [hW]; exact (Below.refl _ _).alloc (Nat.le_refl _) _
  have hWs : W.heap.size = w.heap.size + 1 := by rw [hW]; simp
  have hc3 := cells3 w (.slice a1 D.roots.length k1) (.slice a2 D.mods.length k2) (.slice a3 D.faults.length k3) 32
  rw [← hW] at hc3
  have hWd := h.below hWB (Nat.le_refl _)
  have HWD : Hid (Wds W (.agg #[.slice a1 D.roots.length k1, .slice a2 D.mods.length k2, .slice a3 D.faults.length k3]) D) := hWd
  have hmods : Mds W (.slice a2 D.mods.length k2) D.mods := by
    obtain ⟨r, m, f, hv, h1, h2, h3⟩ := hWd
    have : m = .slice a2 D.mods.length k2 := by simp at hv; exact hv.2.1.symm
    rw [← this]; exact h2
  have hok := l4ok_any _ D W hWd hD
  have hml : D.mods.length ≤ 1048576 := by unfold Wd.t mdsT at hD; omega
  have HW : Hid (W = w.alloc (.cells #[.slice a1 D.roots.length k1, .slice a2 D.mods.length k2, .slice a3 D.faults.length k3] 32)) := hW
  have HTO : Hid (∀ (f n : ByteArray) (V : World), Wds V (.agg #[.slice a1 D.roots.length k1, .slice a2 D.mods.length k2, .slice a3 D.faults.length k3]) D → f.size ≤ 1048576 → n.size ≤ 1048576 → Calls Tryz.prog 26 #[.agg #[.slice a1 D.roots.length k1, .slice a2 D.mods.length k2, .slice a3 D.faults.length k3], .string f, .string n] V fun e w' => e = .returned (.int .i64 (toOf D f.data.toList n.data.toList)) ∧ Below V.heap.size V w') := fun f n V hV hf hn => l4to_any _ D f n V hV hD hf hn
  have hmt : mdsT D.mods ≤ 1048576 := by unfold Wd.t at hD; omega
  have HLE : Hid (lineN D.mods ≤ 1048576) := by unfold Hid; have := lineN_le D.mods; omega
  have HMS : Hid (∀ m ∈ D.mods, m.t ≤ 1048576) := fun m hm => by
    have h1 : m.t ≤ (D.mods.map Md.t).sum := mem_le_sum _ _ (List.mem_map.2 ⟨m, hm, rfl⟩)
    unfold mdsT at hmt; omega
  clear hW h hWd hmt
  by_cases hgood : (wok D).1 = 0
  · have hdec : decide ((wok D).1 = 0) = true := by simpa using hgood
    rw [hdec] at hok
    have hE : edgesOf D = modE D 0 D.mods := by unfold edgesOf; rw [if_pos hgood]
    rw [hE]
    obtain ⟨am, capm, hvm, hcapm, hmaxm, hcm⟩ := hmods
    have HCM : Hid (∀ k, (hk : k < D.mods.length) → ∃ b o s, a2 = some ⟨b, o, none⟩ ∧ b < W.heap.size ∧
      W.cell? ⟨b, o + k * 2, none⟩ = some (strV D.mods[k].name) ∧ W.cell? ⟨b, o + k * 2 + 1, none⟩ = some s ∧ Lns W s D.mods[k].lines) := by
      cases hvm; exact hcm
    have hk2 : D.mods.length ≤ k2 := by cases hvm; exact hcapm
    clear hdec hgood hE hcm hvm hmaxm hcapm
    go_enter Tryz.func7, Tryz.ntmps7
    go_wp2_with fail
    rw [← HW.out]
    refine hok.mono ?_
    rintro e w1 ⟨rfl, hb1⟩
    have x1 := below_cell0 hb1 (by omega) hc3.2.1
    go_wp2
    go_loopw [3, 14] (fun vo i wr => ∃ k : Nat, k ≤ D.mods.length ∧ i = .int .i64 k ∧ wr.ownsRow W.heap.size 54 3 vo (modE D 0 (D.mods.take k)).length ((modE D 0 (D.mods.take k)).flatMap egR) ∧ Below W.heap.size W wr) (fun _ i _ => D.mods.length - (intOf i).toNat)
    case atStart => exact ⟨0, Nat.zero_le _, rfl, World.ownsRow_nil _ _ _ _, hb1⟩
    case round =>
      obtain ⟨k, hk, rfl, hown, hB⟩ := hrel
      by_cases hlt : k < D.mods.length
      · obtain ⟨b, o, ls, rfl, hb, h0, h1, h2⟩ := HCM.out k hlt
        obtain ⟨la, lcap, rfl⟩ := h2.slice
        obtain ⟨hs1, hs2, hs3⟩ := Md.small (HMS.out _ (List.getElem_mem hlt))
        obtain ⟨ns, hns⟩ : ∃ ns : ByteArray, ns.data.toList = D.mods[k].name := ⟨⟨D.mods[k].name.toArray⟩, by simp⟩
        have hnv : strV D.mods[k].name = .string ns := by rw [← hns, strV_data]
        rw [hnv] at h0
        have hnsz : ns.size ≤ 1048576 := by rw [size_data, hns]; exact hs1
        have y0 := below_cell0 hB hb h0
        have y1 := below_cell0 hB hb h1
        obtain ⟨L, hL⟩ : ∃ L, L = D.mods[k].lines := ⟨_, rfl⟩
        have hEk : modE D 0 (D.mods.take (k + 1)) = modE D 0 (D.mods.take k) ++ lineE D k D.mods[k].name 0 D.mods[k].lines := by
          rw [List.take_succ_eq_append_getElem hlt, modE_snoc, List.length_take, Nat.min_eq_left (by omega), Nat.zero_add]
        have hEl : (modE D 0 (D.mods.take (k + 1))).length ≤ 1048576 := by
          have e1 := modE_len D (D.mods.take (k + 1)) 0
          have e2 := lineN_mono D.mods (k + 1)
          have e3 := HLE.out
          omega
        rw [← hL, ← hns] at hEk
        rw [← hL] at h2 hs2 hs3 y1
        obtain ⟨E, hE⟩ : ∃ E, E = modE D 0 (D.mods.take k) := ⟨_, rfl⟩
        rw [← hE] at hown hEk
        obtain ⟨NM, hNM⟩ : ∃ NM, NM = ns.data.toList := ⟨_, rfl⟩
        rw [← hNM] at hEk
        have HEK : Hid (modE D 0 (D.mods.take (k + 1)) = E ++ lineE D k NM 0 L) := hEk
        have HNM : Hid (NM = ns.data.toList) := hNM
        have hEL2 : (E ++ lineE D k NM 0 L).length ≤ 1048576 := by rw [← hEk]; exact hEl
        have hsplit : ∀ q, q ≤ L.length → (E ++ lineE D k NM 0 (L.take q)).length ≤ (E ++ lineE D k NM 0 L).length := fun q hq => by
          have : lineE D k NM 0 L = lineE D k NM 0 (L.take q) ++ lineE D k NM q (L.drop q) := by
            have h := lineE_app D k NM (L.take q) (L.drop q) 0
            rw [List.take_append_drop, List.length_take, Nat.min_eq_left hq, Nat.zero_add] at h
            exact h
          rw [this]; simp only [List.length_append]; omega
        have HSP : Hid (∀ q, q ≤ L.length → (E ++ lineE D k NM 0 (L.take q)).length ≤ 1048576) := fun q hq => Nat.le_trans (hsplit q hq) hEL2
        obtain ⟨al, capl, hvl, hcapl, hmaxl, hcl⟩ := h2
        have HCL : Hid (∀ q, (hq : q < L.length) → ∃ b o, la = some ⟨b, o, none⟩ ∧ b < W.heap.size ∧
          W.cell? ⟨b, o + q * 4, none⟩ = some (.int .i64 L[q].op) ∧ W.cell? ⟨b, o + q * 4 + 1, none⟩ = some (strV L[q].name) ∧ W.cell? ⟨b, o + q * 4 + 2, none⟩ = some (.int .i64 L[q].num) ∧ W.cell? ⟨b, o + q * 4 + 3, none⟩ = some (.int .i64 L[q].skip)) := by
          cases hvl; exact hcl
        have hlc : L.length ≤ lcap := by cases hvl; exact hcapl
        have HS3 : Hid (∀ l ∈ L, l.name.length ≤ 1048576) := hs3
        have hszB := hB.size
        clear h0 h1 hs1 hnv hns hL hEk hEl hE hNM hEL2 hsplit hvl hcapl hmaxl hcl hs3
        have HE0 : Hid (E ++ lineE D k NM 0 (L.take 0) = E) := by unfold Hid; simp [lineE]
        obtain ⟨wo, rfl⟩ : ∃ wo, wo = wr := ⟨_, rfl⟩
        go_wp2
        go_loopw [3, 22] (fun vo j wi => ∃ q : Nat, q ≤ L.length ∧ j = .int .i64 q ∧ wi.ownsRow W.heap.size 54 3 vo (E ++ lineE D k NM 0 (L.take q)).length ((E ++ lineE D k NM 0 (L.take q)).flatMap egR) ∧ Below W.heap.size W wi ∧ wo.heap.size < wi.heap.size ∧ wi.heap[wo.heap.size]? = some (.cells #[.string ns, .slice la L.length lcap] 49 (0, 0))) (fun _ j _ => L.length - (intOf j).toNat)
        case atStart => exact ⟨0, Nat.zero_le _, rfl, by rw [HE0.out]; exact hown.alloc _, hB.alloc hszB _, by simp, new_blk _ _⟩
        case round =>
          obtain ⟨q, hq, rfl, hown2, hB2, hzi, hbx⟩ := hrel
          have hszB2 := hB2.size
          have z0' : wr.cell? ⟨wo.heap.size, 0, none⟩ = some (.string ns) := by simp [World.cell?, hbx]
          have z0 := fun o' => below_cell0 ((Below.refl wr.heap.size wr).alloc (Nat.le_refl _) o') hzi z0'
          clear z0'
          have x0 := fun o' => below_cell0 ((Below.refl wr.heap.size wr).alloc (Nat.le_refl _) o') (by omega) (below_cell0 hB2 (by omega) hc3.1)
          have x1 := fun o' => below_cell0 ((Below.refl wr.heap.size wr).alloc (Nat.le_refl _) o') (by omega) (below_cell0 hB2 (by omega) hc3.2.1)
          have x2 := fun o' => below_cell0 ((Below.refl wr.heap.size wr).alloc (Nat.le_refl _) o') (by omega) (below_cell0 hB2 (by omega) hc3.2.2)
          by_cases hlq : q < L.length
          · obtain ⟨b', o', rfl, hb', l0, l1, l2, l3⟩ := HCL.out q hlq
            obtain ⟨ln, hln⟩ : ∃ ln : ByteArray, ln.data.toList = L[q].name := ⟨⟨L[q].name.toArray⟩, by simp⟩
            have hlv : strV L[q].name = .string ln := by rw [← hln, strV_data]
            rw [hlv] at l1
            have hlnsz : ln.size ≤ 1048576 := by rw [size_data, hln]; exact HS3.out _ (List.getElem_mem hlq)
            have m0 := below_cell0 hB2 hb' l0
            have m1 := below_cell0 hB2 hb' l1
            have m2 := below_cell0 hB2 hb' l2
            have m3 := below_cell0 hB2 hb' l3
            have hsn : E ++ lineE D k NM 0 (L.take (q + 1)) = (E ++ lineE D k NM 0 (L.take q)) ++ (if L[q].op = 3 ∨ L[q].op = 4 then [⟨(k : Int), (q : Int), toOf D NM L[q].name⟩] else []) := by
              rw [List.take_succ_eq_append_getElem hlq, lineE_snoc, List.length_take, Nat.min_eq_left (by omega), Nat.zero_add, List.append_assoc]
            rw [← hln] at hsn
            have hspq := HSP.out q (by omega)
            obtain ⟨F, hF⟩ : ∃ F, F = E ++ lineE D k NM 0 (L.take q) := ⟨_, rfl⟩
            rw [← hF] at hsn hown2 hspq
            obtain ⟨op, hop⟩ : ∃ op, op = L[q].op := ⟨_, rfl⟩
            obtain ⟨nu, hnu⟩ : ∃ nu, nu = L[q].num := ⟨_, rfl⟩
            obtain ⟨sk, hsk⟩ : ∃ sk, sk = L[q].skip := ⟨_, rfl⟩
            rw [← hop] at hsn m0
            rw [← hnu] at m2
            rw [← hsk] at m3
            have HSN : Hid (E ++ lineE D k NM 0 (L.take (q + 1)) = F ++ (if op = 3 ∨ op = 4 then [⟨(k : Int), (q : Int), toOf D NM ln.data.toList⟩] else [])) := hsn
            have hcall := fun V (hV : Wds V (.agg #[.slice a1 D.roots.length k1, .slice (some ⟨b, o, none⟩) D.mods.length k2, .slice a3 D.faults.length k3]) D) => HTO.out ns ln V hV hnsz hlnsz
            rw [← HNM.out] at hcall
            obtain ⟨tt, htt⟩ : ∃ tt, tt = toOf D NM ln.data.toList := ⟨_, rfl⟩
            rw [← htt] at hcall
            have HTT : Hid (tt = toOf D NM ln.data.toList) := htt
            have HCALL : Hid (∀ V, Wds V (.agg #[.slice a1 D.roots.length k1, .slice (some ⟨b, o, none⟩) D.mods.length k2, .slice a3 D.faults.length k3]) D → Calls Tryz.prog 26 #[.agg #[.slice a1 D.roots.length k1, .slice (some ⟨b, o, none⟩) D.mods.length k2, .slice a3 D.faults.length k3], .string ns, .string ln] V fun e w' => e = .returned (.int .i64 tt) ∧ Below V.heap.size V w') := hcall
            have hWi := HWD.out.below hB2 (Nat.le_refl _)
            clear l0 l1 l2 l3 hlv hln hsn hF hop hnu hsk hcall htt
            have hgo : ∀ (hyes : op = 3 ∨ op = 4), (op == 3) = true ∨ (op == 3) = false ∧ (op == 4) = true := fun hy => by
              rcases hy with rfl | rfl
              · exact .inl rfl
              · exact .inr ⟨rfl, rfl⟩
            by_cases hyes : op = 3 ∨ op = 4
            · have HF : Hid (E ++ lineE D k NM 0 (L.take (q + 1)) = F ++ [⟨(k : Int), (q : Int), tt⟩]) := by unfold Hid; rw [HSN.out, if_pos hyes, HTT.out]
              obtain ⟨af, capf, rfl, hcapf, _⟩ := row_form hown2
              rcases hgo hyes with h3 | ⟨h3, h4⟩
              · clear hyes hgo
                go_wp2_with fail
                refine (HCALL.out _ (hWi.below ((Below.refl wr.heap.size wr).alloc (Nat.le_refl _) _) (Nat.le_refl _))).mono ?_
                rintro e w3 ⟨rfl, hb3⟩
                have hown3 := own_below (hown2.alloc (.cells #[.int .i64 op, .string ln, .int .i64 nu, .int .i64 sk] 51)) hb3 (Nat.le_refl _)
                have hz34 : wr.heap.size < w3.heap.size := by have := hb3.size; simp at this; omega
                have hB3 : Below W.heap.size W w3 := (hB2.alloc hszB2 _).trans (hb3.mono (by simp; omega))
                have hbx3 : w3.heap[wo.heap.size]? = some (.cells #[.string ns, .slice (some ⟨b', o', none⟩) L.length lcap] 49 (0, 0)) := (hb3.block _ (by simp; omega)).trans ((old_blk _ _ hzi).trans hbx)
                have hz3 : wo.heap.size < w3.heap.size := by omega
                have hszB3 := hB3.size
                clear hown2 hb3 hbx x0 x1 x2 m0 m1 m2 m3 z0 hWi
                go_wp2_with (at_builtin; refine wpList_append_own_at _ rfl _ _ 28 rfl W.heap.size 54 i75 _ 3 24 Tryz.underlying28 hi hz0 hz1 hz2 rfl (by decide) _ _ _ rfl (hown3.alloc _) ⟨w3.heap.size, 0, none⟩ 1 1 [Value.int .i64 (k : Int), Value.int .i64 (q : Int), Value.int .i64 tt] rfl rfl (new3' _ _ _ _ _) (by intro u hu; simp at hu; rcases hu with rfl | rfl | rfl <;> rfl) (by unfold maxLen; omega) (by omega) (by simp; omega) ?_; intro v' w4 hown4 hgrow hnil hloc; have hbx4 : w4.heap[wo.heap.size]? = some (.cells #[.string ns, .slice (some ⟨b', o', none⟩) L.length lcap] 49 (0, 0)) := (grown_keep hgrow (by simp; omega) (blk_ne hbx3 hown3 (by decide))).trans ((old_blk _ _ hz3).trans hbx3); have hB4 := below_append hB3 hszB3 hown3 hgrow; have hz4 : wo.heap.size < w4.heap.size := (by have := hgrow.size; simp at this; omega); clear hgrow hnil hloc hown3 hbx3)
                go_roundw
                case rel => exact ⟨q + 1, by omega, by go_num, by rw [HF.out, List.length_append, List.length_singleton, egR_snoc]; exact hown4, hB4, hz4, hbx4⟩
                case measure => simp [intOf]; omega
              · clear hyes hgo
                go_wp2_with fail
                refine (HCALL.out _ (hWi.below ((Below.refl wr.heap.size wr).alloc (Nat.le_refl _) _) (Nat.le_refl _))).mono ?_
                rintro e w3 ⟨rfl, hb3⟩
                have hown3 := own_below (hown2.alloc (.cells #[.int .i64 op, .string ln, .int .i64 nu, .int .i64 sk] 51)) hb3 (Nat.le_refl _)
                have hz34 : wr.heap.size < w3.heap.size := by have := hb3.size; simp at this; omega
                have hB3 : Below W.heap.size W w3 := (hB2.alloc hszB2 _).trans (hb3.mono (by simp; omega))
                have hbx3 : w3.heap[wo.heap.size]? = some (.cells #[.string ns, .slice (some ⟨b', o', none⟩) L.length lcap] 49 (0, 0)) := (hb3.block _ (by simp; omega)).trans ((old_blk _ _ hzi).trans hbx)
                have hz3 : wo.heap.size < w3.heap.size := by omega
                have hszB3 := hB3.size
                clear hown2 hb3 hbx x0 x1 x2 m0 m1 m2 m3 z0 hWi
                go_wp2_with (at_builtin; refine wpList_append_own_at _ rfl _ _ 28 rfl W.heap.size 54 i75 _ 3 24 Tryz.underlying28 hi hz0 hz1 hz2 rfl (by decide) _ _ _ rfl (hown3.alloc _) ⟨w3.heap.size, 0, none⟩ 1 1 [Value.int .i64 (k : Int), Value.int .i64 (q : Int), Value.int .i64 tt] rfl rfl (new3' _ _ _ _ _) (by intro u hu; simp at hu; rcases hu with rfl | rfl | rfl <;> rfl) (by unfold maxLen; omega) (by omega) (by simp; omega) ?_; intro v' w4 hown4 hgrow hnil hloc; have hbx4 : w4.heap[wo.heap.size]? = some (.cells #[.string ns, .slice (some ⟨b', o', none⟩) L.length lcap] 49 (0, 0)) := (grown_keep hgrow (by simp; omega) (blk_ne hbx3 hown3 (by decide))).trans ((old_blk _ _ hz3).trans hbx3); have hB4 := below_append hB3 hszB3 hown3 hgrow; have hz4 : wo.heap.size < w4.heap.size := (by have := hgrow.size; simp at this; omega); clear hgrow hnil hloc hown3 hbx3)
                go_roundw
                case rel => exact ⟨q + 1, by omega, by go_num, by rw [HF.out, List.length_append, List.length_singleton, egR_snoc]; exact hown4, hB4, hz4, hbx4⟩
                case measure => simp [intOf]; omega
            · have HF : Hid (E ++ lineE D k NM 0 (L.take (q + 1)) = F) := by unfold Hid; rw [HSN.out, if_neg hyes, List.append_nil]
              have h3 : (op == 3) = false := by simp; exact fun e => hyes (.inl e)
              have h4 : (op == 4) = false := by simp; exact fun e => hyes (.inr e)
              clear hyes hgo
              go_wp2
              go_roundw
              case rel => exact ⟨q + 1, by omega, by go_num, by rw [HF.out]; exact hown2.alloc _, hB2.alloc hszB2 _, by simp; omega, (old_blk _ _ hzi).trans hbx⟩
              case measure => simp [intOf]; omega
          · have HQ : Hid (L.take q = L) := List.take_of_length_le (by omega)
            rw [HQ.out, ← HEK.out] at hown2
            go_wp2
            go_roundw
            case rel => exact ⟨k + 1, by omega, by go_num, hown2, hB2⟩
            case measure => simp [intOf]; omega
      · have HK : Hid (D.mods.take k = D.mods) := List.take_of_length_le (by omega)
        rw [HK.out] at hown
        go_wp2
        go_ret
        exact ⟨_, rfl, own_mono hown hWB.size, hWB.trans (hB.mono hWB.size)⟩
  · have hdec : decide ((wok D).1 = 0) = false := by simpa using hgood
    rw [hdec] at hok
    have hE : edgesOf D = [] := by unfold edgesOf; rw [if_neg hgood]
    rw [hE]
    clear hdec hgood hE hmods
    go_enter Tryz.func7, Tryz.ntmps7
    go_wp2_with fail
    rw [← HW.out]
    refine hok.mono ?_
    rintro e w1 ⟨rfl, hb1⟩
    go_wp2
    go_ret
    exact ⟨_, rfl, World.ownsRow_nil _ _ _ _, hWB.trans (hb1.mono hWB.size)⟩
end Go.Proofs.YtimgafblpmjajabGreat
namespace Go.Proofs.YtimgafblpmjajabGreat

open Go.RowKit

/-- What is asked of impl.Edges. -/
def EdgesOk : Prop := ∀ (v : Value) (D : Wd) (w : World), Wds w v D → D.t ≤ 1048576 →
  Calls Tryz.prog 9 #[v] w fun e w' => ∃ v', e = .returned v' ∧ w'.ownsRow w.heap.size 54 3 v' (edgesOf D).length ((edgesOf D).flatMap egR) ∧ Below w.heap.size w w'


set_option maxHeartbeats 16000000 in
set_option maxRecDepth 100000 in
theorem lawEdges (HI0 : EdgesOk) (v : Value) (D : Wd) (w : World) (h : Wds w v D) (hok : D.ok) :
    Calls Tryz.prog 3 #[v] w fun e w' => e = .returned (.bool true) ∧ Below w.heap.size w w' := by
  obtain ⟨a1, a2, a3, k1, k2, k3, rfl⟩ := h.agg
  obtain ⟨W, hW⟩ : ∃ W, W = w.alloc (.cells #[.slice a1 D.roots.length k1, .slice a2 D.mods.length k2, .slice a3 D.faults.length k3] 26) := ⟨_, rfl⟩
  have hWB : Below w.heap.size w W := by rw [hW]; exact (Below.refl _ _).alloc (Nat.le_refl _) _
  have hWs : W.heap.size = w.heap.size + 1 := by rw [hW]; simp
  have hW3 := new3 w (.slice a1 D.roots.length k1) (.slice a2 D.mods.length k2) (.slice a3 D.faults.length k3) 26
  rw [← hW] at hW3
  have hWd := h.below hWB (Nat.le_refl _)
  have HW : Hid (W = w.alloc (.cells #[.slice a1 D.roots.length k1, .slice a2 D.mods.length k2, .slice a3 D.faults.length k3] 26)) := hW
  have HD : Hid (Wds W (.agg #[.slice a1 D.roots.length k1, .slice a2 D.mods.length k2, .slice a3 D.faults.length k3]) D) := hWd
  have HI : Hid EdgesOk := HI0
  clear hW h HI0
  go_enter Tryz.func3, Tryz.ntmps3
  go_wp2_with fail
  rw [← HW.out]
  refine (szWorld_any _ D W hWd hok).mono ?_
  by_cases hle : D.t ≤ 1048576
  · rw [leftOf_step hle]
    obtain ⟨q, hq⟩ : ∃ q : Nat, q = 1048576 - D.t := ⟨_, rfl⟩
    rw [← hq]
    have hqb : q ≤ 1048576 := by omega
    have hEl := edgesOf_len D hle
    obtain ⟨E, hE⟩ : ∃ E, E = edgesOf D := ⟨_, rfl⟩
    have HE : Hid (E = edgesOf D) := hE
    rw [← hE] at hEl
    clear hq hE
    rintro e w1 ⟨rfl, B1⟩
    clear hWd
    obtain ⟨x0, x1, x2⟩ := keep3 B1 (by omega) hW3
    go_wp2_with fail
    refine (toWorld_any _ D w1 (HD.out.below B1 (Nat.le_refl _)) hle).mono ?_
    rintro e w2 ⟨v2, rfl, hv2, hb2⟩
    have B2 : Below W.heap.size W w2 := B1.trans (hb2.mono B1.size)
    clear hb2 x0 x1 x2 B1
    obtain ⟨y1, y2, y3, z1, z2, z3, rfl⟩ := hv2.agg
    go_wp2_with fail
    refine (specEdges_any _ D w2 hv2 hle).mono ?_
    rw [← HE.out]
    rintro e w3 ⟨vw, rfl, rw3, hb3⟩
    have B3 : Below W.heap.size W w3 := B2.trans (hb3.mono B2.size)
    clear hb3 hv2
    obtain ⟨aw, cw, rfl, _, _⟩ := row_form rw3
    have hwlt : ∀ b, (Value.slice aw E.length cw).ownBlock = some b → b < w3.heap.size := fun b hb => (rw3.lt b hb).2
    have s23 := B3.size
    obtain ⟨x0, x1, x2⟩ := keep3 B3 (by omega) hW3
    go_wp2_with fail
    refine (toWorld_own _ D w3 (HD.out.below B3 (Nat.le_refl _)) hle).mono ?_
    rintro e w4 ⟨vx, rfl, hx4, hb4⟩
    have B4 : Below W.heap.size W w4 := B3.trans (hb4.mono B3.size)
    have rw4 := own_below rw3 hb4 (Nat.le_refl _)
    have s34 := hb4.size
    clear hb4 x0 x1 x2 rw3 B2
    obtain ⟨y1, y2, y3, z1, z2, z3, rfl⟩ := hx4.wds.agg
    obtain ⟨W4, hW4'⟩ : ∃ W4, W4 = w4.alloc (Obj.cells #[.slice y1 D.roots.length z1, .slice y2 D.mods.length z2, .slice y3 D.faults.length z3] 32) := ⟨_, rfl⟩
    have hc4 := new3 w4 (.slice y1 D.roots.length z1) (.slice y2 D.mods.length z2) (.slice y3 D.faults.length z3) 32
    rw [← hW4'] at hc4
    have hal : Below w4.heap.size w4 W4 := by rw [hW4']; exact (Below.refl _ _).alloc (Nat.le_refl _) _
    have hW4s : W4.heap.size = w4.heap.size + 1 := by rw [hW4']; simp
    have HW4 : Hid (W4 = w4.alloc (Obj.cells #[.slice y1 D.roots.length z1, .slice y2 D.mods.length z2, .slice y3 D.faults.length z3] 32)) := hW4'
    have BW4 : Below W.heap.size W W4 := B4.trans (hal.mono B4.size)
    have rwW4 := own_below rw4 hal (Nat.le_refl _)
    clear hW4' rw4
    go_wp2_with fail
    rw [← HW4.out]
    refine (HI.out _ D W4 (hx4.wds.below hal (Nat.le_refl _)) hle).mono ?_
    rw [← HE.out]
    rintro e w5 ⟨vg, rfl, rg5, hb5⟩
    obtain ⟨ag, cg, rfl, _, _⟩ := row_form rg5
    have B5 : Below W.heap.size W w5 := BW4.trans (hb5.mono BW4.size)
    have rw5 := own_below rwW4 hb5 (Nat.le_refl _)
    have bx5 : Below w4.heap.size w4 w5 := hal.trans (hb5.mono hal.size)
    have c5 := keep3 hb5 (by omega) hc4
    have s45 : w4.heap.size < w5.heap.size := by have := hb5.size; omega
    clear hb5 rwW4 hc4 BW4 hal
    go_wp2_with fail
    refine (eqEdgeS_any _ _ E w5 (egs_own rg5) (egs_own rw5) hEl).mono ?_
    rintro e w6 ⟨rfl, hb6⟩
    have B6 : Below W.heap.size W w6 := B5.trans (hb6.mono B5.size)
    have rw6 := own_below rw5 hb6 (Nat.le_refl _)
    have rg6 := own_below rg5 hb6 (Nat.le_refl _)
    have bx6 : Below w4.heap.size w4 w6 := bx5.trans (hb6.mono bx5.size)
    obtain ⟨n0, n1, n2⟩ := keep3 hb6 s45 c5
    obtain ⟨x0, x1, x2⟩ := keep3 B6 (by omega) hW3
    have s56 : w4.heap.size < w6.heap.size := by have := hb6.size; omega
    clear hb6 rw5 rg5 bx5 c5 B5
    have HT : Hid (Calls Tryz.prog 8 #[.agg #[.slice a1 D.roots.length k1, .slice a2 D.mods.length k2, .slice a3 D.faults.length k3]] w6.drew fun e w' => ∃ v', e = .returned v' ∧ Wds w' v' D ∧ Below w6.heap.size w6.drew w') :=
      toWorld_any _ D w6.drew (HD.out.below B6.drew (Nat.le_refl _)) hle
    have HX : Hid (Wds w6 (.agg #[.slice y1 D.roots.length z1, .slice y2 D.mods.length z2, .slice y3 D.faults.length z3]) D) := hx4.wds.below bx6 (Nat.le_refl _)
    go_wp2
    go_region_with (first | (go_at_call 8; refine HT.out.mono ?_; rintro e w7 ⟨v7, rfl, hv8, hb8⟩; obtain ⟨j1, j2, j3, l1, l2, l3, rfl⟩ := hv8.agg; obtain ⟨m0, m1, m2⟩ := keep3 (W := w6.drew) hb8 s56 ⟨n0, n1, n2⟩) | (go_at_call 11; refine (eqWorld_any _ _ D w7 (HX.out.below (w' := w7) ((Below.refl w6.heap.size w6).drew.trans hb8) (Nat.le_refl _)) hv8 hle).mono ?_; rintro e w8 ⟨rfl, hb9⟩))
    all_goals
      have h68 : Below w6.heap.size w6 w8 := (Below.refl w6.heap.size w6).drew.trans (hb8.trans (hb9.mono hb8.size))
      have B8 : Below W.heap.size W w8 := B6.trans (h68.mono B6.size)
      have rw8 := own_below rw6 h68 (Nat.le_refl _)
      have rg8 := own_below rg6 h68 (Nat.le_refl _)
      have bx8 : Below w4.heap.size w4 w8 := bx6.trans (h68.mono bx6.size)
      have s68 := h68.size
      obtain ⟨o0, o1, o2⟩ := keep3 h68 s56 ⟨n0, n1, n2⟩
      have hmk := markWorld_any w3.heap.size w4.heap.size _ D w4 w8 hx4 (Nat.le_refl _) (by omega) bx8 hle
      clear x0 x1 x2 n0 n1 n2 m0 m1 m2 hb8 hb9 hv8 rw6 rg6 h68 bx8 B6
      go_wp2_with fail
      refine hmk.mono ?_
      rintro e w9 ⟨kk, rfl, hbt⟩
      have B9 : Below W.heap.size W w9 := B8.trans ((hbt.below (by omega)).mono (by omega))
      have rg9 := hbt.own rg8 (by omega)
      have rw9 := hbt.own_old rw8 hwlt
      have s89 := hbt.size
      clear hmk hbt rw8 rg8 o0 o1 o2 B8
      go_wp2_with fail
      refine (eqEdgeS_any _ _ E w9 (egs_own rg9) (egs_own rw9) hEl).mono ?_
      rintro e w10 ⟨rfl, hb10⟩
      have B10 : Below W.heap.size W w10 := B9.trans (hb10.mono B9.size)
      have rw10 := own_below rw9 hb10 (Nat.le_refl _)
      have rg10 := own_below rg9 hb10 (Nat.le_refl _)
      have s910 := hb10.size
      clear hb10 rw9 rg9 B9
      go_wp2_with fail
      refine (markE_any _ _ E.length _ w10 rg10 hEl).mono ?_
      rintro e w11 ⟨rfl, rg11, hg11⟩
      have rw11 := own_block (w' := w11) rw10 (fun b hb => hg11.block b (rw10.lt b hb).2 (fun e => by have h1 := (rg10.lt b e.symm).1; have h2 := hwlt b hb; omega))
      have B11 : Below W.heap.size W w11 := B10.grown hg11 B10.size (fun b e => by have h1 := (rg10.lt b e).1; omega)
      have s1011 := hg11.size
      clear hg11 rw10 rg10 B10
      go_wp2_with fail
      refine (heldE_any _ E.length w11 (egs_own rg11) hEl).mono ?_
      rintro e w11' ⟨rfl, rfl⟩
      obtain ⟨x0, x1, x2⟩ := keep3 B11 (by omega) hW3
      go_wp2_with fail
      refine (toWorld_any _ D w11' (HD.out.below B11 (Nat.le_refl _)) hle).mono ?_
      rintro e w12 ⟨v12, rfl, hv12, hb12⟩
      obtain ⟨t1, t2, t3, u1, u2, u3, rfl⟩ := hv12.agg
      have B12 : Below W.heap.size W w12 := B11.trans (hb12.mono B11.size)
      have rw12 := own_below rw11 hb12 (Nat.le_refl _)
      have rg12 := own_below rg11 hb12 (Nat.le_refl _)
      clear hb12 rw11 rg11 B11 x0 x1 x2
      go_wp2_with fail
      refine (HI.out _ D w12 hv12 hle).mono ?_
      rw [← HE.out]
      rintro e w13 ⟨vh, rfl, rh13, hb13⟩
      obtain ⟨ah, ch, rfl, _, _⟩ := row_form rh13
      have B13 : Below W.heap.size W w13 := B12.trans (hb13.mono B12.size)
      have rw13 := own_below rw12 hb13 (Nat.le_refl _)
      have rg13 := own_below rg12 hb13 (Nat.le_refl _)
      clear hb13 rw12 rg12 B12 hv12
      go_wp2_with fail
      refine (eqEdgeS_any _ _ E w13 (egs_own rh13) (egs_own rw13) hEl).mono ?_
      rintro e w14 ⟨rfl, hb14⟩
      have B14 : Below W.heap.size W w14 := B13.trans (hb14.mono B13.size)
      have rg14 := own_below rg13 hb14 (Nat.le_refl _)
      clear hb14 rw13 rg13 rh13 B13
      go_wp2_with fail
      refine (heldE_any _ E.length w14 (egs_own rg14) hEl).mono ?_
      rintro e w14' ⟨rfl, rfl⟩
      go_wp2
      go_ret
      exact ⟨rfl, hWB.trans (B14.mono hWB.size)⟩
  · rw [leftOf_neg hle]
    rintro e w1 ⟨rfl, B1⟩
    go_wp2
    go_ret
    exact ⟨rfl, hWB.trans (B1.mono hWB.size)⟩
end Go.Proofs.YtimgafblpmjajabGreat
namespace Go.Proofs.YtimgafblpmjajabGreat.fnExactEdges

open Go.ChangeShapes Go.WideShapes Go.ChangeAt Go.RowKit

open Go.ChangeMaps (open_string shut_string)
set_option linter.unusedVariables false

theorem own : ownKnob Tryz.prog.godebug = none := by kernel_rfl
theorem laidOut : laidOutB Tryz.prog = true := by kernel_rfl

set_option maxRecDepth 100000 in
theorem lifted (HI : EdgesOk) (os : Os) (started : os.Started) (H : Type) (enc : TypeId × Value → H) :
    ReturnsInHanded {} Tryz.checked os 3 .any (Rows.fnExactEdgesSpec.pre6 enc Tryz.prog Tryz.f3 Rows.fnExactEdgesRow.domain false) (Rows.fnExactEdgesSpec.post enc Tryz.prog Tryz.f3 false true false false) := by
  refine returnsInHanded_of_change (C := Tryz.checked) own started (by kernel_rfl) Tryz.func3
    (ChangeSpec.witness6 (enc := enc) (C := Tryz.checked) false ⟨#[], #[.agg #[.slice none 0 0, .slice none 0 0, .slice none 0 0]], []⟩ 8 (by kernel_rfl) (by kernel_rfl) (by kernel_rfl) (by kernel_rfl)) ?_
  intro W base args ds gs before hval0 hW hcnd _
  have hval : ∀ (j : Nat) t v, Tryz.f3.params[j]? = some t → args[j]? = some v → Value.okWide Tryz.prog W .any base t v := hval0
  have hW' := hW
  obtain ⟨p, q, hA0, hV, rfl, hfz, hnd⟩ := hW
  have hA : DataW.TrodAll enc Tryz.prog W 0 (fun _ => true) true Tryz.f3.params.toList args.toList ds p := hA0
  rw [Tryz.params3] at hA hval
  obtain ⟨v0, vs0, d0, ds0, p0, q0, hargs, rfl, rfl, h0, r0⟩ := trodAll_cons hA
  obtain ⟨rfl, rfl, rfl⟩ := trodAll_nil r0
  obtain rfl : args = #[v0] := by cases args; simp_all
  obtain ⟨rfl, rfl⟩ := trodVars_none hV
  obtain ⟨cs, rfl, hcs⟩ := okWide_struct Tryz.underlying26 (hval 0 26 v0 rfl rfl)
  have k0 := h0
  have lt0 : ∀ x ∈ p0, x.block < W.heap.size := by obtain ⟨m, hm⟩ := k0; exact DataW.trod_lt m _ _ _ hm
  obtain ⟨D, hD1, hD2⟩ : ∃ D, Wds W (.agg cs) D ∧ D.ok := by
    obtain ⟨fuel, hf⟩ := h0
    obtain ⟨r, m, f, D, hcs', hD, hok⟩ := open_wds hf
    have hcs2 : cs.toList = [r, m, f] := hcs'
    have : cs = #[r, m, f] := by cases cs; simp_all
    exact ⟨D, by rw [this]; exact hD, hok⟩
  clear hA0 hval0
  refine (lawEdges HI (.agg cs) D W hD1 hD2).mono fun e W' ⟨he, bel⟩ => ?_
  subst he
  exact ⟨_, rfl, _, _, _, [], _, [], hW', trodAll_mk1 (shut_bool Tryz.underlying4 _), (trodAll_cons_mk (Below.trod laidOut (by kernel_rfl) (of_decide_eq_true (by kernel_rfl)) k0 bel lt0) trodAll_mk0), rfl, bel.frame _, fun h => by cases h⟩

theorem over (HI : EdgesOk) : Rows.fnExactEdgesRow.holds Tryz.pinned (OpenSpec.ofChange Rows.fnExactEdgesSpec) :=
  OpenClaim.holds_of_wide 3 Tryz.f3 rfl rfl rfl rfl rfl rfl rfl ⟨rfl, rfl, rfl, rfl, rfl⟩ rfl rfl rfl rfl rfl (by kernel_rfl) Tryz.func3 (by kernel_rfl)
    (of_decide_eq_true (by kernel_rfl)) (by unfold Func.isWrapper; first | (rw [if_pos (by decide +kernel)]; kernel_rfl) | (rw [if_neg (by decide +kernel)]; exact ⟨rfl, rfl⟩))
    (fun os started H enc _ => lifted HI os started H enc)

theorem proved (HI : EdgesOk) : Rows.FnExactEdgesSaid := over HI
end Go.Proofs.YtimgafblpmjajabGreat.fnExactEdges
namespace Go.Proofs.YtimgafblpmjajabGreat
theorem fnExactEdges_of (HI : EdgesOk) : Rows.FnExactEdgesSaid := fnExactEdges.proved HI
end Go.Proofs.YtimgafblpmjajabGreat
namespace Go.Proofs.YtimgafblpmjajabGreat
open Go.RowKit Go.Maps

/-- The shelf has each module's place. -/
def Placed (M : List Md) (k : Nat) (D : DataW Unit) : Prop := ∀ j (hj : j < M.length), j < k → D.atKey (keyL M[j].name) (.lit (.int .i64 0)) = .lit (.int .i64 (j : Int))
theorem placed_zero (M : List Md) : Placed M 0 (.map []) := fun j _ h => absurd h (by omega)
theorem placed_put {M : List Md} {k : Nat} {D : DataW Unit} (h : Placed M k D) (hD : IsMap D) (hk : k < M.length) (hn : ∀ j (hj : j < M.length), M[j].name.length ≤ 1048576) (hf : (M.take k).any (fun m => decide (m.name = M[k].name)) = false) :
    Placed M (k + 1) (D.put (keyL M[k].name) (.lit (.int .i64 (k : Int)))) := by
  intro j hj hjk
  obtain ⟨t, ht, htz⟩ := arr_of M[k].name (hn k hk)
  by_cases he : j = k
  · subst he
    exact atKey_put_same hD (lawK.key (key_mk ht htz)) _ _
  · obtain ⟨s, hs, hsz⟩ := arr_of M[j].name (hn j hj)
    have hne : M[j].name ≠ M[k].name := fun e => by
      have : (M.take k).any (fun m => decide (m.name = M[k].name)) = true := by
        rw [List.any_eq_true]
        exact ⟨M[j], List.mem_take_iff_getElem.2 ⟨j, by omega, rfl⟩, by simpa using e⟩
      rw [hf] at this; cases this
    have hkn : keyL M[j].name ≠ keyL M[k].name := by
      have := keyL_ne hsz htz (by rw [hs, ht]; exact hne)
      rwa [hs, ht] at this
    rw [atKey_put_other hkn]
    exact h j hj (by omega)
theorem has_idx {D : Wd} {DM : DataW Unit} (h : Shelved D.mods D.mods.length DM) {l : List UInt8} (hl : l.length ≤ 1048576) : Maps.has DM (keyL l) = decide (D.idx l < D.mods.length) := by
  rw [h.2 l hl, List.take_length, Bool.eq_iff_iff, List.any_eq_true]
  constructor
  · rintro ⟨m, hm, he⟩
    rcases Nat.lt_or_ge (D.idx l) D.mods.length with h1 | h1
    · simpa using h1
    · obtain ⟨j, hj, rfl⟩ := List.getElem_of_mem hm
      have := place_miss (p := fun s : Md => decide (s.name = l)) hj (by unfold Wd.idx at h1; omega)
      rw [this] at he; cases he
  · intro h1
    have h1' : D.idx l < D.mods.length := by simpa using h1
    exact ⟨_, List.getElem_mem h1', place_lt h1'⟩
theorem at_idx {D : Wd} {DM : DataW Unit} (h : Placed D.mods D.mods.length DM) {l : List UInt8} (hl : D.idx l < D.mods.length) : DM.atKey (keyL l) (.lit (.int .i64 0)) = .lit (.int .i64 (D.idx l : Int)) := by
  have h1 := h (D.idx l) hl hl
  have h2 : D.mods[D.idx l].name = l := of_decide_eq_true (place_lt (p := fun s : Md => decide (s.name = l)) hl)
  rwa [h2] at h1

set_option maxRecDepth 100000 in
set_option maxHeartbeats 8000000 in
theorem shelve_full (v : Value) (M : List Md) (w : World) (h : Mds w v M) (hM : M.length ≤ 1048576) (hMM : ∀ m ∈ M, m.t ≤ 1048576) (hgood : ∀ j, j < M.length → badMd M j = false) :
    Calls Tryz.prog 51 #[v] w fun e w' => e = .returned (.tuple #[.map (some w.heap.size), .int .i64 (M.length : Nat)]) ∧ (∃ DM, w'.ownsMap Tryz.prog 106 (plainElem Tryz.prog 3) w.heap.size M.length DM ∧ Shelved M M.length DM ∧ Placed M M.length DM) ∧ Below w.heap.size w w' := by
  have hmm := @run_makeMap Tryz.prog
  obtain ⟨a, cap, rfl, hcap, hmax, hc⟩ := h
  have HC : Hid (∀ k, (hk : k < M.length) → ∃ b o s, a = some ⟨b, o, none⟩ ∧ b < w.heap.size ∧
    w.cell? ⟨b, o + k * 2, none⟩ = some (strV M[k].name) ∧ w.cell? ⟨b, o + k * 2 + 1, none⟩ = some s ∧ Lns w s M[k].lines) := hc
  have HMM : Hid (∀ m ∈ M, m.t ≤ 1048576) := hMM
  have HGD : Hid (∀ j, j < M.length → badMd M j = false) := hgood
  have HNL : Hid (∀ j (hj : j < M.length), M[j].name.length ≤ 1048576) := fun j hj => (Md.small (hMM _ (List.getElem_mem hj))).1
  clear hc hmax hMM hgood
  go_enter Tryz.func51, Tryz.ntmps51
  go_wp2
  go_loopw [14] (fun i wr => ∃ (k : Nat) (D : DataW Unit), k ≤ M.length ∧ i = .int .i64 k ∧ wr.ownsMap Tryz.prog 106 (plainElem Tryz.prog 3) w.heap.size k D ∧ Shelved M k D ∧ Placed M k D ∧ Below w.heap.size w wr) (fun i _ => M.length - (intOf i).toNat)
  case atStart => exact ⟨0, _, Nat.zero_le _, rfl, World.ownsMap_made _ _ _ _, shelved_zero M, placed_zero M, (Below.refl _ _).alloc (Nat.le_refl _) _⟩
  case round =>
    obtain ⟨k, D, hk, rfl, hown, hsh, hpl, hB⟩ := hrel
    have HSH : Hid (Shelved M k D) := hsh
    have HPL : Hid (Placed M k D) := hpl
    have hwB := hown.lt
    clear hsh hpl hmm
    by_cases hlt : k < M.length
    · obtain ⟨b, o, s, rfl, hb, h0, h1, h2⟩ := HC.out k hlt
      obtain ⟨hs1, hs2, hs3⟩ := Md.small (HMM.out _ (List.getElem_mem hlt))
      obtain ⟨asl, cs, rfl⟩ := h2.slice
      obtain ⟨N, hN⟩ : ∃ N, N = M[k].lines.length := ⟨_, rfl⟩
      obtain ⟨ns, hns⟩ : ∃ ns : ByteArray, ns.data.toList = M[k].name := ⟨⟨M[k].name.toArray⟩, by simp⟩
      have hnv : strV M[k].name = .string ns := by rw [← hns, strV_data]
      rw [hnv] at h0
      rw [← hN] at h1 hs2
      have c0 := (hB.cell (p := ⟨b, o + k * 2, none⟩) hb).trans h0
      have c1 := (hB.cell (p := ⟨b, o + k * 2 + 1, none⟩) hb).trans h1
      have hbm := badMd_at hlt
      rw [← hN, HGD.out k hlt] at hbm
      have HNS : Hid (ns.data.toList = M[k].name) := hns
      have HSZ : Hid (M[k].name.length ≤ 1048576) := hs1
      have hbm' := hbm.symm
      rw [Bool.or_eq_false_iff, Bool.or_eq_false_iff] at hbm'
      obtain ⟨⟨hb1, hb2⟩, hb3⟩ := hbm'
      have hi : isN M[k].name = true := by simpa using hb1
      have h60 : ¬ 60 < N := by simpa using hb2
      have HFR : Hid ((M.take k).any (fun m => decide (m.name = M[k].name)) = false) := hb3
      have HNV : Hid (strV M[k].name = .string ns) := hnv
      clear h0 h1 h2 hs3 hs1 hbm hns hnv hN hb1 hb2 hb3
      go_wp2_with fail
      refine (asWritten_any ns _).mono ?_
      rw [HNS.out]
      clear c0 c1
      have hwv : writtenV M[k].name = .tuple #[.agg #[.string ns], .bool true] := by rw [writtenV, if_pos hi, HNV.out]
      rw [hwv]
      have HI : Hid (isN M[k].name = true) := hi
      clear hwv hi
      rintro e w1 ⟨rfl, hb1⟩
      have m0 : w1.cell? ⟨wr.heap.size, 0, none⟩ = some (.string ns) := below_cell0 hb1 (by simp) (by simp [go_sem])
      have m1 : w1.cell? ⟨wr.heap.size, 1, none⟩ = some (.slice asl N cs) := below_cell0 hb1 (by simp) (by simp [go_sem])
      have hB1 : Below w.heap.size w w1 := (hB.alloc hB.size _).trans (hb1.mono (by have := hB.size; simp; omega))
      have hz1 : wr.heap.size < w1.heap.size := by have := hb1.size; simp at this; omega
      have hz2 : w.heap.size < w1.heap.size := by omega
      have hown1 := map_below (hown.alloc _) hb1 (by simp; omega)
      have hkey := key_mk HNS.out (by rw [size_data, HNS.out]; have := HSZ.out; unfold maxLen; omega)
      have HHAS : Hid (Maps.has D (keyL M[k].name) = (M.take k).any (fun m => decide (m.name = M[k].name))) := HSH.out.2 _ HSZ.out
      clear hb1 hown
      obtain ⟨kl, hkl⟩ : ∃ kl, kl = keyL M[k].name := ⟨_, rfl⟩
      rw [← hkl] at hkey HHAS
      have HKL : Hid (kl = keyL M[k].name) := hkl
      clear hkl
      have HTK : Hid (Maps.has D kl = false) := by unfold Hid; rw [HHAS.out, HFR.out]
      have hzz : w.heap.size < (w1.alloc (Obj.cells #[Value.string ns] 106)).heap.size := by simp; omega
      go_wp2_with (first | (at_lookup; refine wpList_lookup_own_ok_int _ rfl _ _ 59 rfl 106 3 .i64 lawK Tryz.underlying59 Tryz.underlying3 (zero3 _) w.heap.size k D rfl (hown1.alloc _) _ kl rfl hkey ?_; intro c hat hwc; rw [HTK.out]; clear hat hwc) | (at_mapUpdate; refine wpList_mapUpdate_own _ rfl _ _ _ 59 rfl 106 3 lawK Tryz.underlying59 (plainElem (H := Unit) Tryz.prog 3) w.heap.size k D rfl (hown1.alloc _) (by unfold maxLen; omega) _ _ kl rfl rfl hkey _ [] (plainElem_int Tryz.underlying3 (WalkArith.wf_i64 (by omega))) ?_; intro w2 hown2 hgrow2))
      have hB2 : Below w.heap.size w w2 := (hB1.alloc (by omega) _).grown hgrow2 (by simp; omega) (fun j hj => by cases hj; exact Nat.le_refl _)
      go_roundw
      case rel => exact ⟨k + 1, _, by omega, by go_num, hown2, by rw [HKL.out]; exact shelved_put HSH.out hlt HSZ.out _, by rw [HKL.out]; exact placed_put HPL.out HSH.out.1 hlt HNL.out HFR.out, hB2⟩
      case measure => simp [intOf]; omega
    · obtain rfl : k = M.length := by omega
      go_wp2
      exact bodyPost_ret (v := .tuple #[.map (some w.heap.size), .int .i64 M.length]) (by simp [results, Tryz.results51, go_sem]) rfl ⟨rfl, ⟨D, hown, HSH.out, HPL.out⟩, hB⟩
end Go.Proofs.YtimgafblpmjajabGreat
namespace Go.Proofs.YtimgafblpmjajabGreat
open Go.RowKit

theorem is_say_imp (v : Value) (W : World) : (Instr.typeAssert (.iface 133 v) 98 130 true).run Tryz.prog W = .ok (.tuple #[.agg #[.string ⟨#[]⟩], .bool false]) W := by kernel_rfl
theorem is_say_tr (v : Value) (W : World) : (Instr.typeAssert (.iface 133 v) 98 131 true).run Tryz.prog W = .ok (.tuple #[.agg #[.string ⟨#[]⟩], .bool false]) W := by kernel_rfl
theorem is_give_imp (v : Value) (W : World) : (Instr.typeAssert (.iface 134 v) 98 130 true).run Tryz.prog W = .ok (.tuple #[.agg #[.string ⟨#[]⟩], .bool false]) W := by kernel_rfl
theorem is_give_tr (v : Value) (W : World) : (Instr.typeAssert (.iface 134 v) 98 131 true).run Tryz.prog W = .ok (.tuple #[.agg #[.string ⟨#[]⟩], .bool false]) W := by kernel_rfl
theorem is_imp_imp (v : Value) (W : World) : (Instr.typeAssert (.iface 130 v) 98 130 true).run Tryz.prog W = .ok (.tuple #[v, .bool true]) W := by kernel_rfl
theorem is_tr_imp (v : Value) (W : World) : (Instr.typeAssert (.iface 131 v) 98 130 true).run Tryz.prog W = .ok (.tuple #[.agg #[.string ⟨#[]⟩], .bool false]) W := by kernel_rfl
theorem is_tr_tr (v : Value) (W : World) : (Instr.typeAssert (.iface 131 v) 98 131 true).run Tryz.prog W = .ok (.tuple #[v, .bool true]) W := by kernel_rfl
theorem is_show_imp (v : Value) (W : World) : (Instr.typeAssert (.iface 135 v) 98 130 true).run Tryz.prog W = .ok (.tuple #[.agg #[.string ⟨#[]⟩], .bool false]) W := by kernel_rfl
theorem is_show_tr (v : Value) (W : World) : (Instr.typeAssert (.iface 135 v) 98 131 true).run Tryz.prog W = .ok (.tuple #[.agg #[.string ⟨#[]⟩], .bool false]) W := by kernel_rfl
theorem is_thr_imp (v : Value) (W : World) : (Instr.typeAssert (.iface 136 v) 98 130 true).run Tryz.prog W = .ok (.tuple #[.agg #[.string ⟨#[]⟩], .bool false]) W := by kernel_rfl
theorem is_thr_tr (v : Value) (W : World) : (Instr.typeAssert (.iface 136 v) 98 131 true).run Tryz.prog W = .ok (.tuple #[.agg #[.string ⟨#[]⟩], .bool false]) W := by kernel_rfl
theorem is_iff_imp (v : Value) (W : World) : (Instr.typeAssert (.iface 138 v) 98 130 true).run Tryz.prog W = .ok (.tuple #[.agg #[.string ⟨#[]⟩], .bool false]) W := by kernel_rfl
theorem is_iff_tr (v : Value) (W : World) : (Instr.typeAssert (.iface 138 v) 98 131 true).run Tryz.prog W = .ok (.tuple #[.agg #[.string ⟨#[]⟩], .bool false]) W := by kernel_rfl
theorem is_nil_imp (W : World) : (Instr.typeAssert .nilIface 98 130 true).run Tryz.prog W = .ok (.tuple #[.agg #[.string ⟨#[]⟩], .bool false]) W := by kernel_rfl
theorem is_nil_tr (W : World) : (Instr.typeAssert .nilIface 98 131 true).run Tryz.prog W = .ok (.tuple #[.agg #[.string ⟨#[]⟩], .bool false]) W := by kernel_rfl

/-- What a step imports. -/
def impV (op : Int) (s : ByteArray) : Value := if op = 3 ∨ op = 4 then .tuple #[.string s, .bool true] else .tuple #[.string ⟨#[]⟩, .bool false]

set_option maxRecDepth 100000 in
set_option maxHeartbeats 4000000 in
theorem importedBy_any (op num skip : Int) (s : ByteArray) (w : World) :
    Calls Tryz.prog 52 #[stepV op s num skip] w fun e w' => e = .returned (impV op s) ∧ Below w.heap.size w w' := by
  obtain ⟨r, hr⟩ : ∃ r, r = impV op s := ⟨_, rfl⟩
  rw [← hr]
  by_cases h1 : op = 1
  · subst h1
    have hrt : r = .tuple #[.string ⟨#[]⟩, .bool false] := by rw [hr]; rfl
    subst hrt
    simp (config := { decide := true }) only [stepV, if_true, if_false]
    clear hr
    have t1 := is_say_imp
    have t2 := is_say_tr
    go_enter Tryz.func52, Tryz.ntmps52
    go_wp2
    exact bodyPost_ret (v := .tuple #[.string ⟨#[]⟩, .bool false]) (by simp [results, Tryz.results52, go_sem]) rfl ⟨rfl, by first | exact Below.refl _ _ | exact (Below.refl _ _).alloc (Nat.le_refl _) _ | exact below_alloc2 _ _⟩
  by_cases h2 : op = 2
  · subst h2
    have hrt : r = .tuple #[.string ⟨#[]⟩, .bool false] := by rw [hr]; rfl
    subst hrt
    simp (config := { decide := true }) only [stepV, if_true, if_false]
    clear hr
    have t1 := is_give_imp
    have t2 := is_give_tr
    go_enter Tryz.func52, Tryz.ntmps52
    go_wp2
    exact bodyPost_ret (v := .tuple #[.string ⟨#[]⟩, .bool false]) (by simp [results, Tryz.results52, go_sem]) rfl ⟨rfl, by first | exact Below.refl _ _ | exact (Below.refl _ _).alloc (Nat.le_refl _) _ | exact below_alloc2 _ _⟩
  by_cases h3 : op = 3
  · subst h3
    have hrt : r = .tuple #[.string s, .bool true] := by rw [hr]; rfl
    subst hrt
    simp (config := { decide := true }) only [stepV, if_true, if_false]
    clear hr
    have t1 := is_imp_imp
    go_enter Tryz.func52, Tryz.ntmps52
    go_wp2
    exact bodyPost_ret (v := .tuple #[.string s, .bool true]) (by simp [results, Tryz.results52, go_sem]) rfl ⟨rfl, by first | exact Below.refl _ _ | exact (Below.refl _ _).alloc (Nat.le_refl _) _ | exact below_alloc2 _ _⟩
  by_cases h4 : op = 4
  · subst h4
    have hrt : r = .tuple #[.string s, .bool true] := by rw [hr]; rfl
    subst hrt
    simp (config := { decide := true }) only [stepV, if_true, if_false]
    clear hr
    have t1 := is_tr_imp
    have t2 := is_tr_tr
    go_enter Tryz.func52, Tryz.ntmps52
    go_wp2
    exact bodyPost_ret (v := .tuple #[.string s, .bool true]) (by simp [results, Tryz.results52, go_sem]) rfl ⟨rfl, by first | exact Below.refl _ _ | exact (Below.refl _ _).alloc (Nat.le_refl _) _ | exact below_alloc2 _ _⟩
  by_cases h5 : op = 5
  · subst h5
    have hrt : r = .tuple #[.string ⟨#[]⟩, .bool false] := by rw [hr]; rfl
    subst hrt
    simp (config := { decide := true }) only [stepV, if_true, if_false]
    clear hr
    have t1 := is_show_imp
    have t2 := is_show_tr
    go_enter Tryz.func52, Tryz.ntmps52
    go_wp2
    exact bodyPost_ret (v := .tuple #[.string ⟨#[]⟩, .bool false]) (by simp [results, Tryz.results52, go_sem]) rfl ⟨rfl, by first | exact Below.refl _ _ | exact (Below.refl _ _).alloc (Nat.le_refl _) _ | exact below_alloc2 _ _⟩
  by_cases h6 : op = 6
  · subst h6
    have hrt : r = .tuple #[.string ⟨#[]⟩, .bool false] := by rw [hr]; rfl
    subst hrt
    simp (config := { decide := true }) only [stepV, if_true, if_false]
    clear hr
    have t1 := is_thr_imp
    have t2 := is_thr_tr
    go_enter Tryz.func52, Tryz.ntmps52
    go_wp2
    exact bodyPost_ret (v := .tuple #[.string ⟨#[]⟩, .bool false]) (by simp [results, Tryz.results52, go_sem]) rfl ⟨rfl, by first | exact Below.refl _ _ | exact (Below.refl _ _).alloc (Nat.le_refl _) _ | exact below_alloc2 _ _⟩
  by_cases h7 : op = 7
  · subst h7
    have hrt : r = .tuple #[.string ⟨#[]⟩, .bool false] := by rw [hr]; rfl
    subst hrt
    simp (config := { decide := true }) only [stepV, if_true, if_false]
    clear hr
    have t1 := is_iff_imp
    have t2 := is_iff_tr
    go_enter Tryz.func52, Tryz.ntmps52
    go_wp2
    exact bodyPost_ret (v := .tuple #[.string ⟨#[]⟩, .bool false]) (by simp [results, Tryz.results52, go_sem]) rfl ⟨rfl, by first | exact Below.refl _ _ | exact (Below.refl _ _).alloc (Nat.le_refl _) _ | exact below_alloc2 _ _⟩
  have hrf : r = .tuple #[.string ⟨#[]⟩, .bool false] := by rw [hr, impV, if_neg (by omega)]
  subst hrf
  rw [stepV, if_neg h1, if_neg h2, if_neg h3, if_neg h4, if_neg h5, if_neg h6, if_neg h7]
  clear hr
  have t1 := is_nil_imp
  have t2 := is_nil_tr
  go_enter Tryz.func52, Tryz.ntmps52
  go_wp2
  exact bodyPost_ret (v := .tuple #[.string ⟨#[]⟩, .bool false]) (by simp [results, Tryz.results52, go_sem]) rfl ⟨rfl, by first | exact Below.refl _ _ | exact (Below.refl _ _).alloc (Nat.le_refl _) _ | exact below_alloc2 _ _⟩
end Go.Proofs.YtimgafblpmjajabGreat
namespace Go.Proofs.YtimgafblpmjajabGreat
open Go.RowKit

/-- A place, as a number. -/
def numV (n : Nat) : Value := .int .i64 (n : Int)
/-- Where the imports of a module lead. -/
def leadsOf (E : List Eg) (k : Nat) : List Nat := E.flatMap fun e => if e.src = (k : Int) ∧ 0 ≤ e.to then [e.to.toNat] else []
theorem leadsOf_snoc (E : List Eg) (e : Eg) (k : Nat) : leadsOf (E ++ [e]) k = leadsOf E k ++ (if e.src = (k : Int) ∧ 0 ≤ e.to then [e.to.toNat] else []) := by
  unfold leadsOf; rw [List.flatMap_append]; simp
theorem leadsOf_cons (E : List Eg) (e : Eg) (k : Nat) : leadsOf (e :: E) k = (if e.src = (k : Int) ∧ 0 ≤ e.to then [e.to.toNat] else []) ++ leadsOf E k := by
  unfold leadsOf; rw [List.flatMap_cons]
theorem leadsOf_lt {E : List Eg} {N : Nat} (hE : ∀ e ∈ E, e.to < (N : Int)) (k : Nat) : ∀ t ∈ leadsOf E k, t < N := by
  intro t ht
  unfold leadsOf at ht
  obtain ⟨e, he, h⟩ := List.mem_flatMap.1 ht
  split at h
  · have := hE e he; simp at h; omega
  · simp at h
theorem leadsOf_len (E : List Eg) (k : Nat) : (leadsOf E k).length ≤ E.length := by
  induction E with
  | nil => simp [leadsOf]
  | cons e r ih => rw [leadsOf_cons]; split <;> simp <;> omega
end Go.Proofs.YtimgafblpmjajabGreat
namespace Go.Proofs.YtimgafblpmjajabGreat
open Go.RowKit

/-- The rows of where imports lead, each in a block of its own. -/
structure Lds (lo : Nat) (w : World) (g : Nat) (S : List Value) (E : List Eg) : Prop where
  blk : w.heap[g]? = some (.cells S.toArray 24 (0, 0))
  low : lo ≤ g
  row : ∀ j s, S[j]? = some s → w.ownsRow lo 3 1 s (leadsOf E j).length ((leadsOf E j).map numV)
  dis : ∀ (i j : Nat) (a b : Value) (q : Nat), S[i]? = some a → S[j]? = some b → i ≠ j → a.ownBlock = some q → b.ownBlock ≠ some q
/-- A graph while it is made. -/
structure Gst (lo B mb g : Nat) (w : World) (r m f ve : Value) (S : List Value) (F E : List Eg) (N : Nat) (DM : DataW Unit) : Prop where
  blk : w.heap[B]? = some (.cells #[r, m, f, .map (some mb), ve, .slice (some ⟨g, 0, none⟩) N N] 62 (0, 0))
  low : lo ≤ B
  edg : w.ownsRow lo 54 3 ve F.length (F.flatMap egR)
  lds : Lds lo w g S E
  len : S.length = N
  sto : w.ownsMap Tryz.prog 106 (plainElem Tryz.prog 3) mb N DM
/-- All that is no row of edges, no row of numbers, no row of rows and no graph stands. -/
def Kg (w w' : World) : Prop := ∀ (b : Nat), b < w.heap.size → (∀ cs t fr, w.heap[b]? = some (.cells cs t fr) → t ≠ 54 ∧ t ≠ 3 ∧ t ≠ 24 ∧ t ≠ 62) → w'.heap[b]? = w.heap[b]?
theorem Kg.map {w w' : World} (h : Kg w w') {b n : Nat} {k : TypeId} {R : Value → Option (DataW Unit × List MemPlace)} {D : DataW Unit} (hm : w.ownsMap Tryz.prog k R b n D) : w'.ownsMap Tryz.prog k R b n D := by
  obtain ⟨es, clock, hh, r⟩ := hm
  exact ⟨es, clock, (h b (Array.getElem?_eq_some_iff.1 hh).1 (fun cs t fr e => by rw [hh] at e; cases e)).trans hh, r⟩
theorem Kg.of_keep {w w' : World} (h : ∀ b, b < w.heap.size → w'.heap[b]? = w.heap[b]?) : Kg w w' := fun b hb _ => h b hb
theorem Kg.refl (w : World) : Kg w w := fun _ _ _ => rfl
theorem Kg.trans {w w1 w2 : World} (h : Kg w w1) (k : Kg w1 w2) (hs : w.heap.size ≤ w1.heap.size) : Kg w w2 := fun b hb ht =>
  (k b (Nat.lt_of_lt_of_le hb hs) (fun cs t fr e => ht cs t fr ((h b hb ht).symm.trans e))).trans (h b hb ht)
theorem Kg.grown {w w' : World} {lo : Nat} {t : TypeId} {sz n : Nat} {v : Value} {xs : List Value} (hg : w.grownBy w' v.ownBlock) (hr : w.ownsRow lo t sz v n xs) (ht : t = 54 ∨ t = 3) : Kg w w' := fun b hb hh =>
  hg.block b hb (fun ev => by
    obtain ⟨_, j2 | ⟨q, c, cur, rfl, _, hq, _⟩⟩ := hr
    · rw [j2.1] at ev; cases ev
    · simp [Value.ownBlock] at ev
      subst ev
      have := hh _ _ _ hq
      rcases ht with ht | ht
      · exact this.1 ht
      · exact this.2.1 ht)
theorem Kg.set {w : World} {B i : Nat} {cs : Array Value} {t : TypeId} {fr : Nat × Nat} (hB : w.heap[B]? = some (.cells cs t fr)) (ht : t = 62 ∨ t = 24) (u : Value) : Kg w (w.setCell ⟨B, i, none⟩ u) := fun b _ hh =>
  Below.heap_setCell _ _ _ _ (fun e => by
    have e' : b = B := e
    subst e'
    have := hh _ _ _ hB
    rcases ht with ht | ht
    · exact this.2.2.2 ht
    · exact this.2.2.1 ht)
theorem Kg.of_below {w w' : World} (h : Below w.heap.size w w') : Kg w w' := fun b hb _ => h.block b hb
theorem Lds.keep {lo g : Nat} {w w' : World} {S : List Value} {E : List Eg} (h : Lds lo w g S E) (hg : w'.heap[g]? = w.heap[g]?) (hr : ∀ s ∈ S, ∀ b, s.ownBlock = some b → w'.heap[b]? = w.heap[b]?) : Lds lo w' g S E :=
  ⟨hg.trans h.blk, h.low, fun j s hs => own_block (h.row j s hs) (hr s (List.mem_of_getElem? hs)), h.dis⟩
theorem Gst.keep {lo B mb g : Nat} {w w' : World} {r m f ve : Value} {S : List Value} {F E : List Eg} {N : Nat} {DM : DataW Unit} (h : Gst lo B mb g w r m f ve S F E N DM) (hb : ∀ b, b < w.heap.size → w'.heap[b]? = w.heap[b]?) : Gst lo B mb g w' r m f ve S F E N DM :=
  ⟨(hb B (Array.getElem?_eq_some_iff.1 h.blk).1).trans h.blk, h.low, own_block h.edg (fun b e => hb b (h.edg.lt b e).2),
   h.lds.keep (hb g (Array.getElem?_eq_some_iff.1 h.lds.blk).1) (fun s hs b e => by
     obtain ⟨j, hj, rfl⟩ := List.getElem_of_mem hs
     exact hb b ((h.lds.row j _ (List.getElem?_eq_getElem hj)).lt b e).2), h.len, (Kg.of_keep hb).map h.sto⟩
theorem Gst.alloc {lo B mb g : Nat} {w : World} {r m f ve : Value} {S : List Value} {F E : List Eg} {N : Nat} {DM : DataW Unit} (h : Gst lo B mb g w r m f ve S F E N DM) (o : Obj) : Gst lo B mb g (w.alloc o) r m f ve S F E N DM :=
  h.keep (fun _ hb => old_blk w o hb)
theorem Gst.below {lo B mb g : Nat} {w w' : World} {r m f ve : Value} {S : List Value} {F E : List Eg} {N : Nat} {DM : DataW Unit} (h : Gst lo B mb g w r m f ve S F E N DM) (hb : Below w.heap.size w w') : Gst lo B mb g w' r m f ve S F E N DM :=
  h.keep (fun b h => hb.block b h)
theorem Gst.lt {lo B mb g : Nat} {w : World} {r m f ve : Value} {S : List Value} {F E : List Eg} {N : Nat} {DM : DataW Unit} (h : Gst lo B mb g w r m f ve S F E N DM) : B < w.heap.size ∧ g < w.heap.size ∧ lo ≤ g :=
  ⟨(Array.getElem?_eq_some_iff.1 h.blk).1, (Array.getElem?_eq_some_iff.1 h.lds.blk).1, h.lds.low⟩
theorem Gst.cells {lo B mb g : Nat} {w : World} {r m f ve : Value} {S : List Value} {F E : List Eg} {N : Nat} {DM : DataW Unit} (h : Gst lo B mb g w r m f ve S F E N DM) :
    w.cell? ⟨B, 0, none⟩ = some r ∧ w.cell? ⟨B, 1, none⟩ = some m ∧ w.cell? ⟨B, 2, none⟩ = some f ∧ w.cell? ⟨B, 3, none⟩ = some (.map (some mb)) ∧ w.cell? ⟨B, 4, none⟩ = some ve ∧ w.cell? ⟨B, 5, none⟩ = some (.slice (some ⟨g, 0, none⟩) N N) ∧ w.frozen? ⟨B, 4, none⟩ = false := by
  have hb := h.blk
  simp [World.cell?, World.frozen?, hb]
theorem grown_heap {w w' : World} (hg : w.grownBy w' (none : Option Nat)) : ∀ b, b < w.heap.size → w'.heap[b]? = w.heap[b]? := fun b hb => hg.block b hb (fun e => by cases e)
/-- The row of edges has one more; nothing else that was there has turned but the graph's box. -/
theorem Gst.edge {lo B mb g ge cap : Nat} {w w2 w3 : World} {r m f ve : Value} {S : List Value} {F E : List Eg} {N : Nat} {DM : DataW Unit} (h : Gst lo B mb g w r m f ve S F E N DM) {e : Eg}
    (ho : w2.ownsRow lo 54 3 (.slice (some ⟨ge, 0, none⟩) (F.length + 1) cap) (F.length + 1) (F.flatMap egR ++ egR e)) (hg : w.grownBy w2 ve.ownBlock)
    (h3 : w3 = w2.setCell ⟨B, 4, none⟩ (.slice (some ⟨ge, 0, none⟩) (F.length + 1) cap)) : Gst lo B mb g w3 r m f (.slice (some ⟨ge, 0, none⟩) (F.length + 1) cap) S (F ++ [e]) E N DM := by
  have kB : w2.heap[B]? = w.heap[B]? := hg.block B h.lt.1 (fun ev => blk_ne h.blk h.edg (by decide) ev.symm)
  have kc : ∀ b, b < w.heap.size → b ≠ B → (∀ cs t fr, w.heap[b]? = some (.cells cs t fr) → t ≠ 54) → w3.heap[b]? = w.heap[b]? := fun b hb hne ht => by
    rw [h3, Below.heap_setCell _ _ _ _ hne]
    refine hg.block b hb (fun ev => ?_)
    obtain ⟨_, j2 | ⟨q, c, cur, rfl, _, hq, _⟩⟩ := h.edg
    · rw [j2.1] at ev; cases ev
    · simp [Value.ownBlock] at ev
      subst ev
      exact ht _ _ _ hq rfl
  have blkof : ∀ {t : TypeId} {sz n : Nat} {v : Value} {xs : List Value}, w.ownsRow lo t sz v n xs → t ≠ 54 → t ≠ 62 → ∀ b, v.ownBlock = some b → w3.heap[b]? = w.heap[b]? := fun {t sz n v xs} hr h1 h2 b hb => by
    obtain ⟨_, j2 | ⟨q, c, cur, rfl, _, hq, _⟩⟩ := hr
    · rw [j2.1] at hb; cases hb
    · simp [Value.ownBlock] at hb
      subst hb
      refine kc _ (Array.getElem?_eq_some_iff.1 hq).1 (fun e => ?_) (fun cs t' fr hh => ?_)
      · rw [e, h.blk] at hq; simp at hq; exact h2 hq.2.symm
      · rw [hq] at hh; simp at hh; rw [← hh.2.1]; exact h1
  refine ⟨?_, h.low, ?_, ?_, h.len, ?_⟩
  · rw [h3, heap_setCell_same w2 B 4 _ _ _ (kB.trans h.blk)]; rfl
  · rw [h3]
    refine own_block (w := w2) ?_ (fun b hb => Below.heap_setCell _ _ _ _ (fun e' => blk_ne (kB.trans h.blk) ho (by decide) (by rw [hb]; exact congrArg some e')))
    rw [List.length_append, List.length_singleton, List.flatMap_append]
    simpa using ho
  · exact h.lds.keep (w' := w3) (kc g h.lt.2.1 (fun e => by have h1 := h.lds.blk; rw [e, h.blk] at h1; simp at h1) (fun cs t fr hh => by rw [h.lds.blk] at hh; simp at hh; rw [← hh.2.1]; decide)) (fun s hs b hb => by
      obtain ⟨j, hj, rfl⟩ := List.getElem_of_mem hs
      exact blkof (h.lds.row j _ (List.getElem?_eq_getElem hj)) (by decide) (by decide) b hb)
  · have k : Kg w w3 := fun b hb ht => kc b hb (fun e => by subst e; exact (ht _ _ _ h.blk).2.2.2 rfl) (fun cs t fr hh => (ht cs t fr hh).1)
    exact k.map h.sto
/-- An edge that leads nowhere is in no row. -/
theorem Gst.skip {lo B mb g : Nat} {w : World} {r m f ve : Value} {S : List Value} {F E : List Eg} {N : Nat} {DM : DataW Unit} (h : Gst lo B mb g w r m f ve S F E N DM) {e : Eg} (hto : ¬ 0 ≤ e.to) : Gst lo B mb g w r m f ve S F (E ++ [e]) N DM := by
  have hl : ∀ j, leadsOf (E ++ [e]) j = leadsOf E j := fun j => by rw [leadsOf_snoc, if_neg (fun h => hto h.2), List.append_nil]
  exact ⟨h.blk, h.low, h.edg, ⟨h.lds.blk, h.lds.low, fun j s hs => by rw [hl j]; exact h.lds.row j s hs, h.lds.dis⟩, h.len, h.sto⟩
/-- .. and the row of the module that it leads from, too. -/
theorem Gst.lead {lo B mb g gs cap : Nat} {w w2 w3 : World} {r m f ve s : Value} {S : List Value} {F E : List Eg} {N : Nat} {DM : DataW Unit} {e : Eg} {i t : Nat} (hi : e.src = (i : Int)) (ht : e.to = (t : Int))
    (h : Gst lo B mb g w r m f ve S F E N DM) (hs : S[i]? = some s)
    (ho : w2.ownsRow lo 3 1 (.slice (some ⟨gs, 0, none⟩) ((leadsOf E i).length + 1) cap) ((leadsOf E i).length + 1) ((leadsOf E i).map numV ++ [numV t])) (hg : w.grownBy w2 s.ownBlock) (hat : s.ownBlock = some gs ∨ w.heap.size ≤ gs)
    (h3 : w3 = w2.setCell ⟨g, i, none⟩ (.slice (some ⟨gs, 0, none⟩) ((leadsOf E i).length + 1) cap)) : Gst lo B mb g w3 r m f ve (S.set i (.slice (some ⟨gs, 0, none⟩) ((leadsOf E i).length + 1) cap)) F (E ++ [e]) N DM := by
  have he := h.edg
  have hl : ∀ j, leadsOf (E ++ [e]) j = leadsOf E j ++ (if i = j then [t] else []) := fun j => by
    rw [leadsOf_snoc]
    by_cases hij : i = j
    · rw [if_pos ⟨by rw [hi, hij], by omega⟩, if_pos hij, ht]; rfl
    · rw [if_neg (fun h => hij (by have := h.1; omega)), if_neg hij]
  have hil : i < S.length := by
    rcases Nat.lt_or_ge i S.length with h1 | h1
    · exact h1
    · rw [List.getElem?_eq_none h1] at hs; cases hs
  have hrow := h.lds.row i s hs
  have kg : w2.heap[g]? = w.heap[g]? := hg.block g h.lt.2.1 (fun ev => blk_ne h.lds.blk hrow (by decide) ev.symm)
  have kc : ∀ b, b < w.heap.size → b ≠ g → s.ownBlock ≠ some b → w3.heap[b]? = w.heap[b]? := fun b hb hne ht => by
    rw [h3, Below.heap_setCell _ _ _ _ hne]
    exact hg.block b hb (fun ev => ht ev.symm)
  have kt : ∀ (b : Nat) (cs : Array Value) (t : TypeId) (fr : Nat × Nat), w.heap[b]? = some (.cells cs t fr) → t ≠ 24 → t ≠ 3 → w3.heap[b]? = w.heap[b]? := fun b cs t fr hh h1 h2 => by
    refine kc b (Array.getElem?_eq_some_iff.1 hh).1 (fun e => ?_) (fun ev => blk_ne hh hrow h2 ev)
    rw [e, h.lds.blk] at hh; simp at hh; exact h1 hh.2.1.symm
  refine ⟨?_, h.low, ?_, ⟨?_, h.lds.low, ?_, ?_⟩, by rw [List.length_set]; exact h.len, ?_⟩
  · rw [kt B _ _ _ h.blk (by decide) (by decide)]; exact h.blk
  · refine own_block he (fun b hb => ?_)
    obtain ⟨_, j2 | ⟨q, c, cur, rfl, _, hq, _⟩⟩ := he
    · rw [j2.1] at hb; cases hb
    · simp [Value.ownBlock] at hb
      subst hb
      exact kt _ _ _ _ hq (by decide) (by decide)
  · rw [h3, heap_setCell_same w2 g i _ _ _ (kg.trans h.lds.blk)]
    simp
  · intro j s' hs'
    rw [hl j]
    by_cases hij : i = j
    · subst hij
      rw [List.getElem?_set_self hil] at hs'
      cases hs'
      rw [if_pos rfl, List.length_append, List.length_singleton, List.map_append, List.map_singleton, h3]
      exact own_block ho (fun b hb => Below.heap_setCell _ _ _ _ (fun e' => blk_ne (kg.trans h.lds.blk) ho (by decide) (by rw [hb]; exact congrArg some e')))
    · rw [List.getElem?_set_ne hij] at hs'
      rw [if_neg hij, List.append_nil]
      have h1 := h.lds.row j s' hs'
      exact own_block h1 (fun b hb => kc b (h1.lt b hb).2 (fun e' => blk_ne h.lds.blk h1 (by decide) (by rw [hb, e'])) (fun e' => h.lds.dis i j s s' b hs hs' hij e' hb))
  · intro a b x y q hx hy hab hq
    by_cases ha : i = a
    · subst ha
      rw [List.getElem?_set_self hil] at hx
      cases hx
      rw [List.getElem?_set_ne hab] at hy
      simp [Value.ownBlock] at hq
      subst hq
      rcases hat with hat | hat
      · exact h.lds.dis _ _ _ _ _ hs hy hab hat
      · intro hyb
        have := ((h.lds.row b y hy).lt _ hyb).2
        omega
    · rw [List.getElem?_set_ne ha] at hx
      by_cases hb : i = b
      · subst hb
        rw [List.getElem?_set_self hil] at hy
        cases hy
        intro hyb
        simp [Value.ownBlock] at hyb
        subst hyb
        rcases hat with hat | hat
        · exact h.lds.dis _ _ _ _ _ hx hs hab hq hat
        · have := ((h.lds.row a x hx).lt _ hq).2
          omega
      · rw [List.getElem?_set_ne hb] at hy
        exact h.lds.dis _ _ _ _ _ hx hy hab hq
  · have k : Kg w w3 := fun b hb ht => kc b hb (fun e => by subst e; exact (ht _ _ _ h.lds.blk).2.2.1 rfl) (fun ev => by
      obtain ⟨_, j2 | ⟨q, c, cur, rfl, _, hq, _⟩⟩ := hrow
      · rw [j2.1] at ev; cases ev
      · simp [Value.ownBlock] at ev
        subst ev
        exact (ht _ _ _ hq).2.1 rfl)
    exact k.map h.sto
end Go.Proofs.YtimgafblpmjajabGreat
namespace Go.Proofs.YtimgafblpmjajabGreat
open Go.RowKit Go.Maps

theorem addTry_name {out : List (List UInt8)} {x : Int × List UInt8} (h : ∀ t ∈ out, t.length ≤ 60) (hx : x.2.length ≤ 60) : ∀ t ∈ Pl.addTry out x, t.length ≤ 60 := by
  unfold Pl.addTry
  split
  · split
    · exact h
    · intro t ht
      rcases List.mem_append.1 ht with ht | ht
      · exact h t ht
      · simp at ht; subst ht; exact hx
  · exact h
theorem foldTry_name (n : List UInt8) : ∀ (L : List (List UInt8)) (out : List (List UInt8)), (∀ t ∈ out, t.length ≤ 60) → ∀ t ∈ L.foldl (fun out r => Pl.addTry out (Pl.nm [] (Pl.rooted r n))) out, t.length ≤ 60
  | [], _, h => h
  | _ :: L, _, h => foldTry_name n L _ (addTry_name h (Pl.nm_len _ _))
theorem Pl.tries_name (L : List (List UInt8)) (f s : List UInt8) : ∀ t ∈ Pl.tries L f s, t.length ≤ 60 := by
  unfold Pl.tries
  split
  · simp
  · split
    · split
      · intro t ht
        simp at ht
        subst ht
        unfold Pl.wn
        split
        · exact Pl.nm_len _ _
        · simp
      · simp
    · split
      · exact foldTry_name _ L [] (by simp)
      · simp

theorem look_at {w : World} {mb n : Nat} {DM : DataW Unit} (h : w.ownsMap Tryz.prog 106 (plainElem Tryz.prog 3) mb n DM) {key : Value} {kl : Lit} (hkey : keyOf Tryz.prog 106 key = some kl) :
    ∃ c : Int, (Instr.lookup 59 (.map (some mb)) key true).run Tryz.prog w = .ok (.tuple #[.int .i64 c, .bool (Maps.has DM kl)]) w ∧ DM.atKey kl (.lit (.int .i64 0)) = .lit (.int .i64 c) := by
  obtain ⟨v, ps, hrun, hv⟩ := h.look_ok (t := 59) (e := 3) lawK Tryz.underlying59 (zero3 _) (zd := .lit (.int .i64 0)) (zp := []) (plainElem_int Tryz.underlying3 (by decide)) hkey
  obtain ⟨c, rfl, hc, _⟩ := plainElem_int_inv Tryz.underlying3 hv
  exact ⟨c, hrun, congrArg Prod.fst hc⟩

set_option maxHeartbeats 4000000 in
set_option maxRecDepth 100000 in
theorem find_any {lo B mb g : Nat} {w : World} {r m f ve : Value} {S : List Value} {F E : List Eg} {D : Wd} {DM : DataW Unit} (h : Gst lo B mb g w r m f ve S F E D.mods.length DM) (hr : Strs w r D.roots) (hsh : Shelved D.mods D.mods.length DM) (hpl : Placed D.mods D.mods.length DM)
    (fb nb : ByteArray) (hrt : Pl.total D.roots ≤ 1048576) (hn : nb.size ≤ 1048576) :
    Calls Tryz.prog 37 #[.pointer (some ⟨B, 0, none⟩), .string fb, .string nb] w fun e w' => e = .returned (.int .i64 (toOf D fb.data.toList nb.data.toList)) ∧ Below w.heap.size w w' := by
  obtain ⟨c0, c1, c2, c3, c4, c5, cf⟩ := h.cells
  have hlt := h.lt
  have htr := formsToTry_any r D.roots fb nb w hr hrt hn
  obtain ⟨R, hR⟩ : ∃ R, R = toOf D fb.data.toList nb.data.toList := ⟨_, rfl⟩
  have hT8 := Pl.tries_len D.roots fb.data.toList nb.data.toList
  have hTn := Pl.tries_name D.roots fb.data.toList nb.data.toList
  rw [← hR]
  unfold toOf at hR
  obtain ⟨T, hT⟩ : ∃ T, T = Pl.tries D.roots fb.data.toList nb.data.toList := ⟨_, rfl⟩
  rw [← hT] at htr hT8 hR hTn
  obtain ⟨ar, cr, rfl⟩ := hr.slice
  have HR : Hid (R = thereT D T) := hR
  have HTN : Hid (∀ t ∈ T, t.length ≤ 60) := hTn
  have HSH : Hid (Shelved D.mods D.mods.length DM) := hsh
  have HPL : Hid (Placed D.mods D.mods.length DM) := hpl
  have HM : Hid (w.ownsMap Tryz.prog 106 (plainElem Tryz.prog 3) mb D.mods.length DM) := h.sto
  have hmb : mb < w.heap.size := h.sto.lt
  clear hr hsh hpl hR hT hTn hrt hn c1 c2 c4 c5 cf h
  go_enter Tryz.func37, Tryz.ntmps37
  go_wp2_with fail
  refine htr.mono ?_
  rintro e w1 ⟨vt, rfl, hr, hb1⟩
  obtain ⟨at', capt, rfl, hcapt, hmx, hcell⟩ := row_shape49 hr
  have HC : Hid (∀ k, (hk : k < T.length) → ∃ g, at' = some ⟨g, 0, none⟩ ∧ w.heap.size ≤ g ∧ g < w1.heap.size ∧ w1.cell? ⟨g, k, none⟩ = some (strV T[k])) := hcell
  clear hcell hr hmx htr
  go_wp2
  go_loopw [20] (fun i wr => ∃ k : Nat, k ≤ T.length ∧ i = .int .i64 k ∧ Hid (∀ j (hj : j < T.length), j < k → ¬ D.idx T[j] < D.mods.length) ∧ Below w1.heap.size w1 wr) (fun i _ => T.length - (intOf i).toNat)
  case atStart => exact ⟨0, Nat.zero_le _, rfl, fun j _ h => absurd h (by omega), Below.refl _ _⟩
  case round =>
    obtain ⟨k, hk, rfl, hno, hB⟩ := hrel
    have hBW : Below w.heap.size w wr := hb1.trans (hB.mono hb1.size)
    by_cases hlk : k < T.length
    · obtain ⟨gt, rfl, hg0, hg, hc⟩ := HC.out k hlk
      obtain ⟨q, hq⟩ : ∃ q : ByteArray, q.data.toList = T[k] := ⟨⟨T[k].toArray⟩, by simp⟩
      have hcq : wr.cell? ⟨gt, k, none⟩ = some (.string q) := by rw [hB.cell (p := ⟨gt, k, none⟩) hg, hc, ← hq, strV_data]
      have x3 := below_cell0 hBW hlt.1 c3
      have hlen : T[k].length ≤ 60 := HTN.out _ (List.getElem_mem hlk)
      have hkey := key_mk hq (by rw [size_data, hq]; unfold maxLen; omega)
      have hown := map_below HM.out hBW hmb
      have HHAS : Hid (Maps.has DM (keyL T[k]) = decide (D.idx T[k] < D.mods.length)) := has_idx HSH.out (by omega)
      have HQ : Hid (q.data.toList = T[k]) := hq
      obtain ⟨kl, hkl⟩ : ∃ kl, kl = keyL T[k] := ⟨_, rfl⟩
      rw [← hkl] at hkey HHAS
      have HKL : Hid (kl = keyL T[k]) := hkl
      obtain ⟨V, hV⟩ : ∃ V, V = wr.alloc (.cells #[.string q] 106) := ⟨_, rfl⟩
      have z3 : V.cell? ⟨B, 3, none⟩ = some (.map (some mb)) := by rw [hV]; exact below_cell0 ((Below.refl wr.heap.size wr).alloc (Nat.le_refl _) _) (by have := hBW.size; omega) x3
      have z0 : V.cell? ⟨wr.heap.size, 0, none⟩ = some (.string q) := by rw [hV]; simp [go_sem]
      have hownV : V.ownsMap Tryz.prog 106 (plainElem Tryz.prog 3) mb D.mods.length DM := by rw [hV]; exact hown.alloc _
      have HV : Hid (V = wr.alloc (.cells #[.string q] 106)) := hV
      have hVB : Below w1.heap.size w1 V := by rw [hV]; exact hB.alloc hB.size _
      have hVW : Below w.heap.size w V := by rw [hV]; exact hBW.alloc hBW.size _
      clear hkl hq hc hV hown
      by_cases hin : D.idx T[k] < D.mods.length
      · have HTK : Hid (Maps.has DM kl = true) := by unfold Hid; rw [HHAS.out]; simpa using hin
        have HAT : Hid (DM.atKey kl (.lit (.int .i64 0)) = .lit (.int .i64 (D.idx T[k] : Int))) := by unfold Hid; rw [HKL.out]; exact at_idx HPL.out hin
        have HE : Hid (R = (D.idx T[k] : Int)) := by
          unfold Hid
          rw [HR.out, thereT_miss D T k hno.out, List.drop_eq_getElem_cons hlk, thereT, if_pos hin]
        obtain ⟨c, hlk, hat⟩ := look_at (w := V.drew) hownV hkey
        have HC2 : Hid (c = (D.idx T[k] : Int)) := by unfold Hid; rw [HAT.out] at hat; simpa using hat.symm
        rw [HTK.out] at hlk
        clear hin hat hownV hkey
        go_wp2
        rw [← HV.out]
        go_region
        go_wp2
        go_ret
        exact ⟨ret_int (by rw [HE.out, HC2.out]), hVW.drew⟩
      · have HTK : Hid (Maps.has DM kl = false) := by unfold Hid; rw [HHAS.out]; simpa using hin
        have HIN : Hid (¬ D.idx T[k] < D.mods.length) := hin
        obtain ⟨c, hlk, hat⟩ := look_at (w := V.drew) hownV hkey
        rw [HTK.out] at hlk
        clear hin hat hownV hkey
        go_wp2
        rw [← HV.out]
        go_region
        go_wp2
        go_roundw
        case rel => exact ⟨k + 1, by omega, by go_num, fun j hj hjk => by
          by_cases hjk' : j = k
          · subst hjk'; exact HIN.out
          · exact hno.out j hj (by omega), hVB.drew⟩
        case measure => simp [intOf]; omega
    · have HE : Hid (R = -1) := by
        unfold Hid
        rw [HR.out, thereT_miss D T k hno.out, List.drop_eq_nil_of_le (by omega), thereT]
      go_wp2
      go_ret
      exact ⟨ret_int HE.out.symm, hBW⟩
end Go.Proofs.YtimgafblpmjajabGreat
