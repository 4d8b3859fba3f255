
import Derived.Test.YtimgafblpmjajabGreatWos

import Derived.Test.YtimgafblpmjajabGreatWeg

import Derived.Test.YtimgafblpmjajabGreatTriesS

import Derived.Test.YtimgafblpmjajabGreatTriesW

namespace Go.Proofs.YtimgafblpmjajabGreat

open Go.RowKit

/-- The place of the first that p says yes to; the length for none. -/
def place {α : Type} (p : α → Bool) : List α → Nat
  | [] => 0
  | x :: r => if p x then 0 else place p r + 1
theorem place_le {α : Type} (p : α → Bool) : ∀ L : List α, place p L ≤ L.length
  | [] => Nat.le_refl _
  | x :: r => by
    rw [place]
    split
    · simp
    · have := place_le p r; simp; omega
theorem place_lt {α : Type} {p : α → Bool} : ∀ {L : List α} (h : place p L < L.length), p L[place p L] = true
  | [], h => absurd h (by simp)
  | x :: r, h => by
    by_cases hx : p x = true
    · have : place p (x :: r) = 0 := by rw [place, if_pos hx]
      simp only [this, List.getElem_cons_zero]; exact hx
    · have e : place p (x :: r) = place p r + 1 := by rw [place, if_neg hx]
      have h' : place p r < r.length := by rw [e] at h; simpa using h
      simp only [e, List.getElem_cons_succ]; exact place_lt h'
theorem place_miss {α : Type} {p : α → Bool} {L : List α} : ∀ {j : Nat} (hj : j < L.length), j < place p L → p L[j] = false := by
  induction L with
  | nil => intro j hj; exact absurd hj (by simp)
  | cons x r ih =>
    intro j hj h
    by_cases hx : p x = true
    · rw [place, if_pos hx] at h; omega
    · rw [place, if_neg hx] at h
      cases j with
      | zero => simpa using hx
      | succ j =>
        have := ih (j := j) (by simpa using hj) (by omega)
        simpa using this
theorem place_hit {α : Type} {p : α → Bool} : ∀ {L : List α} {k : Nat} (hk : k < L.length), (∀ j (hj : j < L.length), j < k → p L[j] = false) → p L[k] = true → place p L = k
  | [], _, hk, _, _ => absurd hk (by simp)
  | x :: r, 0, _, _, h => by rw [place, if_pos (by simpa using h)]
  | x :: r, k + 1, hk, hall, h => by
    have h0 := hall 0 (by simp) (by omega)
    rw [place, if_neg (by simpa using h0), place_hit (k := k) (by simpa using hk) (fun j hj hjk => by have := hall (j + 1) (by simpa using hj) (by omega); simpa using this) (by simpa using h)]
theorem place_none {α : Type} {p : α → Bool} : ∀ {L : List α}, (∀ j (hj : j < L.length), p L[j] = false) → place p L = L.length
  | [], _ => rfl
  | x :: r, h => by
    have h0 := h 0 (by simp)
    rw [place, if_neg (by simpa using h0), place_none (fun j hj => by have := h (j + 1) (by simpa using hj); simpa using this)]; rfl

def Wd.idx (D : Wd) (n : List UInt8) : Nat := place (fun s => decide (s.name = n)) D.mods
def sIdx (i len : Nat) : Int := if i < len then (i : Int) else -1

set_option maxHeartbeats 2000000 in
set_option maxRecDepth 100000 in
theorem l2find_any (v : Value) (D : Wd) (n : ByteArray) (w : World) (h : Wds w v D) (hl : D.mods.length ≤ 1048576) :
    Calls Tryz.prog 48 #[v, .string n] w fun e w' => e = .returned (.int .i64 (sIdx (D.idx n.data.toList) D.mods.length)) ∧ Below w.heap.size w w' := by
  obtain ⟨vr, vm, vf, rfl, h1, h2, h3⟩ := h
  obtain ⟨a1, k1, rfl⟩ := h1.slice
  obtain ⟨a3, k3, rfl⟩ := h3.slice
  obtain ⟨a, cap, rfl, hcap, hmax, hc⟩ := h2
  have HC : Hid (∀ k, (hk : k < D.mods.length) → ∃ b o s, a = some ⟨b, o, none⟩ ∧ b < w.heap.size ∧
    w.cell? ⟨b, o + k * 2, none⟩ = some (strV D.mods[k].name) ∧ w.cell? ⟨b, o + k * 2 + 1, none⟩ = some s ∧ Lns w s D.mods[k].lines) := hc
  obtain ⟨R, hR⟩ : ∃ R, R = sIdx (D.idx n.data.toList) D.mods.length := ⟨_, rfl⟩
  rw [← hR]
  have HR : Hid (R = sIdx (D.idx n.data.toList) D.mods.length) := hR
  clear hc hR hmax h1 h3
  go_enter Tryz.func48, Tryz.ntmps48
  go_wp2
  go_loopw [10] (fun i wr => ∃ k : Nat, k ≤ D.mods.length ∧ i = .int .i64 k ∧ (∀ j (hj : j < D.mods.length), j < k → decide (D.mods[j].name = n.data.toList) = false) ∧ Below w.heap.size w wr) (fun i _ => D.mods.length - (intOf i).toNat)
  case atStart => exact ⟨0, Nat.zero_le _, rfl, fun j _ h => absurd h (by omega), (Below.refl _ _).alloc (Nat.le_refl _) _⟩
  case round =>
    obtain ⟨k, hk, rfl, hno, hB⟩ := hrel
    have HNO : Hid (∀ j (hj : j < D.mods.length), j < k → decide (D.mods[j].name = n.data.toList) = false) := hno
    clear hno
    by_cases hlt : k < D.mods.length
    · obtain ⟨b, o, v, rfl, hb, h0, h1, h2⟩ := HC.out k hlt
      obtain ⟨av, cv, rfl⟩ := h2.slice
      have d0 := (hB.cell (p := ⟨b, o + k * 2, none⟩) hb).trans h0
      have d1 := (hB.cell (p := ⟨b, o + k * 2 + 1, none⟩) hb).trans h1
      obtain ⟨s, hs⟩ : ∃ s : ByteArray, s.data.toList = D.mods[k].name := ⟨⟨D.mods[k].name.toArray⟩, by simp⟩
      have hsv : strV D.mods[k].name = .string s := by rw [← hs, strV_data]
      rw [hsv] at d0
      have hbq := str_beq hs (rfl : n.data.toList = n.data.toList)
      clear h0 h1 h2 hsv
      by_cases he : D.mods[k].name = n.data.toList
      · obtain rfl : s = n := str_eq (hs.trans he) rfl
        have HK : Hid (R = k) := by
          unfold Hid
          rw [HR.out, sIdx]
          have : D.idx s.data.toList = k := place_hit hlt HNO.out (by simpa using he)
          rw [this, if_pos hlt]
        clear hbq he hs
        go_wp2
        go_ret
        exact ⟨ret_int HK.out.symm, hB.alloc hB.size _⟩
      · have hne : (s.toList == n.toList) = false := by rw [hbq]; simpa using he
        have HE : Hid (¬ D.mods[k].name = n.data.toList) := he
        clear hbq he hs
        go_wp2
        go_roundw
        case rel => exact ⟨k + 1, by omega, by go_num, fun j hj hjk => by
          by_cases hjk' : j = k
          · subst hjk'; simpa using HE.out
          · exact HNO.out j hj (by omega), hB.alloc hB.size _⟩
        case measure => simp [intOf]; omega
    · have HK : Hid (R = -1) := by
        unfold Hid
        rw [HR.out, sIdx]
        have : D.idx n.data.toList = D.mods.length := place_none (fun j hj => HNO.out j hj (by omega))
        rw [this, if_neg (by omega)]
      go_wp2
      go_ret
      exact ⟨ret_int HK.out.symm, hB⟩

/-- The first of the names that is there at all. -/
def thereT (D : Wd) : List (List UInt8) → Int
  | [] => -1
  | n :: r => if D.idx n < D.mods.length then (D.idx n : Int) else thereT D r
def toOf (D : Wd) (f n : List UInt8) : Int := thereT D (Pl.tries D.roots f n)
theorem thereT_miss (D : Wd) : ∀ (T : List (List UInt8)) (k : Nat), (∀ j (hj : j < T.length), j < k → ¬ D.idx T[j] < D.mods.length) → thereT D T = thereT D (T.drop k)
  | _, 0, _ => by rw [List.drop_zero]
  | [], _ + 1, _ => by simp
  | n :: r, k + 1, h => by
    have h0 := h 0 (by simp) (by omega)
    rw [thereT, if_neg (by simpa using h0), List.drop_succ_cons]
    exact thereT_miss D r k (fun j hj hjk => by have := h (j + 1) (by simpa using hj) (by omega); simpa using this)
/-- The edges of a module's lines, of the modules. -/
def lineE (D : Wd) (i : Nat) (nm : List UInt8) : Nat → List Ln → List Eg
  | _, [] => []
  | k, l :: r => (if l.op = 3 ∨ l.op = 4 then [⟨(i : Int), (k : Int), toOf D nm l.name⟩] else []) ++ lineE D i nm (k + 1) r
def modE (D : Wd) : Nat → List Md → List Eg
  | _, [] => []
  | i, m :: r => lineE D i m.name 0 m.lines ++ modE D (i + 1) r
def edgesOf (D : Wd) : List Eg := if (wok D).1 = 0 then modE D 0 D.mods else []
theorem lineE_snoc (D : Wd) (i : Nat) (nm : List UInt8) (l : Ln) : ∀ (L : List Ln) (k : Nat), lineE D i nm k (L ++ [l]) = lineE D i nm k L ++ (if l.op = 3 ∨ l.op = 4 then [⟨(i : Int), ((k + L.length : Nat) : Int), toOf D nm l.name⟩] else [])
  | [], k => by simp [lineE]
  | x :: r, k => by
    rw [List.cons_append, lineE, lineE_snoc D i nm l r (k + 1), lineE, List.append_assoc, List.length_cons]
    rw [show k + 1 + r.length = k + (r.length + 1) by omega]
theorem lineE_app (D : Wd) (i : Nat) (nm : List UInt8) : ∀ (L R : List Ln) (k : Nat), lineE D i nm k (L ++ R) = lineE D i nm k L ++ lineE D i nm (k + L.length) R
  | [], R, k => by simp [lineE]
  | x :: r, R, k => by
    rw [List.cons_append, lineE, lineE_app D i nm r R (k + 1), lineE, List.append_assoc, List.length_cons]
    rw [show k + 1 + r.length = k + (r.length + 1) by omega]
theorem modE_snoc (D : Wd) (m : Md) : ∀ (M : List Md) (i : Nat), modE D i (M ++ [m]) = modE D i M ++ lineE D (i + M.length) m.name 0 m.lines
  | [], i => by simp [modE]
  | x :: r, i => by
    rw [List.cons_append, modE, modE_snoc D m r (i + 1), modE, List.append_assoc, List.length_cons]
    rw [show i + 1 + r.length = i + (r.length + 1) by omega]
theorem lineE_len (D : Wd) (i : Nat) (nm : List UInt8) : ∀ (L : List Ln) (k : Nat), (lineE D i nm k L).length ≤ L.length
  | [], _ => by simp [lineE]
  | x :: r, k => by
    have := lineE_len D i nm r (k + 1)
    rw [lineE, List.length_append, List.length_cons]
    split <;> simp <;> omega
theorem modE_len (D : Wd) : ∀ (M : List Md) (i : Nat), (modE D i M).length ≤ lineN M
  | [], _ => by simp [modE]
  | x :: r, i => by
    have h1 := modE_len D r (i + 1)
    have h2 := lineE_len D i x.name x.lines 0
    have h3 : lineN (x :: r) = x.lines.length + lineN r := by unfold lineN; simp
    rw [modE, List.length_append]; omega
theorem edgesOf_len (D : Wd) (hD : D.t ≤ 1048576) : (edgesOf D).length ≤ 1048576 := by
  unfold edgesOf
  split
  · have h1 := modE_len D D.mods 0
    have h2 := lineN_le D.mods
    unfold Wd.t at hD; omega
  · simp

set_option maxHeartbeats 4000000 in
set_option maxRecDepth 100000 in
theorem l4ok_any (v : Value) (D : Wd) (w : World) (h : Wds w v D) (hD : D.t ≤ 1048576) :
    Calls Tryz.prog 25 #[v] w fun e w' => e = .returned (.bool (decide ((wok D).1 = 0))) ∧ Below w.heap.size w w' := by
  obtain ⟨a1, a2, a3, k1, k2, k3, rfl⟩ : ∃ a1 a2 a3 k1 k2 k3, v = .agg #[.slice a1 D.roots.length k1, .slice a2 D.mods.length k2, .slice a3 D.faults.length k3] := by
    obtain ⟨r, m, f, rfl, h1, h2, h3⟩ := h
    obtain ⟨a1, k1, rfl⟩ := h1.slice
    obtain ⟨a2, k2, rfl⟩ := h2.slice
    obtain ⟨a3, k3, rfl⟩ := h3.slice
    exact ⟨a1, a2, a3, k1, k2, k3, rfl⟩
  obtain ⟨W, hW⟩ : ∃ W, W = w.alloc (.cells #[.slice a1 D.roots.length k1, .slice a2 D.mods.length k2, .slice a3 D.faults.length k3] 32) := ⟨_, rfl⟩
  have hWB : Below w.heap.size w W := by rw [hW]; exact (Below.refl _ _).alloc (Nat.le_refl _) _
  have hs := specWorldOk_any _ D W (h.below hWB (Nat.le_refl _)) hD
  obtain ⟨rc, rm, rl, hrr⟩ : ∃ rc rm rl, wok D = (rc, rm, rl) := ⟨_, _, _, rfl⟩
  have hwv : wrongV (wok D) = .agg #[.int .i64 rc, .int .i64 rm, .int .i64 rl] := by rw [hrr]; rfl
  rw [hwv] at hs
  have HD : Hid ((wok D).1 = rc) := by unfold Hid; rw [hrr]
  have HW : Hid (W = w.alloc (.cells #[.slice a1 D.roots.length k1, .slice a2 D.mods.length k2, .slice a3 D.faults.length k3] 32)) := hW
  rw [HD.out]
  obtain ⟨d, hd⟩ : ∃ d, (rc == 0) = d := ⟨_, rfl⟩
  have HDD : Hid (d = decide (rc = 0)) := by unfold Hid; rw [← hd, Bool.eq_iff_iff]; simp
  clear hW h hrr hwv
  go_enter Tryz.func25, Tryz.ntmps25
  go_wp2_with fail
  rw [← HW.out]
  refine hs.mono ?_
  rintro e w1 ⟨rfl, hb⟩
  go_wp2
  go_ret
  exact ⟨ret_bool HDD.out, (hWB.trans (hb.mono hWB.size)).alloc (by have := hb.size; have := hWB.size; omega) _⟩
end Go.Proofs.YtimgafblpmjajabGreat
