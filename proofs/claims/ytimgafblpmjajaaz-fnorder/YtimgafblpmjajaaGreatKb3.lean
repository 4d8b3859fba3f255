import Derived.Maps.AppendAt
import Derived.Deep.LoopGhost
import Derived.Laws.Bits64b
import Derived.Deep.RegionWith
import Derived.Deep.RegionLaw
import Derived.Deep.AppendLies
import Derived.Test.YtimgafblpmjajaaGreatKb2
namespace Go.Proofs.YtimgafblpmjajaaGreat

open Go.RowKit

/-- The place of the first that p says yes to; the length for none. -/
def place {α : Type} (p : α → Bool) : List α → Nat
  | [] => 0
  | x :: r => if p x then 0 else place p r + 1
theorem place_le {α : Type} (p : α → Bool) : ∀ L : List α, place p L ≤ L.length
  | [] => Nat.le_refl _
  | x :: r => by
    rw [place]
    split
    · simp
    · have := place_le p r; simp; omega
theorem place_lt {α : Type} {p : α → Bool} : ∀ {L : List α} (h : place p L < L.length), p L[place p L] = true
  | [], h => absurd h (by simp)
  | x :: r, h => by
    by_cases hx : p x = true
    · have : place p (x :: r) = 0 := by rw [place, if_pos hx]
      simp only [this, List.getElem_cons_zero]; exact hx
    · have e : place p (x :: r) = place p r + 1 := by rw [place, if_neg hx]
      have h' : place p r < r.length := by rw [e] at h; simpa using h
      simp only [e, List.getElem_cons_succ]; exact place_lt h'
theorem place_miss {α : Type} {p : α → Bool} {L : List α} : ∀ {j : Nat} (hj : j < L.length), j < place p L → p L[j] = false := by
  induction L with
  | nil => intro j hj; exact absurd hj (by simp)
  | cons x r ih =>
    intro j hj h
    by_cases hx : p x = true
    · rw [place, if_pos hx] at h; omega
    · rw [place, if_neg hx] at h
      cases j with
      | zero => simpa using hx
      | succ j =>
        have := ih (j := j) (by simpa using hj) (by omega)
        simpa using this
theorem place_hit {α : Type} {p : α → Bool} : ∀ {L : List α} {k : Nat} (hk : k < L.length), (∀ j (hj : j < L.length), j < k → p L[j] = false) → p L[k] = true → place p L = k
  | [], _, hk, _, _ => absurd hk (by simp)
  | x :: r, 0, _, _, h => by rw [place, if_pos (by simpa using h)]
  | x :: r, k + 1, hk, hall, h => by
    have h0 := hall 0 (by simp) (by omega)
    rw [place, if_neg (by simpa using h0), place_hit (k := k) (by simpa using hk) (fun j hj hjk => by have := hall (j + 1) (by simpa using hj) (by omega); simpa using this) (by simpa using h)]
theorem place_none {α : Type} {p : α → Bool} : ∀ {L : List α}, (∀ j (hj : j < L.length), p L[j] = false) → place p L = L.length
  | [], _ => rfl
  | x :: r, h => by
    have h0 := h 0 (by simp)
    rw [place, if_neg (by simpa using h0), place_none (fun j hj => by have := h (j + 1) (by simpa using hj); simpa using this)]; rfl

def Wd.idx (D : Wd) (n : List UInt8) : Nat := place (fun s => decide (s.name = n)) D.mods
def sIdx (i len : Nat) : Int := if i < len then (i : Int) else -1

set_option maxHeartbeats 2000000 in
set_option maxRecDepth 100000 in
theorem l2find_any (v : Value) (D : Wd) (n : ByteArray) (w : World) (h : Wds w v D) (hl : D.mods.length ≤ 1048576) :
    Calls Tryz.prog 27 #[v, .string n] w fun e w' => e = .returned (.int .i64 (sIdx (D.idx n.data.toList) D.mods.length)) ∧ Below w.heap.size w w' := by
  obtain ⟨vr, vm, vf, rfl, h1, h2, h3⟩ := h
  obtain ⟨a1, k1, rfl⟩ := h1.slice
  obtain ⟨a3, k3, rfl⟩ := h3.slice
  obtain ⟨a, cap, rfl, hcap, hmax, hc⟩ := h2
  have HC : Hid (∀ k, (hk : k < D.mods.length) → ∃ b o s, a = some ⟨b, o, none⟩ ∧ b < w.heap.size ∧
    w.cell? ⟨b, o + k * 2, none⟩ = some (strV D.mods[k].name) ∧ w.cell? ⟨b, o + k * 2 + 1, none⟩ = some s ∧ Lns w s D.mods[k].lines) := hc
  obtain ⟨R, hR⟩ : ∃ R, R = sIdx (D.idx n.data.toList) D.mods.length := ⟨_, rfl⟩
  rw [← hR]
  have HR : Hid (R = sIdx (D.idx n.data.toList) D.mods.length) := hR
  clear hc hR hmax h1 h3
  go_enter Tryz.func27, Tryz.ntmps27
  go_wp2
  go_loopw [10] (fun i wr => ∃ k : Nat, k ≤ D.mods.length ∧ i = .int .i64 k ∧ (∀ j (hj : j < D.mods.length), j < k → decide (D.mods[j].name = n.data.toList) = false) ∧ Below w.heap.size w wr) (fun i _ => D.mods.length - (intOf i).toNat)
  case atStart => exact ⟨0, Nat.zero_le _, rfl, fun j _ h => absurd h (by omega), (Below.refl _ _).alloc (Nat.le_refl _) _⟩
  case round =>
    obtain ⟨k, hk, rfl, hno, hB⟩ := hrel
    have HNO : Hid (∀ j (hj : j < D.mods.length), j < k → decide (D.mods[j].name = n.data.toList) = false) := hno
    clear hno
    by_cases hlt : k < D.mods.length
    · obtain ⟨b, o, v, rfl, hb, h0, h1, h2⟩ := HC.out k hlt
      obtain ⟨av, cv, rfl⟩ := h2.slice
      have d0 := (hB.cell (p := ⟨b, o + k * 2, none⟩) hb).trans h0
      have d1 := (hB.cell (p := ⟨b, o + k * 2 + 1, none⟩) hb).trans h1
      obtain ⟨s, hs⟩ : ∃ s : ByteArray, s.data.toList = D.mods[k].name := ⟨⟨D.mods[k].name.toArray⟩, by simp⟩
      have hsv : strV D.mods[k].name = .string s := by rw [← hs, strV_data]
      rw [hsv] at d0
      have hbq := str_beq hs (rfl : n.data.toList = n.data.toList)
      clear h0 h1 h2 hsv
      by_cases he : D.mods[k].name = n.data.toList
      · obtain rfl : s = n := str_eq (hs.trans he) rfl
        have HK : Hid (R = k) := by
          unfold Hid
          rw [HR.out, sIdx]
          have : D.idx s.data.toList = k := place_hit hlt HNO.out (by simpa using he)
          rw [this, if_pos hlt]
        clear hbq he hs
        go_wp2
        go_ret
        exact ⟨ret_int HK.out.symm, hB.alloc hB.size _⟩
      · have hne : (s.toList == n.toList) = false := by rw [hbq]; simpa using he
        have HE : Hid (¬ D.mods[k].name = n.data.toList) := he
        clear hbq he hs
        go_wp2
        go_roundw
        case rel => exact ⟨k + 1, by omega, by go_num, fun j hj hjk => by
          by_cases hjk' : j = k
          · subst hjk'; simpa using HE.out
          · exact HNO.out j hj (by omega), hB.alloc hB.size _⟩
        case measure => simp [intOf]; omega
    · have HK : Hid (R = -1) := by
        unfold Hid
        rw [HR.out, sIdx]
        have : D.idx n.data.toList = D.mods.length := place_none (fun j hj => HNO.out j hj (by omega))
        rw [this, if_neg (by omega)]
      go_wp2
      go_ret
      exact ⟨ret_int HK.out.symm, hB⟩

/-- The first of the names that is there at all. -/
def thereT (D : Wd) : List (List UInt8) → Int
  | [] => -1
  | n :: r => if D.idx n < D.mods.length then (D.idx n : Int) else thereT D r
def toOf (D : Wd) (f n : List UInt8) : Int := thereT D (Pl.tries D.roots f n)
theorem thereT_miss (D : Wd) : ∀ (T : List (List UInt8)) (k : Nat), (∀ j (hj : j < T.length), j < k → ¬ D.idx T[j] < D.mods.length) → thereT D T = thereT D (T.drop k)
  | _, 0, _ => by rw [List.drop_zero]
  | [], _ + 1, _ => by simp
  | n :: r, k + 1, h => by
    have h0 := h 0 (by simp) (by omega)
    rw [thereT, if_neg (by simpa using h0), List.drop_succ_cons]
    exact thereT_miss D r k (fun j hj hjk => by have := h (j + 1) (by simpa using hj) (by omega); simpa using this)
/-- The edges of a module's lines, of the modules. -/
def lineE (D : Wd) (i : Nat) (nm : List UInt8) : Nat → List Ln → List Eg
  | _, [] => []
  | k, l :: r => (if l.op = 3 ∨ l.op = 4 then [⟨(i : Int), (k : Int), toOf D nm l.name⟩] else []) ++ lineE D i nm (k + 1) r
def modE (D : Wd) : Nat → List Md → List Eg
  | _, [] => []
  | i, m :: r => lineE D i m.name 0 m.lines ++ modE D (i + 1) r
def edgesOf (D : Wd) : List Eg := if (wok D).1 = 0 then modE D 0 D.mods else []
theorem lineE_snoc (D : Wd) (i : Nat) (nm : List UInt8) (l : Ln) : ∀ (L : List Ln) (k : Nat), lineE D i nm k (L ++ [l]) = lineE D i nm k L ++ (if l.op = 3 ∨ l.op = 4 then [⟨(i : Int), ((k + L.length : Nat) : Int), toOf D nm l.name⟩] else [])
  | [], k => by simp [lineE]
  | x :: r, k => by
    rw [List.cons_append, lineE, lineE_snoc D i nm l r (k + 1), lineE, List.append_assoc, List.length_cons]
    rw [show k + 1 + r.length = k + (r.length + 1) by omega]
theorem lineE_app (D : Wd) (i : Nat) (nm : List UInt8) : ∀ (L R : List Ln) (k : Nat), lineE D i nm k (L ++ R) = lineE D i nm k L ++ lineE D i nm (k + L.length) R
  | [], R, k => by simp [lineE]
  | x :: r, R, k => by
    rw [List.cons_append, lineE, lineE_app D i nm r R (k + 1), lineE, List.append_assoc, List.length_cons]
    rw [show k + 1 + r.length = k + (r.length + 1) by omega]
theorem modE_snoc (D : Wd) (m : Md) : ∀ (M : List Md) (i : Nat), modE D i (M ++ [m]) = modE D i M ++ lineE D (i + M.length) m.name 0 m.lines
  | [], i => by simp [modE]
  | x :: r, i => by
    rw [List.cons_append, modE, modE_snoc D m r (i + 1), modE, List.append_assoc, List.length_cons]
    rw [show i + 1 + r.length = i + (r.length + 1) by omega]
theorem lineE_len (D : Wd) (i : Nat) (nm : List UInt8) : ∀ (L : List Ln) (k : Nat), (lineE D i nm k L).length ≤ L.length
  | [], _ => by simp [lineE]
  | x :: r, k => by
    have := lineE_len D i nm r (k + 1)
    rw [lineE, List.length_append, List.length_cons]
    split <;> simp <;> omega
theorem modE_len (D : Wd) : ∀ (M : List Md) (i : Nat), (modE D i M).length ≤ lineN M
  | [], _ => by simp [modE]
  | x :: r, i => by
    have h1 := modE_len D r (i + 1)
    have h2 := lineE_len D i x.name x.lines 0
    have h3 : lineN (x :: r) = x.lines.length + lineN r := by unfold lineN; simp
    rw [modE, List.length_append]; omega
theorem edgesOf_len (D : Wd) (hD : D.t ≤ 1048576) : (edgesOf D).length ≤ 1048576 := by
  unfold edgesOf
  split
  · have h1 := modE_len D D.mods 0
    have h2 := lineN_le D.mods
    unfold Wd.t at hD; omega
  · simp

set_option maxHeartbeats 4000000 in
set_option maxRecDepth 100000 in
theorem l4ok_any (v : Value) (D : Wd) (w : World) (h : Wds w v D) (hD : D.t ≤ 1048576) :
    Calls Tryz.prog 15 #[v] w fun e w' => e = .returned (.bool (decide ((wok D).1 = 0))) ∧ Below w.heap.size w w' := by
  obtain ⟨a1, a2, a3, k1, k2, k3, rfl⟩ : ∃ a1 a2 a3 k1 k2 k3, v = .agg #[.slice a1 D.roots.length k1, .slice a2 D.mods.length k2, .slice a3 D.faults.length k3] := by
    obtain ⟨r, m, f, rfl, h1, h2, h3⟩ := h
    obtain ⟨a1, k1, rfl⟩ := h1.slice
    obtain ⟨a2, k2, rfl⟩ := h2.slice
    obtain ⟨a3, k3, rfl⟩ := h3.slice
    exact ⟨a1, a2, a3, k1, k2, k3, rfl⟩
  obtain ⟨W, hW⟩ : ∃ W, W = w.alloc (.cells #[.slice a1 D.roots.length k1, .slice a2 D.mods.length k2, .slice a3 D.faults.length k3] 27) := ⟨_, rfl⟩
  have hWB : Below w.heap.size w W := by rw [hW]; exact (Below.refl _ _).alloc (Nat.le_refl _) _
  have hs := specWorldOk_any _ D W (h.below hWB (Nat.le_refl _)) hD
  obtain ⟨rc, rm, rl, hrr⟩ : ∃ rc rm rl, wok D = (rc, rm, rl) := ⟨_, _, _, rfl⟩
  have hwv : wrongV (wok D) = .agg #[.int .i64 rc, .int .i64 rm, .int .i64 rl] := by rw [hrr]; rfl
  rw [hwv] at hs
  have HD : Hid ((wok D).1 = rc) := by unfold Hid; rw [hrr]
  have HW : Hid (W = w.alloc (.cells #[.slice a1 D.roots.length k1, .slice a2 D.mods.length k2, .slice a3 D.faults.length k3] 27)) := hW
  rw [HD.out]
  obtain ⟨d, hd⟩ : ∃ d, (rc == 0) = d := ⟨_, rfl⟩
  have HDD : Hid (d = decide (rc = 0)) := by unfold Hid; rw [← hd, Bool.eq_iff_iff]; simp
  clear hW h hrr hwv
  go_enter Tryz.func15, Tryz.ntmps15
  go_wp2_with fail
  rw [← HW.out]
  refine hs.mono ?_
  rintro e w1 ⟨rfl, hb⟩
  go_wp2
  go_ret
  exact ⟨ret_bool HDD.out, (hWB.trans (hb.mono hWB.size)).alloc (by have := hb.size; have := hWB.size; omega) _⟩
end Go.Proofs.YtimgafblpmjajaaGreat
namespace Go.Proofs.YtimgafblpmjajaaGreat

open Go.RowKit

theorem Wds.agg' {w : World} {v : Value} {D : Wd} (h : Wds w v D) : ∃ a1 a2 a3 k1 k2 k3, v = .agg #[.slice a1 D.roots.length k1, .slice a2 D.mods.length k2, .slice a3 D.faults.length k3] := by
  obtain ⟨r, m, f, rfl, h1, h2, h3⟩ := h
  obtain ⟨a1, k1, rfl⟩ := h1.slice
  obtain ⟨a2, k2, rfl⟩ := h2.slice
  obtain ⟨a3, k3, rfl⟩ := h3.slice
  exact ⟨a1, a2, a3, k1, k2, k3, rfl⟩
theorem cells3 (w : World) (u0 u1 u2 : Value) (t : TypeId) : (w.alloc (.cells #[u0, u1, u2] t)).cell? ⟨w.heap.size, 0, none⟩ = some u0 ∧ (w.alloc (.cells #[u0, u1, u2] t)).cell? ⟨w.heap.size, 1, none⟩ = some u1 ∧ (w.alloc (.cells #[u0, u1, u2] t)).cell? ⟨w.heap.size, 2, none⟩ = some u2 := by
  simp [go_sem]

set_option maxHeartbeats 4000000 in
set_option maxRecDepth 100000 in
theorem l4to_any (v : Value) (D : Wd) (f n : ByteArray) (w : World) (h : Wds w v D) (hD : D.t ≤ 1048576) (hf : f.size ≤ 1048576) (hn : n.size ≤ 1048576) :
    Calls Tryz.prog 16 #[v, .string f, .string n] w fun e w' => e = .returned (.int .i64 (toOf D f.data.toList n.data.toList)) ∧ Below w.heap.size w w' := by
  obtain ⟨a1, a2, a3, k1, k2, k3, rfl⟩ := h.agg'
  obtain ⟨W, hW⟩ : ∃ W, W = w.alloc (.cells #[.slice a1 D.roots.length k1, .slice a2 D.mods.length k2, .slice a3 D.faults.length k3] 27) := ⟨_, rfl⟩
  have hWB : Below w.heap.size w W := by rw [hW]; exact (Below.refl _ _).alloc (Nat.le_refl _) _
  have hWs : W.heap.size = w.heap.size + 1 := by rw [hW]; simp
  have hc3 := cells3 w (.slice a1 D.roots.length k1) (.slice a2 D.mods.length k2) (.slice a3 D.faults.length k3) 27
  rw [← hW] at hc3
  have hWd := h.below hWB (Nat.le_refl _)
  have HWD : Hid (Wds W (.agg #[.slice a1 D.roots.length k1, .slice a2 D.mods.length k2, .slice a3 D.faults.length k3]) D) := hWd
  have hroots : Strs W (.slice a1 D.roots.length k1) D.roots := by
    obtain ⟨r, m, f, hv, h1, h2, h3⟩ := hWd
    have : r = .slice a1 D.roots.length k1 := by simp at hv; exact hv.1.symm
    rw [← this]; exact h1
  have hml : D.mods.length ≤ 1048576 := by unfold Wd.t mdsT at hD; omega
  have hrt : Pl.total D.roots ≤ 1048576 := by unfold Wd.t at hD; omega
  have htr := specTries_any _ D.roots f n W hroots hrt hf hn
  obtain ⟨R, hR⟩ : ∃ R, R = toOf D f.data.toList n.data.toList := ⟨_, rfl⟩
  have hT8 := Pl.tries_len D.roots f.data.toList n.data.toList
  rw [← hR]
  unfold toOf at hR
  obtain ⟨T, hT⟩ : ∃ T, T = Pl.tries D.roots f.data.toList n.data.toList := ⟨_, rfl⟩
  rw [← hT] at htr hT8 hR
  have HR : Hid (R = thereT D T) := hR
  have HW : Hid (W = w.alloc (.cells #[.slice a1 D.roots.length k1, .slice a2 D.mods.length k2, .slice a3 D.faults.length k3] 27)) := hW
  have HT60 : Hid (∀ (x : ByteArray) (V : World), Wds V (.agg #[.slice a1 D.roots.length k1, .slice a2 D.mods.length k2, .slice a3 D.faults.length k3]) D → Calls Tryz.prog 27 #[.agg #[.slice a1 D.roots.length k1, .slice a2 D.mods.length k2, .slice a3 D.faults.length k3], .string x] V fun e w' => e = .returned (.int .i64 (sIdx (D.idx x.data.toList) D.mods.length)) ∧ Below V.heap.size V w') := fun x V hV => l2find_any _ D x V hV hml
  clear hW h hWd hroots hR hT hD hrt
  go_enter Tryz.func16, Tryz.ntmps16
  go_wp2_with fail
  rw [← HW.out]
  refine htr.mono ?_
  rintro e w1 ⟨vt, rfl, hr, hb1⟩
  obtain ⟨at', capt, rfl, hcapt, hmx, hcell⟩ := row_shape hr
  have HC : Hid (∀ k, (hk : k < T.length) → ∃ g, at' = some ⟨g, 0, none⟩ ∧ W.heap.size ≤ g ∧ g < w1.heap.size ∧ w1.cell? ⟨g, k, none⟩ = some (strV T[k])) := hcell
  clear hcell hr hmx htr
  go_wp2
  go_loopw [16] (fun i wr => ∃ k : Nat, k ≤ T.length ∧ i = .int .i64 k ∧ Hid (∀ j (hj : j < T.length), j < k → ¬ D.idx T[j] < D.mods.length) ∧ Below w1.heap.size w1 wr) (fun i _ => T.length - (intOf i).toNat)
  case atStart => exact ⟨0, Nat.zero_le _, rfl, fun j _ h => absurd h (by omega), Below.refl _ _⟩
  case round =>
    obtain ⟨k, hk, rfl, hno, hB⟩ := hrel
    have hBW : Below W.heap.size W wr := hb1.trans (hB.mono hb1.size)
    by_cases hlt : k < T.length
    · obtain ⟨g, rfl, hg0, hg, hc⟩ := HC.out k hlt
      obtain ⟨q, hq⟩ : ∃ q : ByteArray, q.data.toList = T[k] := ⟨⟨T[k].toArray⟩, by simp⟩
      have hcq : wr.cell? ⟨g, k, none⟩ = some (.string q) := by rw [hB.cell (p := ⟨g, k, none⟩) hg, hc, ← hq, strV_data]
      have x0 := below_cell0 hBW (by omega) hc3.1
      have x1 := below_cell0 hBW (by omega) hc3.2.1
      have x2 := below_cell0 hBW (by omega) hc3.2.2
      have hcall := HT60.out q wr (HWD.out.below hBW (Nat.le_refl _))
      rw [hq] at hcall
      by_cases hin : D.idx T[k] < D.mods.length
      · have hsx : sIdx (D.idx T[k]) D.mods.length = (D.idx T[k] : Int) := by rw [sIdx, if_pos hin]
        rw [hsx] at hcall
        have HE : Hid (R = (D.idx T[k] : Int)) := by
          unfold Hid
          rw [HR.out, thereT_miss D T k hno.out, List.drop_eq_getElem_cons hlt, thereT, if_pos hin]
        obtain ⟨ix, hix⟩ : ∃ ix, ix = D.idx T[k] := ⟨_, rfl⟩
        rw [← hix] at hcall HE
        clear hc hq hsx hin hix
        go_wp2_with fail
        refine hcall.mono ?_
        rintro e w2 ⟨rfl, hb2⟩
        go_wp2
        go_ret
        exact ⟨ret_int HE.out.symm, hWB.trans ((hBW.trans (hb2.mono hBW.size)).mono hWB.size)⟩
      · have hsx : sIdx (D.idx T[k]) D.mods.length = -1 := by rw [sIdx, if_neg hin]
        rw [hsx] at hcall
        have HE : Hid (∀ j (hj : j < T.length), j < k + 1 → ¬ D.idx T[j] < D.mods.length) := fun j hj hjk => by
          by_cases hjk' : j = k
          · subst hjk'; exact hin
          · exact hno.out j hj (by omega)
        clear hc hq hsx hin
        go_wp2_with fail
        refine hcall.mono ?_
        rintro e w2 ⟨rfl, hb2⟩
        go_wp2
        go_roundw
        case rel => exact ⟨k + 1, by omega, by go_num, HE, hB.trans (hb2.mono hB.size)⟩
        case measure => simp [intOf]; omega
    · have HE : Hid (R = -1) := by
        unfold Hid
        rw [HR.out, thereT_miss D T k hno.out, List.drop_of_length_le (by omega)]; rfl
      go_wp2
      go_ret
      exact ⟨ret_int HE.out.symm, hWB.trans (hBW.mono hWB.size)⟩
end Go.Proofs.YtimgafblpmjajaaGreat
namespace Go.Proofs.YtimgafblpmjajaaGreat

open Go.RowKit

theorem Tryz.info75 : (Tryz.prog.info? 33).map (fun i => (i.zero, i.size, i.bytes)) = some (some (.agg #[.int .i64 0, .int .i64 0, .int .i64 0]), 3, 24) := by kernel_rfl
theorem grown_keep {w w' : World} {row : Option Nat} {b : Nat} (hg : w.grownBy w' row) (hb : b < w.heap.size) (hne : row ≠ some b) : w'.heap[b]? = w.heap[b]? := hg.block b hb (fun e => hne e.symm)
theorem new_blk (w : World) (o : Obj) : (w.alloc o).heap[w.heap.size]? = some o := by show (w.heap.push o)[w.heap.size]? = some o; simp
theorem egR_snoc (F : List Eg) (a b c : Int) : (F ++ [(⟨a, b, c⟩ : Eg)]).flatMap egR = F.flatMap egR ++ [.int .i64 a, .int .i64 b, .int .i64 c] := by simp [egR]
theorem old_blk (w : World) (o : Obj) {b : Nat} (h : b < w.heap.size) : (w.alloc o).heap[b]? = w.heap[b]? := ((Below.refl w.heap.size w).alloc (Nat.le_refl _) o).block b h
theorem blk_ne {w : World} {B : Nat} {cs : Array Value} {t e : TypeId} {fr : Nat × Nat} {base size n : Nat} {v : Value} {xs : List Value} (hB : w.heap[B]? = some (.cells cs t fr)) (h : w.ownsRow base e size v n xs) (hne : t ≠ e) : v.ownBlock ≠ some B := fun hv => by
  rcases h.2 with ⟨rfl, _⟩ | ⟨g, cap, cur, rfl, _, hg, _⟩
  · simp [Value.ownBlock] at hv
  · simp [Value.ownBlock] at hv
    subst hv
    rw [hB] at hg
    simp at hg
    exact hne hg.2.1
theorem new3' (w : World) (a b c : Value) (t : TypeId) : ∀ j u, [a, b, c][j]? = some u → (w.alloc (.cells #[a, b, c] t)).cell? ((⟨w.heap.size, 0, none⟩ : Addr).add j) = some u := by
  intro j u hj
  match j with
  | 0 => simp at hj; subst hj; simp [Addr.add]
  | 1 => simp at hj; subst hj; simp [Addr.add]
  | 2 => simp at hj; subst hj; simp [Addr.add]
  | j + 3 => simp at hj

set_option maxHeartbeats 8000000 in
set_option maxRecDepth 100000 in
theorem specEdges_any (v : Value) (D : Wd) (w : World) (h : Wds w v D) (hD : D.t ≤ 1048576) :
    Calls Tryz.prog 6 #[v] w fun e w' => ∃ v', e = .returned v' ∧ w'.ownsRow w.heap.size 33 3 v' (edgesOf D).length ((edgesOf D).flatMap egR) ∧ Below w.heap.size w w' := by
  obtain ⟨i75, hi, hz0, hz1, hz2⟩ := info_parts Tryz.info75
  obtain ⟨a1, a2, a3, k1, k2, k3, rfl⟩ := h.agg'
  obtain ⟨W, hW⟩ : ∃ W, W = w.alloc (.cells #[.slice a1 D.roots.length k1, .slice a2 D.mods.length k2, .slice a3 D.faults.length k3] 27) := ⟨_, rfl⟩
  have hWB : Below w.heap.size w W := by rw [hW]; exact (Below.refl _ _).alloc (Nat.le_refl _) _
  have hWs : W.heap.size = w.heap.size + 1 := by rw [hW]; simp
  have hc3 := cells3 w (.slice a1 D.roots.length k1) (.slice a2 D.mods.length k2) (.slice a3 D.faults.length k3) 27
  rw [← hW] at hc3
  have hWd := h.below hWB (Nat.le_refl _)
  have HWD : Hid (Wds W (.agg #[.slice a1 D.roots.length k1, .slice a2 D.mods.length k2, .slice a3 D.faults.length k3]) D) := hWd
  have hmods : Mds W (.slice a2 D.mods.length k2) D.mods := by
    obtain ⟨r, m, f, hv, h1, h2, h3⟩ := hWd
    have : m = .slice a2 D.mods.length k2 := by simp at hv; exact hv.2.1.symm
    rw [← this]; exact h2
  have hok := l4ok_any _ D W hWd hD
  have hml : D.mods.length ≤ 1048576 := by unfold Wd.t mdsT at hD; omega
  have HW : Hid (W = w.alloc (.cells #[.slice a1 D.roots.length k1, .slice a2 D.mods.length k2, .slice a3 D.faults.length k3] 27)) := hW
  have HTO : Hid (∀ (f n : ByteArray) (V : World), Wds V (.agg #[.slice a1 D.roots.length k1, .slice a2 D.mods.length k2, .slice a3 D.faults.length k3]) D → f.size ≤ 1048576 → n.size ≤ 1048576 → Calls Tryz.prog 16 #[.agg #[.slice a1 D.roots.length k1, .slice a2 D.mods.length k2, .slice a3 D.faults.length k3], .string f, .string n] V fun e w' => e = .returned (.int .i64 (toOf D f.data.toList n.data.toList)) ∧ Below V.heap.size V w') := fun f n V hV hf hn => l4to_any _ D f n V hV hD hf hn
  have hmt : mdsT D.mods ≤ 1048576 := by unfold Wd.t at hD; omega
  have HLE : Hid (lineN D.mods ≤ 1048576) := by unfold Hid; have := lineN_le D.mods; omega
  have HMS : Hid (∀ m ∈ D.mods, m.t ≤ 1048576) := fun m hm => by
    have h1 : m.t ≤ (D.mods.map Md.t).sum := mem_le_sum _ _ (List.mem_map.2 ⟨m, hm, rfl⟩)
    unfold mdsT at hmt; omega
  clear hW h hWd hmt
  by_cases hgood : (wok D).1 = 0
  · have hdec : decide ((wok D).1 = 0) = true := by simpa using hgood
    rw [hdec] at hok
    have hE : edgesOf D = modE D 0 D.mods := by unfold edgesOf; rw [if_pos hgood]
    rw [hE]
    obtain ⟨am, capm, hvm, hcapm, hmaxm, hcm⟩ := hmods
    have HCM : Hid (∀ k, (hk : k < D.mods.length) → ∃ b o s, a2 = some ⟨b, o, none⟩ ∧ b < W.heap.size ∧
      W.cell? ⟨b, o + k * 2, none⟩ = some (strV D.mods[k].name) ∧ W.cell? ⟨b, o + k * 2 + 1, none⟩ = some s ∧ Lns W s D.mods[k].lines) := by
      cases hvm; exact hcm
    have hk2 : D.mods.length ≤ k2 := by cases hvm; exact hcapm
    clear hdec hgood hE hcm hvm hmaxm hcapm
    go_enter Tryz.func6, Tryz.ntmps6
    go_wp2_with fail
    rw [← HW.out]
    refine hok.mono ?_
    rintro e w1 ⟨rfl, hb1⟩
    have x1 := below_cell0 hb1 (by omega) hc3.2.1
    go_wp2
    go_loopw [3, 14] (fun vo i wr => ∃ k : Nat, k ≤ D.mods.length ∧ i = .int .i64 k ∧ wr.ownsRow W.heap.size 33 3 vo (modE D 0 (D.mods.take k)).length ((modE D 0 (D.mods.take k)).flatMap egR) ∧ Below W.heap.size W wr) (fun _ i _ => D.mods.length - (intOf i).toNat)
    case atStart => exact ⟨0, Nat.zero_le _, rfl, World.ownsRow_nil _ _ _ _, hb1⟩
    case round =>
      obtain ⟨k, hk, rfl, hown, hB⟩ := hrel
      by_cases hlt : k < D.mods.length
      · obtain ⟨b, o, ls, rfl, hb, h0, h1, h2⟩ := HCM.out k hlt
        obtain ⟨la, lcap, rfl⟩ := h2.slice
        obtain ⟨hs1, hs2, hs3⟩ := Md.small (HMS.out _ (List.getElem_mem hlt))
        obtain ⟨ns, hns⟩ : ∃ ns : ByteArray, ns.data.toList = D.mods[k].name := ⟨⟨D.mods[k].name.toArray⟩, by simp⟩
        have hnv : strV D.mods[k].name = .string ns := by rw [← hns, strV_data]
        rw [hnv] at h0
        have hnsz : ns.size ≤ 1048576 := by rw [size_data, hns]; exact hs1
        have y0 := below_cell0 hB hb h0
        have y1 := below_cell0 hB hb h1
        obtain ⟨L, hL⟩ : ∃ L, L = D.mods[k].lines := ⟨_, rfl⟩
        have hEk : modE D 0 (D.mods.take (k + 1)) = modE D 0 (D.mods.take k) ++ lineE D k D.mods[k].name 0 D.mods[k].lines := by
          rw [List.take_succ_eq_append_getElem hlt, modE_snoc, List.length_take, Nat.min_eq_left (by omega), Nat.zero_add]
        have hEl : (modE D 0 (D.mods.take (k + 1))).length ≤ 1048576 := by
          have e1 := modE_len D (D.mods.take (k + 1)) 0
          have e2 := lineN_mono D.mods (k + 1)
          have e3 := HLE.out
          omega
        rw [← hL, ← hns] at hEk
        rw [← hL] at h2 hs2 hs3 y1
        obtain ⟨E, hE⟩ : ∃ E, E = modE D 0 (D.mods.take k) := ⟨_, rfl⟩
        rw [← hE] at hown hEk
        obtain ⟨NM, hNM⟩ : ∃ NM, NM = ns.data.toList := ⟨_, rfl⟩
        rw [← hNM] at hEk
        have HEK : Hid (modE D 0 (D.mods.take (k + 1)) = E ++ lineE D k NM 0 L) := hEk
        have HNM : Hid (NM = ns.data.toList) := hNM
        have hEL2 : (E ++ lineE D k NM 0 L).length ≤ 1048576 := by rw [← hEk]; exact hEl
        have hsplit : ∀ q, q ≤ L.length → (E ++ lineE D k NM 0 (L.take q)).length ≤ (E ++ lineE D k NM 0 L).length := fun q hq => by
          have : lineE D k NM 0 L = lineE D k NM 0 (L.take q) ++ lineE D k NM q (L.drop q) := by
            have h := lineE_app D k NM (L.take q) (L.drop q) 0
            rw [List.take_append_drop, List.length_take, Nat.min_eq_left hq, Nat.zero_add] at h
            exact h
          rw [this]; simp only [List.length_append]; omega
        have HSP : Hid (∀ q, q ≤ L.length → (E ++ lineE D k NM 0 (L.take q)).length ≤ 1048576) := fun q hq => Nat.le_trans (hsplit q hq) hEL2
        obtain ⟨al, capl, hvl, hcapl, hmaxl, hcl⟩ := h2
        have HCL : Hid (∀ q, (hq : q < L.length) → ∃ b o, la = some ⟨b, o, none⟩ ∧ b < W.heap.size ∧
          W.cell? ⟨b, o + q * 4, none⟩ = some (.int .i64 L[q].op) ∧ W.cell? ⟨b, o + q * 4 + 1, none⟩ = some (strV L[q].name) ∧ W.cell? ⟨b, o + q * 4 + 2, none⟩ = some (.int .i64 L[q].num) ∧ W.cell? ⟨b, o + q * 4 + 3, none⟩ = some (.int .i64 L[q].skip)) := by
          cases hvl; exact hcl
        have hlc : L.length ≤ lcap := by cases hvl; exact hcapl
        have HS3 : Hid (∀ l ∈ L, l.name.length ≤ 1048576) := hs3
        have hszB := hB.size
        clear h0 h1 hs1 hnv hns hL hEk hEl hE hNM hEL2 hsplit hvl hcapl hmaxl hcl hs3
        have HE0 : Hid (E ++ lineE D k NM 0 (L.take 0) = E) := by unfold Hid; simp [lineE]
        obtain ⟨wo, rfl⟩ : ∃ wo, wo = wr := ⟨_, rfl⟩
        go_wp2
        go_loopw [3, 22] (fun vo j wi => ∃ q : Nat, q ≤ L.length ∧ j = .int .i64 q ∧ wi.ownsRow W.heap.size 33 3 vo (E ++ lineE D k NM 0 (L.take q)).length ((E ++ lineE D k NM 0 (L.take q)).flatMap egR) ∧ Below W.heap.size W wi ∧ wo.heap.size < wi.heap.size ∧ wi.heap[wo.heap.size]? = some (.cells #[.string ns, .slice la L.length lcap] 39 (0, 0))) (fun _ j _ => L.length - (intOf j).toNat)
        case atStart => exact ⟨0, Nat.zero_le _, rfl, by rw [HE0.out]; exact hown.alloc _, hB.alloc hszB _, by simp, new_blk _ _⟩
        case round =>
          obtain ⟨q, hq, rfl, hown2, hB2, hzi, hbx⟩ := hrel
          have hszB2 := hB2.size
          have z0' : wr.cell? ⟨wo.heap.size, 0, none⟩ = some (.string ns) := by simp [World.cell?, hbx]
          have z0 := fun o' => below_cell0 ((Below.refl wr.heap.size wr).alloc (Nat.le_refl _) o') hzi z0'
          clear z0'
          have x0 := fun o' => below_cell0 ((Below.refl wr.heap.size wr).alloc (Nat.le_refl _) o') (by omega) (below_cell0 hB2 (by omega) hc3.1)
          have x1 := fun o' => below_cell0 ((Below.refl wr.heap.size wr).alloc (Nat.le_refl _) o') (by omega) (below_cell0 hB2 (by omega) hc3.2.1)
          have x2 := fun o' => below_cell0 ((Below.refl wr.heap.size wr).alloc (Nat.le_refl _) o') (by omega) (below_cell0 hB2 (by omega) hc3.2.2)
          by_cases hlq : q < L.length
          · obtain ⟨b', o', rfl, hb', l0, l1, l2, l3⟩ := HCL.out q hlq
            obtain ⟨ln, hln⟩ : ∃ ln : ByteArray, ln.data.toList = L[q].name := ⟨⟨L[q].name.toArray⟩, by simp⟩
            have hlv : strV L[q].name = .string ln := by rw [← hln, strV_data]
            rw [hlv] at l1
            have hlnsz : ln.size ≤ 1048576 := by rw [size_data, hln]; exact HS3.out _ (List.getElem_mem hlq)
            have m0 := below_cell0 hB2 hb' l0
            have m1 := below_cell0 hB2 hb' l1
            have m2 := below_cell0 hB2 hb' l2
            have m3 := below_cell0 hB2 hb' l3
            have hsn : E ++ lineE D k NM 0 (L.take (q + 1)) = (E ++ lineE D k NM 0 (L.take q)) ++ (if L[q].op = 3 ∨ L[q].op = 4 then [⟨(k : Int), (q : Int), toOf D NM L[q].name⟩] else []) := by
              rw [List.take_succ_eq_append_getElem hlq, lineE_snoc, List.length_take, Nat.min_eq_left (by omega), Nat.zero_add, List.append_assoc]
            rw [← hln] at hsn
            have hspq := HSP.out q (by omega)
            obtain ⟨F, hF⟩ : ∃ F, F = E ++ lineE D k NM 0 (L.take q) := ⟨_, rfl⟩
            rw [← hF] at hsn hown2 hspq
            obtain ⟨op, hop⟩ : ∃ op, op = L[q].op := ⟨_, rfl⟩
            obtain ⟨nu, hnu⟩ : ∃ nu, nu = L[q].num := ⟨_, rfl⟩
            obtain ⟨sk, hsk⟩ : ∃ sk, sk = L[q].skip := ⟨_, rfl⟩
            rw [← hop] at hsn m0
            rw [← hnu] at m2
            rw [← hsk] at m3
            have HSN : Hid (E ++ lineE D k NM 0 (L.take (q + 1)) = F ++ (if op = 3 ∨ op = 4 then [⟨(k : Int), (q : Int), toOf D NM ln.data.toList⟩] else [])) := hsn
            have hcall := fun V (hV : Wds V (.agg #[.slice a1 D.roots.length k1, .slice (some ⟨b, o, none⟩) D.mods.length k2, .slice a3 D.faults.length k3]) D) => HTO.out ns ln V hV hnsz hlnsz
            rw [← HNM.out] at hcall
            obtain ⟨tt, htt⟩ : ∃ tt, tt = toOf D NM ln.data.toList := ⟨_, rfl⟩
            rw [← htt] at hcall
            have HTT : Hid (tt = toOf D NM ln.data.toList) := htt
            have HCALL : Hid (∀ V, Wds V (.agg #[.slice a1 D.roots.length k1, .slice (some ⟨b, o, none⟩) D.mods.length k2, .slice a3 D.faults.length k3]) D → Calls Tryz.prog 16 #[.agg #[.slice a1 D.roots.length k1, .slice (some ⟨b, o, none⟩) D.mods.length k2, .slice a3 D.faults.length k3], .string ns, .string ln] V fun e w' => e = .returned (.int .i64 tt) ∧ Below V.heap.size V w') := hcall
            have hWi := HWD.out.below hB2 (Nat.le_refl _)
            clear l0 l1 l2 l3 hlv hln hsn hF hop hnu hsk hcall htt
            have hgo : ∀ (hyes : op = 3 ∨ op = 4), (op == 3) = true ∨ (op == 3) = false ∧ (op == 4) = true := fun hy => by
              rcases hy with rfl | rfl
              · exact .inl rfl
              · exact .inr ⟨rfl, rfl⟩
            by_cases hyes : op = 3 ∨ op = 4
            · have HF : Hid (E ++ lineE D k NM 0 (L.take (q + 1)) = F ++ [⟨(k : Int), (q : Int), tt⟩]) := by unfold Hid; rw [HSN.out, if_pos hyes, HTT.out]
              obtain ⟨af, capf, rfl, hcapf, _⟩ := row_form hown2
              rcases hgo hyes with h3 | ⟨h3, h4⟩
              · clear hyes hgo
                go_wp2_with fail
                refine (HCALL.out _ (hWi.below ((Below.refl wr.heap.size wr).alloc (Nat.le_refl _) _) (Nat.le_refl _))).mono ?_
                rintro e w3 ⟨rfl, hb3⟩
                have hown3 := own_below (hown2.alloc (.cells #[.int .i64 op, .string ln, .int .i64 nu, .int .i64 sk] 56)) hb3 (Nat.le_refl _)
                have hz34 : wr.heap.size < w3.heap.size := by have := hb3.size; simp at this; omega
                have hB3 : Below W.heap.size W w3 := (hB2.alloc hszB2 _).trans (hb3.mono (by simp; omega))
                have hbx3 : w3.heap[wo.heap.size]? = some (.cells #[.string ns, .slice (some ⟨b', o', none⟩) L.length lcap] 39 (0, 0)) := (hb3.block _ (by simp; omega)).trans ((old_blk _ _ hzi).trans hbx)
                have hz3 : wo.heap.size < w3.heap.size := by omega
                have hszB3 := hB3.size
                clear hown2 hb3 hbx x0 x1 x2 m0 m1 m2 m3 z0 hWi
                go_wp2_with (at_builtin; refine wpList_append_own_at _ rfl _ _ 30 rfl W.heap.size 33 i75 _ 3 24 Tryz.underlying30 hi hz0 hz1 hz2 rfl (by decide) _ _ _ rfl (hown3.alloc _) ⟨w3.heap.size, 0, none⟩ 1 1 [Value.int .i64 (k : Int), Value.int .i64 (q : Int), Value.int .i64 tt] rfl rfl (new3' _ _ _ _ _) (by intro u hu; simp at hu; rcases hu with rfl | rfl | rfl <;> rfl) (by unfold maxLen; omega) (by omega) (by simp; omega) ?_; intro v' w4 hown4 hgrow hnil hloc; have hbx4 : w4.heap[wo.heap.size]? = some (.cells #[.string ns, .slice (some ⟨b', o', none⟩) L.length lcap] 39 (0, 0)) := (grown_keep hgrow (by simp; omega) (blk_ne hbx3 hown3 (by decide))).trans ((old_blk _ _ hz3).trans hbx3); have hB4 := below_append hB3 hszB3 hown3 hgrow; have hz4 : wo.heap.size < w4.heap.size := (by have := hgrow.size; simp at this; omega); clear hgrow hnil hloc hown3 hbx3)
                go_roundw
                case rel => exact ⟨q + 1, by omega, by go_num, by rw [HF.out, List.length_append, List.length_singleton, egR_snoc]; exact hown4, hB4, hz4, hbx4⟩
                case measure => simp [intOf]; omega
              · clear hyes hgo
                go_wp2_with fail
                refine (HCALL.out _ (hWi.below ((Below.refl wr.heap.size wr).alloc (Nat.le_refl _) _) (Nat.le_refl _))).mono ?_
                rintro e w3 ⟨rfl, hb3⟩
                have hown3 := own_below (hown2.alloc (.cells #[.int .i64 op, .string ln, .int .i64 nu, .int .i64 sk] 56)) hb3 (Nat.le_refl _)
                have hz34 : wr.heap.size < w3.heap.size := by have := hb3.size; simp at this; omega
                have hB3 : Below W.heap.size W w3 := (hB2.alloc hszB2 _).trans (hb3.mono (by simp; omega))
                have hbx3 : w3.heap[wo.heap.size]? = some (.cells #[.string ns, .slice (some ⟨b', o', none⟩) L.length lcap] 39 (0, 0)) := (hb3.block _ (by simp; omega)).trans ((old_blk _ _ hzi).trans hbx)
                have hz3 : wo.heap.size < w3.heap.size := by omega
                have hszB3 := hB3.size
                clear hown2 hb3 hbx x0 x1 x2 m0 m1 m2 m3 z0 hWi
                go_wp2_with (at_builtin; refine wpList_append_own_at _ rfl _ _ 30 rfl W.heap.size 33 i75 _ 3 24 Tryz.underlying30 hi hz0 hz1 hz2 rfl (by decide) _ _ _ rfl (hown3.alloc _) ⟨w3.heap.size, 0, none⟩ 1 1 [Value.int .i64 (k : Int), Value.int .i64 (q : Int), Value.int .i64 tt] rfl rfl (new3' _ _ _ _ _) (by intro u hu; simp at hu; rcases hu with rfl | rfl | rfl <;> rfl) (by unfold maxLen; omega) (by omega) (by simp; omega) ?_; intro v' w4 hown4 hgrow hnil hloc; have hbx4 : w4.heap[wo.heap.size]? = some (.cells #[.string ns, .slice (some ⟨b', o', none⟩) L.length lcap] 39 (0, 0)) := (grown_keep hgrow (by simp; omega) (blk_ne hbx3 hown3 (by decide))).trans ((old_blk _ _ hz3).trans hbx3); have hB4 := below_append hB3 hszB3 hown3 hgrow; have hz4 : wo.heap.size < w4.heap.size := (by have := hgrow.size; simp at this; omega); clear hgrow hnil hloc hown3 hbx3)
                go_roundw
                case rel => exact ⟨q + 1, by omega, by go_num, by rw [HF.out, List.length_append, List.length_singleton, egR_snoc]; exact hown4, hB4, hz4, hbx4⟩
                case measure => simp [intOf]; omega
            · have HF : Hid (E ++ lineE D k NM 0 (L.take (q + 1)) = F) := by unfold Hid; rw [HSN.out, if_neg hyes, List.append_nil]
              have h3 : (op == 3) = false := by simp; exact fun e => hyes (.inl e)
              have h4 : (op == 4) = false := by simp; exact fun e => hyes (.inr e)
              clear hyes hgo
              go_wp2
              go_roundw
              case rel => exact ⟨q + 1, by omega, by go_num, by rw [HF.out]; exact hown2.alloc _, hB2.alloc hszB2 _, by simp; omega, (old_blk _ _ hzi).trans hbx⟩
              case measure => simp [intOf]; omega
          · have HQ : Hid (L.take q = L) := List.take_of_length_le (by omega)
            rw [HQ.out, ← HEK.out] at hown2
            go_wp2
            go_roundw
            case rel => exact ⟨k + 1, by omega, by go_num, hown2, hB2⟩
            case measure => simp [intOf]; omega
      · have HK : Hid (D.mods.take k = D.mods) := List.take_of_length_le (by omega)
        rw [HK.out] at hown
        go_wp2
        go_ret
        exact ⟨_, rfl, own_mono hown hWB.size, hWB.trans (hB.mono hWB.size)⟩
  · have hdec : decide ((wok D).1 = 0) = false := by simpa using hgood
    rw [hdec] at hok
    have hE : edgesOf D = [] := by unfold edgesOf; rw [if_neg hgood]
    rw [hE]
    clear hdec hgood hE hmods
    go_enter Tryz.func6, Tryz.ntmps6
    go_wp2_with fail
    rw [← HW.out]
    refine hok.mono ?_
    rintro e w1 ⟨rfl, hb1⟩
    go_wp2
    go_ret
    exact ⟨_, rfl, World.ownsRow_nil _ _ _ _, hWB.trans (hb1.mono hWB.size)⟩
end Go.Proofs.YtimgafblpmjajaaGreat
namespace Go.Proofs.YtimgafblpmjajaaGreat

open Go.RowKit

/-- The bytes that choices are read from. -/
def Bytes (w : World) (C : Nat) (a : Option Addr) (len : Nat) : Prop :=
  ∀ i, i < len → ∃ b o z, a = some ⟨b, o, none⟩ ∧ b < C ∧ 0 ≤ z ∧ z ≤ 255 ∧ w.cell? ⟨b, o + i, none⟩ = some (.int .u8 z)
/-- The reader of choices lies in block C; it has read at most n. -/
def Cur (w : World) (C n : Nat) : Prop :=
  ∃ a len cap k sd, w.heap[C]? = some (.cells #[.slice a len cap, .int .i64 ((k : Nat) : Int), .int .u64 sd] 44 (0, 0)) ∧ k ≤ n ∧ len ≤ cap ∧ len ≤ 1048576 ∧ Bytes w C a len

theorem Bytes.kept {w w' : World} {C : Nat} {a : Option Addr} {len : Nat} (h : Bytes w C a len) (hg : w.grownBy w' (some C)) : Bytes w' C a len := fun i hi => by
  obtain ⟨b, o, z, ha, hlt, h0, h255, hc⟩ := h i hi
  refine ⟨b, o, z, ha, hlt, h0, h255, ?_⟩
  have hne : b ≠ C := by omega
  exact hg.cell (a := ⟨b, o + i, none⟩) hc (fun e => hne (by simpa using e))

theorem cells3D {w : World} {C : Nat} {u0 u1 u2 : Value} {t : TypeId} (h : w.heap[C]? = some (.cells #[u0, u1, u2] t (0, 0))) :
    w.cell? ⟨C, 0, none⟩ = some u0 ∧ w.cell? ⟨C, 1, none⟩ = some u1 ∧ w.cell? ⟨C, 2, none⟩ = some u2 ∧ w.frozen? ⟨C, 1, none⟩ = false ∧ w.frozen? ⟨C, 2, none⟩ = false := by
  simp [World.cell?, World.frozen?, h]

theorem set3_1 {w : World} {C : Nat} {u0 u1 u2 u : Value} {t : TypeId} (h : w.heap[C]? = some (.cells #[u0, u1, u2] t (0, 0))) : (w.setCell ⟨C, 1, none⟩ u).heap[C]? = some (.cells #[u0, u, u2] t (0, 0)) := by
  obtain ⟨hlt, hk⟩ := Array.getElem?_eq_some_iff.1 h
  show (w.heap.modify C _)[C]? = _
  rw [Array.getElem?_eq_getElem (by rw [Array.size_modify]; exact hlt), Array.getElem_modify_self, hk]
  rfl
theorem set3_2 {w : World} {C : Nat} {u0 u1 u2 u : Value} {t : TypeId} (h : w.heap[C]? = some (.cells #[u0, u1, u2] t (0, 0))) : (w.setCell ⟨C, 2, none⟩ u).heap[C]? = some (.cells #[u0, u1, u] t (0, 0)) := by
  obtain ⟨hlt, hk⟩ := Array.getElem?_eq_some_iff.1 h
  show (w.heap.modify C _)[C]? = _
  rw [Array.getElem?_eq_getElem (by rw [Array.size_modify]; exact hlt), Array.getElem_modify_self, hk]
  rfl
theorem grown_set (w : World) (a : Addr) (v : Value) : w.grownBy (w.setCell a v) (some a.block) :=
  ⟨rfl, rfl, rfl, by simp [World.setCell], fun k _ hk => Below.heap_setCell _ _ _ k (fun e => hk (by rw [e]))⟩
theorem grown_drewN (w : World) (n : Nat) (row : Option Nat) : w.grownBy (w.drewN n) row := ⟨rfl, rfl, rfl, Nat.le_refl _, fun _ _ _ => rfl⟩

theorem cur_step {w : World} {C n k len cap : Nat} {a : Option Addr} {sd : Int} (hh : w.heap[C]? = some (.cells #[.slice a len cap, .int .i64 ((k : Nat) : Int), .int .u64 sd] 44 (0, 0))) (hk : k ≤ n) (hlc : len ≤ cap) (hl20 : len ≤ 1048576) (hby : Bytes w C a len) (m : Nat) (sd' : Int) :
    Cur (((w.drewN m).setCell ⟨C, 1, none⟩ (.int .i64 ((k : Int) + 1))).setCell ⟨C, 2, none⟩ (.int .u64 sd')) C (n + 1) ∧ w.grownBy (((w.drewN m).setCell ⟨C, 1, none⟩ (.int .i64 ((k : Int) + 1))).setCell ⟨C, 2, none⟩ (.int .u64 sd')) (some C) ∧
    Cur (((w.drewN m).setCell ⟨C, 2, none⟩ (.int .u64 sd')).setCell ⟨C, 1, none⟩ (.int .i64 ((k : Int) + 1))) C (n + 1) ∧ w.grownBy (((w.drewN m).setCell ⟨C, 2, none⟩ (.int .u64 sd')).setCell ⟨C, 1, none⟩ (.int .i64 ((k : Int) + 1))) (some C) := by
  have hh' : (w.drewN m).heap[C]? = some (.cells #[.slice a len cap, .int .i64 ((k : Nat) : Int), .int .u64 sd] 44 (0, 0)) := hh
  have g1 := grown_trans (grown_trans (grown_drewN w m (some C)) (grown_set (w.drewN m) ⟨C, 1, none⟩ (.int .i64 ((k : Int) + 1)))) (grown_set _ ⟨C, 2, none⟩ (.int .u64 sd'))
  have g2 := grown_trans (grown_trans (grown_drewN w m (some C)) (grown_set (w.drewN m) ⟨C, 2, none⟩ (.int .u64 sd'))) (grown_set _ ⟨C, 1, none⟩ (.int .i64 ((k : Int) + 1)))
  refine ⟨⟨a, len, cap, k + 1, sd', ?_, by omega, hlc, hl20, hby.kept g1⟩, g1, ⟨a, len, cap, k + 1, sd', ?_, by omega, hlc, hl20, hby.kept g2⟩, g2⟩
  · have := set3_2 (u := .int .u64 sd') (set3_1 (u := .int .i64 ((k : Int) + 1)) hh')
    rw [this]; rfl
  · have := set3_1 (u := .int .i64 ((k : Int) + 1)) (set3_2 (u := .int .u64 sd') hh')
    rw [this]; rfl

theorem low8 (X : Int) : ∃ x : Nat, wrap64 (bits .and .u64 (IntKind.u64.wrap X / 1099511627776) 255) = (x : Int) ∧ x ≤ 255 := by
  have h0 : IntKind.u64.wrap X = X % 18446744073709551616 := by
    simp [IntKind.wrap, IntKind.bits, IntKind.signed]
  obtain ⟨Y, hY⟩ : ∃ Y : Nat, IntKind.u64.wrap X / 1099511627776 = (Y : Int) ∧ Y < 18446744073709551616 := by
    refine ⟨(IntKind.u64.wrap X / 1099511627776).toNat, ?_, ?_⟩
    · rw [h0]; omega
    · rw [h0]; omega
  rw [hY.1]
  have h := bits_and_u64_nat Y 255 hY.2 (by decide)
  rw [show ((255 : Nat) : Int) = 255 from rfl] at h
  rw [h]
  refine ⟨Y &&& 255, ?_, Nat.and_le_right⟩
  have hle : Y &&& 255 ≤ 255 := Nat.and_le_right
  generalize Y &&& 255 = q at *
  unfold wrap64
  omega

theorem Cur.alloc {w : World} {C n : Nat} (h : Cur w C n) (o : Obj) : Cur (w.alloc o) C n := by
  obtain ⟨a, len, cap, k, sd, hh, hk, hlc, hl20, hby⟩ := h
  have hC := (Array.getElem?_eq_some_iff.1 hh).1
  refine ⟨a, len, cap, k, sd, by rw [Below.heap_alloc _ _ _ hC]; exact hh, hk, hlc, hl20, fun i hi => ?_⟩
  obtain ⟨b, o', z, ha, hlt, h0, h255, hc⟩ := hby i hi
  exact ⟨b, o', z, ha, hlt, h0, h255, by rw [World.cell?_alloc_past _ _ _ (by omega)]; exact hc⟩
/-- A step that writes beyond C leaves the reader as it was. -/
theorem Cur.kept {w w' : World} {C n : Nat} {row : Option Nat} (h : Cur w C n) (hg : w.grownBy w' row) (hr : ∀ r, row = some r → C < r) : Cur w' C n := by
  obtain ⟨a, len, cap, k, sd, hh, hk, hlc, hl20, hby⟩ := h
  have hC := (Array.getElem?_eq_some_iff.1 hh).1
  refine ⟨a, len, cap, k, sd, by rw [hg.block C hC (fun e => by have := hr C e.symm; omega)]; exact hh, hk, hlc, hl20, fun i hi => ?_⟩
  obtain ⟨b, o', z, ha, hlt, h0, h255, hc⟩ := hby i hi
  exact ⟨b, o', z, ha, hlt, h0, h255, hg.cell (a := ⟨b, o' + i, none⟩) hc (fun e => by have h9 : C < b := hr b e.symm; omega)⟩
theorem Cur.lt {w : World} {C n : Nat} (h : Cur w C n) : C < w.heap.size := by
  obtain ⟨a, len, cap, k, sd, hh, _⟩ := h
  exact (Array.getElem?_eq_some_iff.1 hh).1
theorem Cur.mono {w : World} {C n n' : Nat} (h : Cur w C n) (hn : n ≤ n') : Cur w C n' := by
  obtain ⟨a, len, cap, k, sd, hh, hk, r⟩ := h
  exact ⟨a, len, cap, k, sd, hh, by omega, r⟩

set_option maxHeartbeats 1000000 in
set_option maxRecDepth 100000 in
theorem next_any (C n : Nat) (w : World) (h : Cur w C n) (hn : n ≤ 1099511627776) :
    Calls Tryz.prog 41 #[.pointer (some ⟨C, 0, none⟩)] w fun e w' => ∃ x : Nat, e = .returned (.int .i64 (x : Int)) ∧ x ≤ 255 ∧ Cur w' C (n + 1) ∧ w.grownBy w' (some C) := by
  obtain ⟨a, len, cap, k, sd, hh, hk, hlc, hl20, hby⟩ := h
  obtain ⟨c0, c1, c2, f1, f2⟩ := cells3D hh
  by_cases hlt : k < len
  · obtain ⟨b, o, z, rfl, hbl, h0, h255, hcz⟩ := hby k hlt
    have HB : Hid (Bytes w C (some ⟨b, o, none⟩) len) := hby
    have HH : Hid (w.heap[C]? = some (.cells #[.slice (some ⟨b, o, none⟩) len cap, .int .i64 ((k : Nat) : Int), .int .u64 sd] 44 (0, 0))) := hh
    clear hby hh
    go_enter Tryz.func41, Tryz.ntmps41
    go_wp2
    go_quiet (fail)
    revert nq
    intro m1
    go_wp2
    go_quiet (fail)
    go_wp2
    go_ret
    have hst := cur_step HH.out hk hlc hl20 HB.out (m1 + nq) (IntKind.u64.wrap (IntKind.u64.wrap (IntKind.u64.wrap (sd * 6364136223846793005) + z) + 1442695040888963407))
    exact ⟨z.toNat, ret_int (by omega), by omega, hst.1, hst.2.1⟩
  · have HB : Hid (Bytes w C a len) := hby
    have HH : Hid (w.heap[C]? = some (.cells #[.slice a len cap, .int .i64 ((k : Nat) : Int), .int .u64 sd] 44 (0, 0))) := hh
    clear hby hh
    go_enter Tryz.func41, Tryz.ntmps41
    go_wp2
    go_quiet (fail)
    go_wp2
    go_ret
    have hst := cur_step HH.out hk hlc hl20 HB.out nq (IntKind.u64.wrap (IntKind.u64.wrap (sd * 6364136223846793005) + 1442695040888963407))
    obtain ⟨x, hx, hx255⟩ := low8 (IntKind.u64.wrap (sd * 6364136223846793005) + 1442695040888963407)
    exact ⟨x, ret_int hx, hx255, hst.2.2.1, hst.2.2.2⟩

set_option maxHeartbeats 1000000 in
set_option maxRecDepth 100000 in
theorem pick_any (C n N : Nat) (w : World) (h : Cur w C n) (hn : n ≤ 1000000000) (h2 : 2 ≤ N) (hN : N ≤ 100000) :
    Calls Tryz.prog 25 #[.pointer (some ⟨C, 0, none⟩), .int .i64 (N : Int)] w fun e w' => ∃ x : Nat, e = .returned (.int .i64 (x : Int)) ∧ x < N ∧ Cur w' C (n + 2) ∧ w.grownBy w' (some C) := by
  by_cases h200 : 200 < N
  · go_enter Tryz.func25, Tryz.ntmps25
    go_wp2_with fail
    refine (next_any C n w h (by omega)).mono ?_
    rintro e w1 ⟨x1, rfl, hx1, hc1, hg1⟩
    go_wp2_with fail
    refine (next_any C (n + 1) w1 hc1 (by omega)).mono ?_
    rintro e w2 ⟨x2, rfl, hx2, hc2, hg2⟩
    go_wp2
    go_ret
    exact ⟨(x1 * 256 + x2) % N, ret_int (by simp), Nat.mod_lt _ (by omega), hc2, grown_trans hg1 hg2⟩
  · go_enter Tryz.func25, Tryz.ntmps25
    go_wp2_with fail
    refine (next_any C n w h (by omega)).mono ?_
    rintro e w1 ⟨x1, rfl, hx1, hc1, hg1⟩
    go_wp2
    go_ret
    exact ⟨x1 % N, ret_int (by simp), Nat.mod_lt _ (by omega), hc1.mono (by omega), hg1⟩

end Go.Proofs.YtimgafblpmjajaaGreat
namespace Go.Proofs.YtimgafblpmjajaaGreat

open Go.RowKit

/-- What drawing a text leaves: a text of at most N bytes; the reader has read at most n; nothing else has turned. -/
def Drew (C n N : Nat) (w : World) (e : Ending) (w' : World) : Prop := ∃ q : ByteArray, e = .returned (.string q) ∧ q.size ≤ N ∧ Cur w' C n ∧ w.grownBy w' (some C)

theorem grown_alloc_some (w : World) (o : Obj) (C : Nat) : w.grownBy (w.alloc o) (some C) := World.grownBy_alloc w o (some C)

set_option maxHeartbeats 1000000 in
set_option maxRecDepth 100000 in
theorem part_any (C n : Nat) (w : World) (h : Cur w C n) (hn : n ≤ 100000000) :
    Calls Tryz.prog 28 #[.pointer (some ⟨C, 0, none⟩)] w (Drew C (n + 2) 3 w) := by
  have hC := h.lt
  unfold Drew
  go_enter Tryz.func28, Tryz.ntmps28
  go_wp2_with fail
  refine (pick_any C n 6 _ (h.alloc _) (by omega) (by decide) (by decide)).mono ?_
  rintro e w1 ⟨x, rfl, hx, hc1, hg1⟩
  have hcell : ∃ q : ByteArray, q.size ≤ 3 ∧ w1.cell? ⟨w.heap.size, x, none⟩ = some (.string q) := by
    have hne : w.heap.size ≠ C := by omega
    have hk : ∀ i u, (w.alloc (.cells #[.string ⟨#[97]⟩, .string ⟨#[98]⟩, .string ⟨#[99]⟩, .string ⟨#[108, 105, 98]⟩, .string ⟨#[120, 45, 49]⟩, .string ⟨#[95]⟩] 9)).cell? ⟨w.heap.size, i, none⟩ = some u → w1.cell? ⟨w.heap.size, i, none⟩ = some u := fun i u hu => hg1.cell hu (fun e => hne (by simpa using e))
    match x, hx with
    | 0, _ => exact ⟨⟨#[97]⟩, by decide, hk 0 _ (by simp)⟩
    | 1, _ => exact ⟨⟨#[98]⟩, by decide, hk 1 _ (by simp)⟩
    | 2, _ => exact ⟨⟨#[99]⟩, by decide, hk 2 _ (by simp)⟩
    | 3, _ => exact ⟨⟨#[108, 105, 98]⟩, by decide, hk 3 _ (by simp)⟩
    | 4, _ => exact ⟨⟨#[120, 45, 49]⟩, by decide, hk 4 _ (by simp)⟩
    | 5, _ => exact ⟨⟨#[95]⟩, by decide, hk 5 _ (by simp)⟩
  obtain ⟨q, hq, hcq⟩ := hcell
  go_wp2
  go_ret
  exact ⟨q, rfl, hq, hc1, grown_trans (grown_alloc_some w _ C) hg1⟩

set_option maxHeartbeats 1000000 in
set_option maxRecDepth 100000 in
theorem name_any (C n : Nat) (w : World) (h : Cur w C n) (hn : n ≤ 10000000) :
    Calls Tryz.prog 26 #[.pointer (some ⟨C, 0, none⟩)] w (Drew C (n + 10) 11 w) := by
  unfold Drew
  go_enter Tryz.func26, Tryz.ntmps26
  go_wp2_with fail
  refine (part_any C n _ h (by omega)).mono ?_
  rintro e w1 ⟨q, rfl, hq, hc1, hg1⟩
  go_wp2_with fail
  refine (pick_any C (n + 2) 3 _ hc1 (by omega) (by decide) (by decide)).mono ?_
  rintro e w2 ⟨x, rfl, hx, hc2, hg2⟩
  have hg12 := grown_trans hg1 hg2
  clear hg1 hg2 hc1
  go_wp2
  go_loopw [3, 4] (fun o i wr => ∃ (j : Nat) (b : ByteArray), j ≤ 2 ∧ i = .int .i64 j ∧ o = .string b ∧ b.size + 4 * j ≤ 11 ∧ Cur wr C (n + 4 + 2 * (2 - j)) ∧ w.grownBy wr (some C)) (fun _ i _ => (intOf i).toNat)
  case atStart => exact ⟨x, q, by omega, rfl, rfl, by omega, hc2.mono (by omega), hg12⟩
  case round =>
    obtain ⟨j, b, hj, rfl, rfl, hb, hc, hg⟩ := hrel
    by_cases hpos : 0 < j
    · have hj1 : (j : Int) ≤ 2 := by omega
      go_wp2_with (go_at_call 28; refine (part_any C _ _ hc (by omega)).mono ?_; rintro e w3 ⟨q3, rfl, hq3, hc3, hg3⟩; have hs3 : (⟨#[47]⟩ ++ q3 : ByteArray).size = 1 + q3.size := ByteArray.size_append; have hs4 : (b ++ (⟨#[47]⟩ ++ q3) : ByteArray).size = b.size + (⟨#[47]⟩ ++ q3 : ByteArray).size := ByteArray.size_append)
      go_roundw
      case rel => exact ⟨j - 1, _, by omega, by go_num, rfl, by omega, hc3.mono (by omega), grown_trans hg hg3⟩
      case measure => simp [intOf]; omega
    · go_wp2
      go_ret
      exact ⟨b, rfl, by omega, hc.mono (by omega), hg⟩

/-- A literal list laid ahead of a draw. -/
theorem lit_cell {w3 w4 : World} {C : Nat} {cs : Array Value} {t : TypeId} (hC : C < w3.heap.size) (hg : (w3.alloc (.cells cs t)).grownBy w4 (some C)) (z : Nat) (u : Value) (hz : cs[z]? = some u) : w4.cell? ⟨w3.heap.size, z, none⟩ = some u := by
  have hne : w3.heap.size ≠ C := by omega
  refine hg.cell (a := ⟨w3.heap.size, z, none⟩) ?_ (fun e => hne (by simpa using e))
  rw [World.cell?_alloc_at _ _ _ _ rfl]
  exact hz

/-- For a loop's measure. -/
def strLen : Value → Nat
  | .string b => b.size
  | _ => 0

theorem app_size (a b : ByteArray) : (a ++ b).size = a.size + b.size := ByteArray.size_append

set_option maxHeartbeats 2000000 in
set_option maxRecDepth 100000 in
theorem ask_any (C n : Nat) (w : World) (h : Cur w C n) (hn : n ≤ 1000000) :
    Calls Tryz.prog 29 #[.pointer (some ⟨C, 0, none⟩), .slice none 0 0] w (Drew C (n + 16) 20 w) := by
  unfold Drew
  go_enter Tryz.func29, Tryz.ntmps29
  go_wp2_with fail
  refine (name_any C n _ h (by omega)).mono ?_
  rintro e w1 ⟨q, rfl, hq, hc1, hg1⟩
  go_wp2_with fail
  refine (pick_any C (n + 10) 9 _ hc1 (by omega) (by decide) (by decide)).mono ?_
  rintro e w2 ⟨x, rfl, hx, hc2, hg2⟩
  have hg12 := grown_trans hg1 hg2
  clear hg1 hg2 hc1
  have hC := hc2.lt
  match x, hx with
  | 0, _ =>
    go_wp2_with (go_at_call 28; refine (part_any C _ _ hc2 (by omega)).mono ?_; rintro e w3 ⟨q3, rfl, hq3, hc3, hg3⟩; have hs3 : (⟨#[46, 47]⟩ ++ q3 : ByteArray).size = 2 + q3.size := app_size _ _)
    go_ret
    exact ⟨_, rfl, by rw [hs3]; omega, hc3.mono (by omega), grown_trans hg12 hg3⟩
  | 1, _ =>
    go_wp2_with (go_at_call 28; refine (part_any C _ _ hc2 (by omega)).mono ?_; rintro e w3 ⟨q3, rfl, hq3, hc3, hg3⟩; have hs3 : (⟨#[46, 46, 47]⟩ ++ q3 : ByteArray).size = 3 + q3.size := app_size _ _)
    go_ret
    exact ⟨_, rfl, by rw [hs3]; omega, hc3.mono (by omega), grown_trans hg12 hg3⟩
  | 2, _ =>
    go_wp2_with (go_at_call 28; refine (part_any C _ _ hc2 (by omega)).mono ?_; rintro e w3 ⟨q3, rfl, hq3, hc3, hg3⟩)
    go_ret
    exact ⟨q3, rfl, by omega, hc3.mono (by omega), grown_trans hg12 hg3⟩
  | 3, _ =>
    have hs3 : (⟨#[46, 47, 46, 46, 47]⟩ ++ q : ByteArray).size = 5 + q.size := app_size _ _
    go_wp2
    go_ret
    exact ⟨_, rfl, by rw [hs3]; omega, hc2.mono (by omega), hg12⟩
  | 4, _ =>
    go_wp2_with fail
    refine (pick_any C (n + 12) 3 _ hc2 (by omega) (by decide) (by decide)).mono ?_
    rintro e w3 ⟨y, rfl, hy, hc3, hg3⟩
    by_cases hy0 : y = 0
    · subst hy0
      have hC3 := hc3.lt
      go_wp2_with fail
      refine (pick_any C (n + 14) 12 _ (hc3.alloc _) (by omega) (by decide) (by decide)).mono ?_
      rintro e w4 ⟨z, rfl, hz, hc4, hg4⟩
      have hcell : ∃ t : ByteArray, t.size ≤ 10 ∧ w4.cell? ⟨w3.heap.size, z, none⟩ = some (.string t) := by
        have hk := lit_cell hC3 hg4 z
        match z, hz with
        | 0, _ => exact ⟨_, by decide, hk _ rfl⟩
        | 1, _ => exact ⟨_, by decide, hk _ rfl⟩
        | 2, _ => exact ⟨_, by decide, hk _ rfl⟩
        | 3, _ => exact ⟨_, by decide, hk _ rfl⟩
        | 4, _ => exact ⟨_, by decide, hk _ rfl⟩
        | 5, _ => exact ⟨_, by decide, hk _ rfl⟩
        | 6, _ => exact ⟨_, by decide, hk _ rfl⟩
        | 7, _ => exact ⟨_, by decide, hk _ rfl⟩
        | 8, _ => exact ⟨_, by decide, hk _ rfl⟩
        | 9, _ => exact ⟨_, by decide, hk _ rfl⟩
        | 10, _ => exact ⟨_, by decide, hk _ rfl⟩
        | 11, _ => exact ⟨_, by decide, hk _ rfl⟩
      obtain ⟨t, htz, hct⟩ := hcell
      go_wp2
      go_ret
      exact ⟨t, rfl, by omega, hc4.mono (by omega), grown_trans hg12 (grown_trans hg3 (grown_trans (grown_alloc_some w3 _ C) hg4))⟩
    · have hyb : ((y : Int) == 0) = false := by rw [beq_eq_false_iff_ne]; omega
      go_wp2
      go_ret
      exact ⟨q, rfl, by omega, hc3.mono (by omega), grown_trans hg12 hg3⟩
  | x + 5, hx =>
    have b0 : (((x + 5 : Nat) : Int) == 0) = false := by rw [beq_eq_false_iff_ne]; omega
    have b1 : (((x + 5 : Nat) : Int) == 1) = false := by rw [beq_eq_false_iff_ne]; omega
    have b2 : (((x + 5 : Nat) : Int) == 2) = false := by rw [beq_eq_false_iff_ne]; omega
    have b3 : (((x + 5 : Nat) : Int) == 3) = false := by rw [beq_eq_false_iff_ne]; omega
    have b4 : (((x + 5 : Nat) : Int) == 4) = false := by rw [beq_eq_false_iff_ne]; omega
    go_wp2
    go_ret
    exact ⟨q, rfl, by omega, hc2.mono (by omega), hg12⟩

end Go.Proofs.YtimgafblpmjajaaGreat
namespace Go.Proofs.YtimgafblpmjajaaGreat
open Go.RowKit

/-- A step of the reader leaves a row beyond it as it was. -/
theorem row_draw {w w' : World} {C : Nat} {t : TypeId} {sz : Nat} {v : Value} {n : Nat} {xs : List Value} (h : w.ownsRow (C + 1) t sz v n xs) (hg : w.grownBy w' (some C)) : w'.ownsRow (C + 1) t sz v n xs := by
  refine h.kept hg ?_
  rcases hv : v.ownBlock with _ | b
  · exact .inl rfl
  · refine .inr (fun e => ?_)
    have := (h.lt b hv).1
    cases e; omega

set_option maxHeartbeats 1000000 in
set_option maxRecDepth 100000 in
theorem pick1_any (C n N : Nat) (w : World) (h : Cur w C n) (hn : n ≤ 1000000000) (h1 : 1 ≤ N) (hN : N ≤ 100000) :
    Calls Tryz.prog 25 #[.pointer (some ⟨C, 0, none⟩), .int .i64 (N : Int)] w fun e w' => ∃ x : Nat, e = .returned (.int .i64 (x : Int)) ∧ x < N ∧ Cur w' C (n + 2) ∧ w.grownBy w' (some C) := by
  by_cases h2 : 2 ≤ N
  · exact pick_any C n N w h hn h2 hN
  · obtain rfl : N = 1 := by omega
    go_enter Tryz.func25, Tryz.ntmps25
    go_wp2
    go_ret
    exact ⟨0, rfl, by omega, h.mono (by omega), grown_drewN w 0 _⟩

set_option maxHeartbeats 4000000 in
set_option maxRecDepth 100000 in
theorem askN_any (C n : Nat) (v : Value) (L : List (List UInt8)) (w : World) (h : Cur w C n) (hn : n ≤ 1000000) (hv : w.ownsRow (C + 1) 9 1 v L.length (L.map strV)) (hL : ∀ l ∈ L, l.length ≤ 11) (hLl : L.length ≤ 1000) :
    Calls Tryz.prog 29 #[.pointer (some ⟨C, 0, none⟩), v] w (Drew C (n + 20) 20 w) := by
  unfold Drew
  have HV : Hid (w.ownsRow (C + 1) 9 1 v L.length (L.map strV)) := hv
  have HLL : Hid (∀ l ∈ L, l.length ≤ 11) := hL
  obtain ⟨a, cap, rfl, hcap, hmax, -⟩ := row_shape hv
  clear hv hL
  by_cases hL0 : 0 < L.length
  · have hL0' : (0 : Int) < (L.length : Int) := by omega
    go_enter Tryz.func29, Tryz.ntmps29
    go_wp2_with fail
    refine (name_any C n _ h (by omega)).mono ?_
    rintro e w1 ⟨q1, rfl, hq1, hc1, hg1⟩
    go_wp2_with fail
    refine (pick_any C (n + 10) 5 _ hc1 (by omega) (by decide) (by decide)).mono ?_
    rintro e w2 ⟨u, rfl, hu, hcu, hgu⟩
    have hg1u := grown_trans hg1 hgu
    clear hg1 hgu hc1
    by_cases hu0 : 0 < u
    · have hu0' : (0 : Int) < (u : Int) := by omega
      go_wp2_with fail
      refine (pick1_any C (n + 12) L.length _ hcu (by omega) (by omega) (by omega)).mono ?_
      rintro e w3 ⟨z, rfl, hz, hcz, hgz⟩
      have hg3 := grown_trans hg1u hgz
      have hrow := row_draw HV.out hg3
      obtain ⟨a', cap', hv', _, _, hcell⟩ := row_shape hrow
      cases hv'
      obtain ⟨g, rfl, hgC, hgs, hgc⟩ := hcell z hz
      obtain ⟨q, hqv⟩ : ∃ q : ByteArray, q.data.toList = L[z] := ⟨⟨L[z].toArray⟩, by simp⟩
      have hq : q.size ≤ 11 := by
        have := HLL.out L[z] (List.getElem_mem hz)
        rw [← hqv] at this; simpa using this
      rw [← hqv, strV_data] at hgc
      have hzi : (z : Int) < (L.length : Int) := by omega
      clear hcell hrow hg1u hgz hcu hqv
      go_wp2_with fail
      refine (pick_any C (n + 14) 9 _ hcz (by omega) (by decide) (by decide)).mono ?_
      rintro e w4 ⟨x, rfl, hx, hc2, hg4⟩
      have hg12 := grown_trans hg3 hg4
      clear hg3 hg4 hcz
      have hC := hc2.lt
      match x, hx with
      | 0, _ =>
        go_wp2_with (go_at_call 28; refine (part_any C _ _ hc2 (by omega)).mono ?_; rintro e w3 ⟨q3, rfl, hq3, hc3, hg3⟩; have hs3 : (⟨#[46, 47]⟩ ++ q3 : ByteArray).size = 2 + q3.size := app_size _ _)
        go_ret
        exact ⟨_, rfl, by rw [hs3]; omega, hc3.mono (by omega), grown_trans hg12 hg3⟩
      | 1, _ =>
        go_wp2_with (go_at_call 28; refine (part_any C _ _ hc2 (by omega)).mono ?_; rintro e w3 ⟨q3, rfl, hq3, hc3, hg3⟩; have hs3 : (⟨#[46, 46, 47]⟩ ++ q3 : ByteArray).size = 3 + q3.size := app_size _ _)
        go_ret
        exact ⟨_, rfl, by rw [hs3]; omega, hc3.mono (by omega), grown_trans hg12 hg3⟩
      | 2, _ =>
        go_wp2_with (go_at_call 28; refine (part_any C _ _ hc2 (by omega)).mono ?_; rintro e w3 ⟨q3, rfl, hq3, hc3, hg3⟩)
        go_ret
        exact ⟨q3, rfl, by omega, hc3.mono (by omega), grown_trans hg12 hg3⟩
      | 3, _ =>
        have hs3 : (⟨#[46, 47, 46, 46, 47]⟩ ++ q : ByteArray).size = 5 + q.size := app_size _ _
        go_wp2
        go_ret
        exact ⟨_, rfl, by rw [hs3]; omega, hc2.mono (by omega), hg12⟩
      | 4, _ =>
        go_wp2_with fail
        refine (pick_any C (n + 16) 3 _ hc2 (by omega) (by decide) (by decide)).mono ?_
        rintro e w3 ⟨y, rfl, hy, hc3, hg3⟩
        by_cases hy0 : y = 0
        · subst hy0
          have hC3 := hc3.lt
          go_wp2_with fail
          refine (pick_any C (n + 18) 12 _ (hc3.alloc _) (by omega) (by decide) (by decide)).mono ?_
          rintro e w4 ⟨z, rfl, hz, hc4, hg4⟩
          have hcell : ∃ t : ByteArray, t.size ≤ 10 ∧ w4.cell? ⟨w3.heap.size, z, none⟩ = some (.string t) := by
            have hk := lit_cell hC3 hg4 z
            match z, hz with
            | 0, _ => exact ⟨_, by decide, hk _ rfl⟩
            | 1, _ => exact ⟨_, by decide, hk _ rfl⟩
            | 2, _ => exact ⟨_, by decide, hk _ rfl⟩
            | 3, _ => exact ⟨_, by decide, hk _ rfl⟩
            | 4, _ => exact ⟨_, by decide, hk _ rfl⟩
            | 5, _ => exact ⟨_, by decide, hk _ rfl⟩
            | 6, _ => exact ⟨_, by decide, hk _ rfl⟩
            | 7, _ => exact ⟨_, by decide, hk _ rfl⟩
            | 8, _ => exact ⟨_, by decide, hk _ rfl⟩
            | 9, _ => exact ⟨_, by decide, hk _ rfl⟩
            | 10, _ => exact ⟨_, by decide, hk _ rfl⟩
            | 11, _ => exact ⟨_, by decide, hk _ rfl⟩
          obtain ⟨t, htz, hct⟩ := hcell
          go_wp2
          go_ret
          exact ⟨t, rfl, by omega, hc4.mono (by omega), grown_trans hg12 (grown_trans hg3 (grown_trans (grown_alloc_some w3 _ C) hg4))⟩
        · have hyb : ((y : Int) == 0) = false := by rw [beq_eq_false_iff_ne]; omega
          go_wp2
          go_ret
          exact ⟨q, rfl, by omega, hc3.mono (by omega), grown_trans hg12 hg3⟩
      | x + 5, hx =>
        have b0 : (((x + 5 : Nat) : Int) == 0) = false := by rw [beq_eq_false_iff_ne]; omega
        have b1 : (((x + 5 : Nat) : Int) == 1) = false := by rw [beq_eq_false_iff_ne]; omega
        have b2 : (((x + 5 : Nat) : Int) == 2) = false := by rw [beq_eq_false_iff_ne]; omega
        have b3 : (((x + 5 : Nat) : Int) == 3) = false := by rw [beq_eq_false_iff_ne]; omega
        have b4 : (((x + 5 : Nat) : Int) == 4) = false := by rw [beq_eq_false_iff_ne]; omega
        go_wp2
        go_ret
        exact ⟨q, rfl, by omega, hc2.mono (by omega), hg12⟩

    · obtain rfl : u = 0 := by omega
      obtain ⟨q, rfl⟩ : ∃ q, q = q1 := ⟨_, rfl⟩
      have hq := hq1
      go_wp2_with fail
      refine (pick_any C (n + 14) 9 _ (hcu.mono (by omega)) (by omega) (by decide) (by decide)).mono ?_
      rintro e w4 ⟨x, rfl, hx, hc2, hg4⟩
      have hg12 := grown_trans hg1u hg4
      clear hg1u hg4 hcu
      have hC := hc2.lt
      match x, hx with
      | 0, _ =>
        go_wp2_with (go_at_call 28; refine (part_any C _ _ hc2 (by omega)).mono ?_; rintro e w3 ⟨q3, rfl, hq3, hc3, hg3⟩; have hs3 : (⟨#[46, 47]⟩ ++ q3 : ByteArray).size = 2 + q3.size := app_size _ _)
        go_ret
        exact ⟨_, rfl, by rw [hs3]; omega, hc3.mono (by omega), grown_trans hg12 hg3⟩
      | 1, _ =>
        go_wp2_with (go_at_call 28; refine (part_any C _ _ hc2 (by omega)).mono ?_; rintro e w3 ⟨q3, rfl, hq3, hc3, hg3⟩; have hs3 : (⟨#[46, 46, 47]⟩ ++ q3 : ByteArray).size = 3 + q3.size := app_size _ _)
        go_ret
        exact ⟨_, rfl, by rw [hs3]; omega, hc3.mono (by omega), grown_trans hg12 hg3⟩
      | 2, _ =>
        go_wp2_with (go_at_call 28; refine (part_any C _ _ hc2 (by omega)).mono ?_; rintro e w3 ⟨q3, rfl, hq3, hc3, hg3⟩)
        go_ret
        exact ⟨q3, rfl, by omega, hc3.mono (by omega), grown_trans hg12 hg3⟩
      | 3, _ =>
        have hs3 : (⟨#[46, 47, 46, 46, 47]⟩ ++ q : ByteArray).size = 5 + q.size := app_size _ _
        go_wp2
        go_ret
        exact ⟨_, rfl, by rw [hs3]; omega, hc2.mono (by omega), hg12⟩
      | 4, _ =>
        go_wp2_with fail
        refine (pick_any C (n + 16) 3 _ hc2 (by omega) (by decide) (by decide)).mono ?_
        rintro e w3 ⟨y, rfl, hy, hc3, hg3⟩
        by_cases hy0 : y = 0
        · subst hy0
          have hC3 := hc3.lt
          go_wp2_with fail
          refine (pick_any C (n + 18) 12 _ (hc3.alloc _) (by omega) (by decide) (by decide)).mono ?_
          rintro e w4 ⟨z, rfl, hz, hc4, hg4⟩
          have hcell : ∃ t : ByteArray, t.size ≤ 10 ∧ w4.cell? ⟨w3.heap.size, z, none⟩ = some (.string t) := by
            have hk := lit_cell hC3 hg4 z
            match z, hz with
            | 0, _ => exact ⟨_, by decide, hk _ rfl⟩
            | 1, _ => exact ⟨_, by decide, hk _ rfl⟩
            | 2, _ => exact ⟨_, by decide, hk _ rfl⟩
            | 3, _ => exact ⟨_, by decide, hk _ rfl⟩
            | 4, _ => exact ⟨_, by decide, hk _ rfl⟩
            | 5, _ => exact ⟨_, by decide, hk _ rfl⟩
            | 6, _ => exact ⟨_, by decide, hk _ rfl⟩
            | 7, _ => exact ⟨_, by decide, hk _ rfl⟩
            | 8, _ => exact ⟨_, by decide, hk _ rfl⟩
            | 9, _ => exact ⟨_, by decide, hk _ rfl⟩
            | 10, _ => exact ⟨_, by decide, hk _ rfl⟩
            | 11, _ => exact ⟨_, by decide, hk _ rfl⟩
          obtain ⟨t, htz, hct⟩ := hcell
          go_wp2
          go_ret
          exact ⟨t, rfl, by omega, hc4.mono (by omega), grown_trans hg12 (grown_trans hg3 (grown_trans (grown_alloc_some w3 _ C) hg4))⟩
        · have hyb : ((y : Int) == 0) = false := by rw [beq_eq_false_iff_ne]; omega
          go_wp2
          go_ret
          exact ⟨q, rfl, by omega, hc3.mono (by omega), grown_trans hg12 hg3⟩
      | x + 5, hx =>
        have b0 : (((x + 5 : Nat) : Int) == 0) = false := by rw [beq_eq_false_iff_ne]; omega
        have b1 : (((x + 5 : Nat) : Int) == 1) = false := by rw [beq_eq_false_iff_ne]; omega
        have b2 : (((x + 5 : Nat) : Int) == 2) = false := by rw [beq_eq_false_iff_ne]; omega
        have b3 : (((x + 5 : Nat) : Int) == 3) = false := by rw [beq_eq_false_iff_ne]; omega
        have b4 : (((x + 5 : Nat) : Int) == 4) = false := by rw [beq_eq_false_iff_ne]; omega
        go_wp2
        go_ret
        exact ⟨q, rfl, by omega, hc2.mono (by omega), hg12⟩

  · have hL0' : ¬ (0 : Int) < (L.length : Int) := by omega
    have hL0d : decide ((0 : Int) < (L.length : Int)) = false := by simpa using hL0'
    go_enter Tryz.func29, Tryz.ntmps29
    go_wp2_with fail
    refine (name_any C n _ h (by omega)).mono ?_
    rintro e w1 ⟨q, rfl, hq, hc1, hg1⟩
    go_wp2_with fail
    refine (pick_any C (n + 14) 9 _ (hc1.mono (by omega)) (by omega) (by decide) (by decide)).mono ?_
    rintro e w2 ⟨x, rfl, hx, hc2, hg2⟩
    have hg12 := grown_trans hg1 hg2
    clear hg1 hg2 hc1
    have hC := hc2.lt
    match x, hx with
    | 0, _ =>
      go_wp2_with (go_at_call 28; refine (part_any C _ _ hc2 (by omega)).mono ?_; rintro e w3 ⟨q3, rfl, hq3, hc3, hg3⟩; have hs3 : (⟨#[46, 47]⟩ ++ q3 : ByteArray).size = 2 + q3.size := app_size _ _)
      go_ret
      exact ⟨_, rfl, by rw [hs3]; omega, hc3.mono (by omega), grown_trans hg12 hg3⟩
    | 1, _ =>
      go_wp2_with (go_at_call 28; refine (part_any C _ _ hc2 (by omega)).mono ?_; rintro e w3 ⟨q3, rfl, hq3, hc3, hg3⟩; have hs3 : (⟨#[46, 46, 47]⟩ ++ q3 : ByteArray).size = 3 + q3.size := app_size _ _)
      go_ret
      exact ⟨_, rfl, by rw [hs3]; omega, hc3.mono (by omega), grown_trans hg12 hg3⟩
    | 2, _ =>
      go_wp2_with (go_at_call 28; refine (part_any C _ _ hc2 (by omega)).mono ?_; rintro e w3 ⟨q3, rfl, hq3, hc3, hg3⟩)
      go_ret
      exact ⟨q3, rfl, by omega, hc3.mono (by omega), grown_trans hg12 hg3⟩
    | 3, _ =>
      have hs3 : (⟨#[46, 47, 46, 46, 47]⟩ ++ q : ByteArray).size = 5 + q.size := app_size _ _
      go_wp2
      go_ret
      exact ⟨_, rfl, by rw [hs3]; omega, hc2.mono (by omega), hg12⟩
    | 4, _ =>
      go_wp2_with fail
      refine (pick_any C (n + 16) 3 _ hc2 (by omega) (by decide) (by decide)).mono ?_
      rintro e w3 ⟨y, rfl, hy, hc3, hg3⟩
      by_cases hy0 : y = 0
      · subst hy0
        have hC3 := hc3.lt
        go_wp2_with fail
        refine (pick_any C (n + 18) 12 _ (hc3.alloc _) (by omega) (by decide) (by decide)).mono ?_
        rintro e w4 ⟨z, rfl, hz, hc4, hg4⟩
        have hcell : ∃ t : ByteArray, t.size ≤ 10 ∧ w4.cell? ⟨w3.heap.size, z, none⟩ = some (.string t) := by
          have hk := lit_cell hC3 hg4 z
          match z, hz with
          | 0, _ => exact ⟨_, by decide, hk _ rfl⟩
          | 1, _ => exact ⟨_, by decide, hk _ rfl⟩
          | 2, _ => exact ⟨_, by decide, hk _ rfl⟩
          | 3, _ => exact ⟨_, by decide, hk _ rfl⟩
          | 4, _ => exact ⟨_, by decide, hk _ rfl⟩
          | 5, _ => exact ⟨_, by decide, hk _ rfl⟩
          | 6, _ => exact ⟨_, by decide, hk _ rfl⟩
          | 7, _ => exact ⟨_, by decide, hk _ rfl⟩
          | 8, _ => exact ⟨_, by decide, hk _ rfl⟩
          | 9, _ => exact ⟨_, by decide, hk _ rfl⟩
          | 10, _ => exact ⟨_, by decide, hk _ rfl⟩
          | 11, _ => exact ⟨_, by decide, hk _ rfl⟩
        obtain ⟨t, htz, hct⟩ := hcell
        go_wp2
        go_ret
        exact ⟨t, rfl, by omega, hc4.mono (by omega), grown_trans hg12 (grown_trans hg3 (grown_trans (grown_alloc_some w3 _ C) hg4))⟩
      · have hyb : ((y : Int) == 0) = false := by rw [beq_eq_false_iff_ne]; omega
        go_wp2
        go_ret
        exact ⟨q, rfl, by omega, hc3.mono (by omega), grown_trans hg12 hg3⟩
    | x + 5, hx =>
      have b0 : (((x + 5 : Nat) : Int) == 0) = false := by rw [beq_eq_false_iff_ne]; omega
      have b1 : (((x + 5 : Nat) : Int) == 1) = false := by rw [beq_eq_false_iff_ne]; omega
      have b2 : (((x + 5 : Nat) : Int) == 2) = false := by rw [beq_eq_false_iff_ne]; omega
      have b3 : (((x + 5 : Nat) : Int) == 3) = false := by rw [beq_eq_false_iff_ne]; omega
      have b4 : (((x + 5 : Nat) : Int) == 4) = false := by rw [beq_eq_false_iff_ne]; omega
      go_wp2
      go_ret
      exact ⟨q, rfl, by omega, hc2.mono (by omega), hg12⟩

end Go.Proofs.YtimgafblpmjajaaGreat
namespace Go.Proofs.YtimgafblpmjajaaGreat
open Go.RowKit

theorem grown_drewD (w : World) (row : Option Nat) : w.grownBy w.drew row := ⟨rfl, rfl, rfl, Nat.le_refl _, fun _ _ _ => rfl⟩
/-- The names of modules that lie in a row. -/
def NmX (M : List Md) (X : List Value) : Prop := ∀ j (hj : j < M.length), X[j * 2]? = some (strV M[j].name)
/-- The row's name at a place, read behind a draw. -/
theorem nm_cell {w w' : World} {C : Nat} {a : Option Addr} {c : Nat} {M : List Md} {X : List Value} (h : w.ownsRow (C + 1) 39 2 (.slice a M.length c) M.length X) (hN : NmX M X) (hg : w.grownBy w' (some C)) {z : Nat} (hz : z < M.length) :
    ∃ g, a = some ⟨g, 0, none⟩ ∧ C < g ∧ w'.cell? ⟨g, z * 2, none⟩ = some (strV M[z].name) := by
  have h' := row_draw h hg
  rcases h'.2 with ⟨hv, hn⟩ | ⟨g, cap, cur, hv, hg1, hh, hc, hm, _⟩
  · omega
  · cases hv
    refine ⟨g, rfl, hg1, ?_⟩
    rw [h'.cellAt _ (by have := h'.1; omega)]
    exact hN z hz
set_option maxHeartbeats 4000000 in
set_option maxRecDepth 100000 in
theorem main_any (C n : Nat) (vr vf : Value) (a : Option Addr) (c : Nat) (M : List Md) (X : List Value) (w : World) (h : Cur w C n) (hn : n ≤ 900000) (hM : w.ownsRow (C + 1) 39 2 (.slice a M.length c) M.length X) (hX : NmX M X) (hL : ∀ m ∈ M, m.name.length ≤ 11) (hMl : M.length ≤ 1000)
    (hvr : ∃ a n c, vr = .slice a n c) (hvf : ∃ a n c, vf = .slice a n c) :
    Calls Tryz.prog 13 #[.pointer (some ⟨C, 0, none⟩), .agg #[vr, .slice a M.length c, vf]] w (Drew C (n + 30) 20 w) := by
  unfold Drew
  obtain ⟨ar, nr, cr, rfl⟩ := hvr
  obtain ⟨af, nf, cf, rfl⟩ := hvf
  have HM : Hid (w.ownsRow (C + 1) 39 2 (.slice a M.length c) M.length X ∧ NmX M X) := ⟨hM, hX⟩
  have HL : Hid (∀ m ∈ M, m.name.length ≤ 11) := hL
  clear hM hX hL
  obtain ⟨W, hW⟩ : ∃ W, W = w.alloc (.cells #[.slice ar nr cr, .slice a M.length c, .slice af nf cf] 27) := ⟨_, rfl⟩
  have hWC : Cur W C n := by rw [hW]; exact h.alloc _
  have hWg : w.grownBy W (some C) := by rw [hW]; exact grown_alloc_some _ _ _
  have hCw := h.lt
  have HC1 : Hid (∀ w', W.grownBy w' (some C) → w'.cell? ⟨w.heap.size, 1, none⟩ = some (.slice a M.length c)) := by
    intro w' hg
    have hne : w.heap.size ≠ C := by omega
    refine hg.cell (a := ⟨w.heap.size, 1, none⟩) ?_ (fun e => hne (by simpa using e))
    rw [hW, World.cell?_alloc_at _ _ _ _ rfl]; rfl
  have HW : Hid (W = w.alloc (.cells #[.slice ar nr cr, .slice a M.length c, .slice af nf cf] 27)) := hW
  have c0 := HC1.out W (grown_drewN W 0 _)
  clear hW
  by_cases hM0 : 0 < M.length
  · have hM0' : (0 : Int) < (M.length : Int) := by omega
    have HN : Hid (∀ (z : Nat) (w' : World), z < M.length → w.grownBy w' (some C) → ∃ g q, a = some ⟨g, 0, none⟩ ∧ w'.cell? ⟨g, z * 2, none⟩ = some (.string q) ∧ q.size ≤ 11) := by
      intro z w' hz hg
      obtain ⟨g, ha, _, hgc⟩ := nm_cell HM.out.1 HM.out.2 hg hz
      obtain ⟨q, hqv⟩ : ∃ q : ByteArray, q.data.toList = M[z].name := ⟨⟨M[z].name.toArray⟩, by simp⟩
      rw [← hqv, strV_data] at hgc
      refine ⟨g, q, ha, hgc, ?_⟩
      have := HL.out M[z] (List.getElem_mem hz)
      rw [← hqv] at this; simpa using this
    go_enter Tryz.func13, Tryz.ntmps13
    go_wp2_with fail
    rw [← HW.out]
    refine (pick_any C n 3 _ hWC (by omega) (by decide) (by decide)).mono ?_
    rintro e w1 ⟨x, rfl, hx, hc1, hg1⟩
    have hG1 := grown_trans hWg hg1
    have c1 := HC1.out w1 hg1
    by_cases hx0 : x = 0
    · subst hx0
      obtain ⟨g, q, rfl, hgc, hq⟩ := HN.out 0 w1 hM0 hG1
      clear HC1 HM
      go_wp2
      go_ret
      exact ⟨q, rfl, by omega, hc1.mono (by omega), hG1⟩
    · have hxb : ((x : Int) == 0) = false := by rw [beq_eq_false_iff_ne]; omega
      go_wp2_with fail
      refine (pick_any C (n + 2) 6 _ hc1 (by omega) (by decide) (by decide)).mono ?_
      rintro e w2 ⟨y, rfl, hy, hc2, hg2⟩
      have hG2 := grown_trans hG1 hg2
      have c2 := HC1.out w2 (grown_trans hg1 hg2)
      by_cases hy0 : 0 < y
      · have hy0' : (0 : Int) < (y : Int) := by omega
        have hcd : Cur w2.drew C (n + 4) := hc2
        have hgd : w.grownBy w2.drew (some C) := grown_trans hG2 (grown_drewD _ _)
        have hgd' : W.grownBy w2.drew (some C) := grown_trans (grown_trans hg1 hg2) (grown_drewD _ _)
        have HP : Hid (Calls Tryz.prog 25 #[.pointer (some ⟨C, 0, none⟩), .int .i64 (M.length : Int)] w2.drew fun e w3 => ∃ (z : Nat) (g : Nat) (q : ByteArray), e = .returned (.int .i64 (z : Int)) ∧ (z : Int) < (M.length : Int) ∧ a = some ⟨g, 0, none⟩ ∧ w3.cell? ⟨g, z * 2, none⟩ = some (.string q) ∧ q.size ≤ 11 ∧ w3.cell? ⟨w.heap.size, 1, none⟩ = some (.slice a M.length c) ∧ Cur w3 C (n + 30) ∧ w.grownBy w3 (some C)) := by
          refine (pick1_any C (n + 4) M.length _ hcd (by omega) (by omega) (by omega)).mono ?_
          rintro e w3 ⟨z, rfl, hz, hc3, hg3⟩
          obtain ⟨g, q, ha, hgc, hq⟩ := HN.out z w3 hz (grown_trans hgd hg3)
          exact ⟨z, g, q, rfl, by omega, ha, hgc, hq, HC1.out w3 (grown_trans hgd' hg3), hc3.mono (by omega), grown_trans hgd hg3⟩
        have c2d : w2.drew.cell? ⟨w.heap.size, 1, none⟩ = some (.slice a M.length c) := c2
        obtain ⟨ga, rfl⟩ : ∃ ga, a = some ⟨ga, 0, none⟩ := by obtain ⟨g, _, ha, _⟩ := HN.out 0 w2 hM0 hG2; exact ⟨g, ha⟩
        clear HC1 HM HN hcd hgd hgd'
        go_wp2
        go_region_with (go_at_call 25; refine HP.out.mono ?_; rintro e w3 ⟨z, g, q, rfl, hz', hga, hgc, hq, c3, hc3, hg3⟩; cases hga)
        all_goals
          go_wp2
          go_ret
          exact ⟨q, rfl, by omega, hc3, hg3⟩
      · obtain rfl : y = 0 := by omega
        go_wp2_with fail
        refine (ask_any C (n + 4) _ hc2 (by omega)).mono ?_
        rintro e w3 ⟨q, rfl, hq, hc3, hg3⟩
        go_wp2
        go_ret
        exact ⟨q, rfl, by omega, hc3.mono (by omega), grown_trans hG2 hg3⟩
  · have hM0' : ¬ (0 : Int) < (M.length : Int) := by omega
    have hM0d : decide ((0 : Int) < (M.length : Int)) = false := by simpa using hM0'
    go_enter Tryz.func13, Tryz.ntmps13
    go_wp2_with fail
    rw [← HW.out]
    refine (ask_any C n _ hWC (by omega)).mono ?_
    rintro e w3 ⟨q, rfl, hq, hc3, hg3⟩
    go_wp2
    go_ret
    exact ⟨q, rfl, by omega, hc3.mono (by omega), grown_trans hWg hg3⟩
end Go.Proofs.YtimgafblpmjajaaGreat
namespace Go.Proofs.YtimgafblpmjajaaGreat
open Go.RowKit

theorem new2' (w : World) (a b : Value) (t : TypeId) : ∀ j u, [a, b][j]? = some u → (w.alloc (.cells #[a, b] t)).cell? ((⟨w.heap.size, 0, none⟩ : Addr).add j) = some u := by
  intro j u h
  match j with
  | 0 => simp at h; subst h; simp [Addr.add]
  | 1 => simp at h; subst h; simp [Addr.add]
  | j + 2 => simp at h
theorem own_draw {w w' : World} {C base : Nat} {t : TypeId} {sz : Nat} {v : Value} {n : Nat} {xs : List Value} (h : w.ownsRow base t sz v n xs) (hg : w.grownBy w' (some C)) (hC : C < base) : w'.ownsRow base t sz v n xs := by
  refine h.kept hg ?_
  rcases hv : v.ownBlock with _ | b
  · exact .inl rfl
  · refine .inr (fun e => ?_)
    have := (h.lt b hv).1
    cases e; omega
theorem Mrow.draw {base C : Nat} {w w' : World} {v : Value} {M : List Md} {X : List Value} (h : Mrow base w v M X) (hg : w.grownBy w' (some C)) (hC : C < base) : Mrow base w' v M X :=
  ⟨own_draw h.1 hg hC, fun j hj => by obtain ⟨ls, h1, h2, h3⟩ := h.2 j hj; exact ⟨ls, h1, h2, own_draw h3 hg hC⟩⟩
/-- A step that writes a row of another kind. -/
theorem own_other {w w' : World} {base base' : Nat} {t t' : TypeId} {sz sz' : Nat} {v v' : Value} {n n' : Nat} {xs xs' : List Value} (h : w.ownsRow base t sz v n xs) (h' : w.ownsRow base' t' sz' v' n' xs') (hne : t ≠ t') (hg : w.grownBy w' v'.ownBlock) : w'.ownsRow base t sz v n xs := by
  refine h.kept hg ?_
  rcases h.2 with ⟨hv, hn⟩ | ⟨g, cap, cur, hv, hg1, hh, _⟩
  · subst hv; exact .inl rfl
  · refine .inr (fun e => ?_)
    exact blk_ne hh h' hne (by rw [← e, hv]; rfl)
theorem Mrow.other {base base' : Nat} {w w' : World} {t' : TypeId} {sz' : Nat} {v v' : Value} {n' : Nat} {xs' : List Value} {M : List Md} {X : List Value} (h : Mrow base w v M X) (h' : w.ownsRow base' t' sz' v' n' xs') (h1 : 39 ≠ t') (h2 : 56 ≠ t') (hg : w.grownBy w' v'.ownBlock) : Mrow base w' v M X :=
  ⟨own_other h.1 h' h1 hg, fun j hj => by obtain ⟨ls, a, b, c⟩ := h.2 j hj; exact ⟨ls, a, b, own_other c h' h2 hg⟩⟩
theorem Mrow.alloc {base : Nat} {w : World} {v : Value} {M : List Md} {X : List Value} (h : Mrow base w v M X) (o : Obj) : Mrow base (w.alloc o) v M X :=
  ⟨h.1.alloc o, fun j hj => by obtain ⟨ls, a, b, c⟩ := h.2 j hj; exact ⟨ls, a, b, c.alloc o⟩⟩
/-- A module without lines behind a row of them. -/
theorem Mrow.snoc {base : Nat} {w w' : World} {v v' : Value} {M : List Md} {X : List Value} (h : Mrow base w v M X) (nm : List UInt8) (h' : w'.ownsRow base 39 2 v' (M.length + 1) (X ++ [strV nm, .slice none 0 0])) (hg : w.grownBy w' v.ownBlock) : Mrow base w' v' (M ++ [⟨nm, []⟩]) (X ++ [strV nm, .slice none 0 0]) := by
  have hX : X.length = M.length * 2 := h.1.1
  refine ⟨by simpa using h', fun j hj => ?_⟩
  simp at hj
  by_cases hjl : j < M.length
  · obtain ⟨ls, a, b, c⟩ := h.2 j hjl
    refine ⟨ls, ?_, ?_, ?_⟩
    · rw [List.getElem?_append_left (by omega), List.getElem_append_left hjl]; exact a
    · rw [List.getElem?_append_left (by omega)]; exact b
    · rw [List.getElem_append_left hjl]; exact own_other c h.1 (by decide) hg
  · obtain rfl : j = M.length := by omega
    refine ⟨.slice none 0 0, ?_, ?_, ?_⟩
    · rw [List.getElem?_append_right (by omega), hX]; simp
    · rw [List.getElem?_append_right (by omega), hX, show M.length * 2 + 1 - M.length * 2 = 1 by omega]; rfl
    · simp; exact World.ownsRow_nil _ _ _ _
/-- What is written beyond a world is nothing to it. -/
theorem grown_far {w w3 w4 : World} {C : Nat} {row : Option Nat} (h : w.grownBy w3 (some C)) (hg : w3.grownBy w4 row) (hr : ∀ r, row = some r → w.heap.size ≤ r) : w.grownBy w4 (some C) :=
  ⟨hg.1.trans h.1, hg.2.trans h.2, hg.3.trans h.3, Nat.le_trans h.4 hg.4, fun k hk hne => (hg.block k (Nat.lt_of_lt_of_le hk h.4) (fun e => by have := hr k e.symm; omega)).trans (h.block k hk hne)⟩
theorem far_row {w : World} {base b : Nat} {t : TypeId} {sz : Nat} {v : Value} {n : Nat} {xs : List Value} (h : w.ownsRow base t sz v n xs) (hb : b ≤ base) : ∀ r, v.ownBlock = some r → b ≤ r := fun r hr => Nat.le_trans hb (h.lt r hr).1
/-- What lay there lies there still, the reader and the box aside. -/
def Far (C B : Nat) (wo V : World) : Prop := wo.heap.size ≤ V.heap.size ∧ ∀ k, k < wo.heap.size → k ≠ C → k ≠ B → V.heap[k]? = wo.heap[k]?
theorem Far.own {C B base : Nat} {wo V : World} (h : Far C B wo V) {t : TypeId} {sz : Nat} {v : Value} {n : Nat} {xs : List Value} (ho : wo.ownsRow base t sz v n xs) (hC : C < base) (hB : B < base) : V.ownsRow base t sz v n xs :=
  own_block ho (fun b hb => by
    have := ho.lt b hb
    exact h.2 b this.2 (by omega) (by omega))
theorem Far.mrow {C B base : Nat} {wo V : World} (h : Far C B wo V) {v : Value} {M : List Md} {X : List Value} (ho : Mrow base wo v M X) (hC : C < base) (hB : B < base) : Mrow base V v M X :=
  ⟨h.own ho.1 hC hB, fun j hj => by obtain ⟨ls, a, b, c⟩ := ho.2 j hj; exact ⟨ls, a, b, h.own c hC hB⟩⟩
theorem Far.grown {C B : Nat} {wo V V' : World} {row : Option Nat} (h : Far C B wo V) (hg : V.grownBy V' row) (hr : ∀ r, row = some r → r = C ∨ r = B ∨ wo.heap.size ≤ r) : Far C B wo V' :=
  ⟨Nat.le_trans h.1 hg.size, fun k hk h1 h2 => (hg.block k (Nat.lt_of_lt_of_le hk h.1) (fun e => by rcases hr k e.symm with h | h | h <;> omega)).trans (h.2 k hk h1 h2)⟩
theorem Far.refl (C B : Nat) (w : World) : Far C B w w := ⟨Nat.le_refl _, fun _ _ _ _ => rfl⟩
theorem grown_al (w : World) (o : Obj) (row : Option Nat) : w.grownBy (w.alloc o) row := World.grownBy_alloc w o row
theorem blk_set {w : World} {B k : Nat} {cs : Array Value} {t : TypeId} {fr : Nat × Nat} (h : w.heap[B]? = some (.cells cs t fr)) (u : Value) : (w.setCell ⟨B, k, none⟩ u).heap[B]? = some (.cells (cs.setIfInBounds k u) t fr) := by
  obtain ⟨hlt, hk⟩ := Array.getElem?_eq_some_iff.1 h
  show (w.heap.modify B _)[B]? = _
  rw [Array.getElem?_eq_getElem (by rw [Array.size_modify]; exact hlt), Array.getElem_modify_self, hk]
  rfl
def MdOk (m : Md) : Prop := m.name.length ≤ 11 ∧ m.lines.length ≤ 5 ∧ ∀ l ∈ m.lines, l.name.length ≤ 20
theorem Far.own2 {C g base : Nat} {wk V : World} (h : Far C g wk V) {t : TypeId} {sz : Nat} {v : Value} {n : Nat} {xs : List Value} (ho : wk.ownsRow base t sz v n xs) (hC : C < base) (hne : v.ownBlock ≠ some g) : V.ownsRow base t sz v n xs :=
  own_block ho (fun b hb => by
    have := ho.lt b hb
    exact h.2 b this.2 (by omega) (fun e => hne (by rw [hb, e])))
/-- From k on the modules have no lines yet. -/
def NoLn (X : List Value) (k n : Nat) : Prop := ∀ j, k ≤ j → j < n → X[j * 2 + 1]? = some (.slice none 0 0)
theorem set_same {X : List Value} {i : Nat} {a : Value} (h : X[i]? = some a) : X.set i a = X := by
  obtain ⟨hi, rfl⟩ := List.getElem?_eq_some_iff.1 h
  exact List.set_getElem_self hi
end Go.Proofs.YtimgafblpmjajaaGreat
namespace Go.Proofs.YtimgafblpmjajaaGreat
open Go.RowKit

theorem lnR_set : ∀ (L : List Ln) (k : Nat) (h : k < L.length) (op : Int) (_ : L[k].op = op) (z : Int), (L.flatMap lnR).set (k * 4 + 3) (.int .i64 z) = (L.set k ⟨op, L[k].name, L[k].num, z⟩).flatMap lnR
  | l :: r, 0, h, op, ho, z => by simp at ho; subst ho; simp [lnR]
  | l :: r, k + 1, h, op, ho, z => by
    have h' : k < r.length := by simpa using h
    have ih := lnR_set r k h' op (by simpa using ho) z
    have hl : (lnR l).length = 4 := rfl
    rw [List.flatMap_cons, List.set_append, if_neg (by omega), show (k + 1) * 4 + 3 - (lnR l).length = k * 4 + 3 by omega, ih]
    simp
/-- A line stored into its box. -/
def set4 (w : World) (b : Nat) (u0 u1 u2 u3 : Value) : World := (((w.setCell ⟨b, 0, none⟩ u0).setCell ⟨b, 1, none⟩ u1).setCell ⟨b, 2, none⟩ u2).setCell ⟨b, 3, none⟩ u3
theorem set4_blk {w : World} {b : Nat} {v0 v1 v2 v3 : Value} {t : TypeId} {fr : Nat × Nat} (h : w.heap[b]? = some (.cells #[v0, v1, v2, v3] t fr)) (u0 u1 u2 u3 : Value) : (set4 w b u0 u1 u2 u3).heap[b]? = some (.cells #[u0, u1, u2, u3] t fr) := by
  unfold set4
  rw [blk_set (blk_set (blk_set (blk_set h u0) u1) u2) u3]; rfl
theorem set4_far (w : World) (b : Nat) (u0 u1 u2 u3 : Value) {x : Nat} (h : x ≠ b) : (set4 w b u0 u1 u2 u3).heap[x]? = w.heap[x]? := by
  unfold set4
  rw [Below.heap_setCell _ _ _ _ h, Below.heap_setCell _ _ _ _ h, Below.heap_setCell _ _ _ _ h, Below.heap_setCell _ _ _ _ h]
theorem set4_grown (w : World) (b : Nat) (u0 u1 u2 u3 : Value) : w.grownBy (set4 w b u0 u1 u2 u3) (some b) :=
  grown_trans (grown_trans (grown_trans (grown_set w ⟨b, 0, none⟩ u0) (grown_set _ ⟨b, 1, none⟩ u1)) (grown_set _ ⟨b, 2, none⟩ u2)) (grown_set _ ⟨b, 3, none⟩ u3)
/-- What holds ahead of a line's being put behind a module's lines. -/
structure Swt (C g k cm n b0 : Nat) (w wA wk V : World) (N : Nat) (X : List Value) (ls : Value) (L : List Ln) (op num : Int) (q : ByteArray) : Prop where
  box : V.heap[b0]? = some (.cells #[.int .i64 op, .string q, .int .i64 num, .int .i64 0] 56 (0, 0))
  far : Far C g wk V
  xs : V.ownsRow (w.heap.size + 2) 39 2 (.slice (some ⟨g, 0, none⟩) N cm) N (X.set (k * 2 + 1) ls)
  lns : V.ownsRow wk.heap.size 56 4 ls L.length (L.flatMap lnR)
  cur : Cur V C n
  gr : wA.grownBy V (some C)
  low : wk.heap.size ≤ b0
  sz : q.size ≤ 20
theorem Swt.mk' {C g k cm n b0 : Nat} {w wA wk w5 : World} {N : Nat} {X : List Value} {ls : Value} {L : List Ln} (op num : Int) (q : ByteArray) {v0 v1 v2 v3 : Value} (hb : w5.heap[b0]? = some (.cells #[v0, v1, v2, v3] 56 (0, 0))) (hF : Far C g wk w5) (hX : w5.ownsRow (w.heap.size + 2) 39 2 (.slice (some ⟨g, 0, none⟩) N cm) N (X.set (k * 2 + 1) ls))
    (hl : w5.ownsRow wk.heap.size 56 4 ls L.length (L.flatMap lnR)) (hlb : ∀ b, ls.ownBlock = some b → b < b0) (hc : Cur w5 C n) (hg : wA.grownBy w5 (some C)) (hlow : wk.heap.size ≤ b0) (hC : C < w.heap.size) (hwk : w.heap.size + 1 ≤ wk.heap.size) (hwA : wA.heap.size = w.heap.size + 1) (hq : q.size ≤ 20) :
    Swt C g k cm n b0 w wA wk (set4 w5 b0 (.int .i64 op) (.string q) (.int .i64 num) (.int .i64 0)) N X ls L op num q := by
  have hgr := set4_grown w5 b0 (.int .i64 op) (.string q) (.int .i64 num) (.int .i64 0)
  refine ⟨set4_blk hb _ _ _ _, hF.grown hgr (fun r e => by cases e; exact .inr (.inr hlow)), own_block hX (fun b hb' => set4_far _ _ _ _ _ _ (fun e => blk_ne hb hX (by decide) (by rw [hb', e]))), own_block hl (fun b hb' => set4_far _ _ _ _ _ _ (by have := hlb b hb'; omega)), hc.kept hgr (fun r e => by cases e; omega), grown_far hg hgr (fun r e => by cases e; omega), hlow, hq⟩
end Go.Proofs.YtimgafblpmjajaaGreat
