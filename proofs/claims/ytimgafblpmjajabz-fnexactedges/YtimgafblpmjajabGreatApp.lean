
import Derived.Test.YtimgafblpmjajabGreatJoined

import Derived.ArgAppend

import Derived.WalkSmall

namespace Go.Proofs.YtimgafblpmjajabGreat

open Go.RowKit

theorem own_mono {w : World} {base base' : Nat} {e : TypeId} {size : Nat} {v : Value} {n : Nat} {xs : List Value} (h : w.ownsRow base e size v n xs) (hb : base' ≤ base) : w.ownsRow base' e size v n xs := by
  obtain ⟨h1, h2 | ⟨g, cap, cur, hv, hg, r⟩⟩ := h
  · exact ⟨h1, .inl h2⟩
  · exact ⟨h1, .inr ⟨g, cap, cur, hv, by omega, r⟩⟩

/-- 'append(out, x)' of one element of one cell, out nil or the call's own: and the row is the old one or a new one. -/
theorem wpList_app1 {P : Program} (w : World) {ops : Array Oper} {rest : List Oper} {o : Oper} {a : Act} {Q : Exit → Act → World → Prop}
    (hg : o.guard = none) (s x : Operand) (t : TypeId) (hop : o.op = Op.call { callee := Callee.builtin Builtin.append, args := #[s, x], argTypes := #[t, t] })
    (base : Nat) (e : TypeId) (i : TypeInfo) (z : Value) (bytes : Nat) (h1 : P.underlying t = some (.slice e)) (h2 : P.info? e = some i) (h3 : i.zero = some z) (h4 : i.size = 1) (h5 : i.bytes = bytes) (h6 : z.cells.size = 1)
    (v : Value) (n : Nat) (xs : List Value) (hs : a.eval s = v) (hown : w.ownsRow base e 1 v n xs)
    (ad : Addr) (c : Nat) (u : Value) (hx : a.eval x = .slice (some ad) 1 c) (hc : ∀ j u', [u][j]? = some u' → w.cell? (ad.add j) = some u') (h1c : u.oneCell' = true)
    (b1 : n + 1 ≤ maxLen) (b2 : (n + 1) * bytes ≤ 140737488355328) (hb : base ≤ w.heap.size)
    (hK : ∀ v' w', w'.ownsRow base e 1 v' (n + 1) (xs ++ [u]) → w.grownBy w' v.ownBlock → (v'.ownBlock = v.ownBlock ∨ ∃ g, v'.ownBlock = some g ∧ w.heap.size ≤ g) → wpList P ops Q rest (a.put o.dst v') w') :
    wpList P ops Q (o :: rest) a w := by
  have hcell1 : ∀ u' ∈ [u], u'.oneCell' = true := fun u' h => by simp at h; rw [h]; exact h1c
  have hgrows : ∀ (ao : Option Addr) (cap : Nat), v = .slice ao n cap → (ao = none → n = 0 ∧ cap = 0) → (∀ b, ao = some b → ∀ j u', xs[j]? = some u' → w.cell? (b.add j) = some u') → cap < n + 1 → wpList P ops Q (o :: rest) a w := by
    intro ao cap hv hnone holds hfull
    refine wpList_append_grows w hg s x t hop e i z 1 bytes h1 h2 h3 h4 h5 h6 (by decide) ao n cap xs (hs.trans hv) hnone hown.1 holds ad 1 c [u] hx rfl hc hcell1 hfull b1 b2 ?_
    intro v' w' ho hgr
    refine hK v' w' (own_mono ho hb) ⟨hgr.os, hgr.tape, hgr.output, hgr.size, fun k hk _ => hgr.block k hk (by simp)⟩ (.inr ?_)
    obtain ⟨_, ⟨_, h0⟩ | ⟨g, cap', cur, rfl, hge, _⟩⟩ := ho
    · omega
    · exact ⟨g, rfl, hge⟩
  rcases hown.2 with ⟨hv, hn⟩ | ⟨g, cap, cur, hv, hge, hh, hcap, hmax, hsz, htake⟩
  · exact hgrows none 0 (by rw [hv, hn]) (fun _ => ⟨hn, rfl⟩) (fun b h => by cases h) (by omega)
  · by_cases hroom : n + 1 ≤ cap
    · refine wpList_append_fits w hg s x t hop base e i 1 h1 h2 h4 g n cap xs (hs.trans hv) (hv ▸ hown) ad 1 c [u] hx rfl hc hcell1 hroom ?_
      intro w' ho hgr
      refine hK _ w' ho (by rw [hv]; exact hgr) (.inl (by rw [hv]; rfl))
    · exact hgrows (some ⟨g, 0, none⟩) cap hv (fun h => by cases h) (fun b h j u' hj => by
        cases h
        exact hown.cells (g := g) (by rw [hv]; rfl) j u' hj) (by omega)

/-- Two rows apart. -/
def Apart (v p : Value) : Prop := p.ownBlock = none ∨ p.ownBlock ≠ v.ownBlock

theorem Apart.app {w : World} {v v' p : Value} {base : Nat} {e : TypeId} {size n : Nat} {xs : List Value} (h : Apart v p) (hp : w.ownsRow base e size p n xs) (hn : v'.ownBlock = v.ownBlock ∨ ∃ g, v'.ownBlock = some g ∧ w.heap.size ≤ g) : Apart v' p := by
  rcases hn with hn | ⟨g, hg, hle⟩
  · unfold Apart; rw [hn]; exact h
  · cases hpb : p.ownBlock with
    | none => exact .inl hpb
    | some k =>
      right
      have := (hp.lt k hpb).2
      rw [hg, hpb]; intro e'; cases e'; omega

/-- What is owned stays owned while nothing below turns. -/
theorem own_below {w w' : World} {B base : Nat} {e : TypeId} {size : Nat} {v : Value} {n : Nat} {xs : List Value} (h : w.ownsRow base e size v n xs) (hB : Below B w w') (hlt : w.heap.size ≤ B) : w'.ownsRow base e size v n xs := by
  obtain ⟨h1, h2 | ⟨g, cap, cur, hv, hg, hh, r⟩⟩ := h
  · exact ⟨h1, .inl h2⟩
  · have hgl := (Array.getElem?_eq_some_iff.1 hh).1
    exact ⟨h1, .inr ⟨g, cap, cur, hv, hg, by rw [hB.block g (by omega)]; exact hh, r⟩⟩

theorem pop_row {w : World} {base : Nat} {v : Value} {D : List (List UInt8)} (hD : D ≠ []) (h : w.ownsRow base 9 1 v D.length (D.map strV)) :
    ∃ g cap, v = .slice (some ⟨g, 0, none⟩) D.length cap ∧ D.length ≤ cap ∧ w.ownsRow base 9 1 (.slice (some ⟨g, 0, none⟩) (D.length - 1) cap) D.dropLast.length (D.dropLast.map strV) := by
  have hpos : 0 < D.length := List.length_pos_iff.2 hD
  obtain ⟨h1, ⟨_, h0⟩ | ⟨g, cap, cur, rfl, hg, hh, hcap, hmax, hsz, htake⟩⟩ := h
  · omega
  · refine ⟨g, cap, rfl, hcap, ?_⟩
    rw [List.length_dropLast]
    refine ⟨by simp, .inr ⟨g, cap, cur, rfl, hg, hh, by omega, hmax, hsz, ?_⟩⟩
    rw [List.dropLast_eq_take, List.map_take, ← htake, List.take_take]
    congr 1; omega

end Go.Proofs.YtimgafblpmjajabGreat
