import Derived.Test.YtimgafblpmjajabGreatHi
import Derived.Test.YtimgafblpmjajabGreatHp
import Derived.Test.YtimgafblpmjajabGreatGf
import Derived.Deep.AppendLies
import Derived.Deep.RegionLaw
namespace Go.Proofs.YtimgafblpmjajabGreat
open Go.RowKit

/-- The rows of where imports lead, each in a block of its own. -/
structure Lds (lo : Nat) (w : World) (g : Nat) (S : List Value) (E : List Eg) : Prop where
  blk : w.heap[g]? = some (.cells S.toArray 24 (0, 0))
  low : lo ≤ g
  row : ∀ j s, S[j]? = some s → w.ownsRow lo 3 1 s (leadsOf E j).length ((leadsOf E j).map numV)
  dis : ∀ (i j : Nat) (a b : Value) (q : Nat), S[i]? = some a → S[j]? = some b → i ≠ j → a.ownBlock = some q → b.ownBlock ≠ some q
/-- A graph while it is made. -/
structure Gst (lo B mb g : Nat) (w : World) (r m f ve : Value) (S : List Value) (F E : List Eg) (N : Nat) (DM : DataW Unit) : Prop where
  blk : w.heap[B]? = some (.cells #[r, m, f, .map (some mb), ve, .slice (some ⟨g, 0, none⟩) N N] 62 (0, 0))
  low : lo ≤ B
  edg : w.ownsRow lo 54 3 ve F.length (F.flatMap egR)
  lds : Lds lo w g S E
  len : S.length = N
  sto : w.ownsMap Tryz.prog 106 (plainElem Tryz.prog 3) mb N DM
/-- All that is no row of edges, no row of numbers, no row of rows and no graph stands. -/
def Kg (w w' : World) : Prop := ∀ (b : Nat), b < w.heap.size → (∀ cs t fr, w.heap[b]? = some (.cells cs t fr) → t ≠ 54 ∧ t ≠ 3 ∧ t ≠ 24 ∧ t ≠ 62) → w'.heap[b]? = w.heap[b]?
theorem Kg.map {w w' : World} (h : Kg w w') {b n : Nat} {k : TypeId} {R : Value → Option (DataW Unit × List MemPlace)} {D : DataW Unit} (hm : w.ownsMap Tryz.prog k R b n D) : w'.ownsMap Tryz.prog k R b n D := by
  obtain ⟨es, clock, hh, r⟩ := hm
  exact ⟨es, clock, (h b (Array.getElem?_eq_some_iff.1 hh).1 (fun cs t fr e => by rw [hh] at e; cases e)).trans hh, r⟩
theorem Kg.of_keep {w w' : World} (h : ∀ b, b < w.heap.size → w'.heap[b]? = w.heap[b]?) : Kg w w' := fun b hb _ => h b hb
theorem Kg.refl (w : World) : Kg w w := fun _ _ _ => rfl
theorem Kg.trans {w w1 w2 : World} (h : Kg w w1) (k : Kg w1 w2) (hs : w.heap.size ≤ w1.heap.size) : Kg w w2 := fun b hb ht =>
  (k b (Nat.lt_of_lt_of_le hb hs) (fun cs t fr e => ht cs t fr ((h b hb ht).symm.trans e))).trans (h b hb ht)
theorem Kg.grown {w w' : World} {lo : Nat} {t : TypeId} {sz n : Nat} {v : Value} {xs : List Value} (hg : w.grownBy w' v.ownBlock) (hr : w.ownsRow lo t sz v n xs) (ht : t = 54 ∨ t = 3) : Kg w w' := fun b hb hh =>
  hg.block b hb (fun ev => by
    obtain ⟨_, j2 | ⟨q, c, cur, rfl, _, hq, _⟩⟩ := hr
    · rw [j2.1] at ev; cases ev
    · simp [Value.ownBlock] at ev
      subst ev
      have := hh _ _ _ hq
      rcases ht with ht | ht
      · exact this.1 ht
      · exact this.2.1 ht)
theorem Kg.set {w : World} {B i : Nat} {cs : Array Value} {t : TypeId} {fr : Nat × Nat} (hB : w.heap[B]? = some (.cells cs t fr)) (ht : t = 62 ∨ t = 24) (u : Value) : Kg w (w.setCell ⟨B, i, none⟩ u) := fun b _ hh =>
  Below.heap_setCell _ _ _ _ (fun e => by
    have e' : b = B := e
    subst e'
    have := hh _ _ _ hB
    rcases ht with ht | ht
    · exact this.2.2.2 ht
    · exact this.2.2.1 ht)
theorem Kg.of_below {w w' : World} (h : Below w.heap.size w w') : Kg w w' := fun b hb _ => h.block b hb
theorem Lds.keep {lo g : Nat} {w w' : World} {S : List Value} {E : List Eg} (h : Lds lo w g S E) (hg : w'.heap[g]? = w.heap[g]?) (hr : ∀ s ∈ S, ∀ b, s.ownBlock = some b → w'.heap[b]? = w.heap[b]?) : Lds lo w' g S E :=
  ⟨hg.trans h.blk, h.low, fun j s hs => own_block (h.row j s hs) (hr s (List.mem_of_getElem? hs)), h.dis⟩
theorem Gst.keep {lo B mb g : Nat} {w w' : World} {r m f ve : Value} {S : List Value} {F E : List Eg} {N : Nat} {DM : DataW Unit} (h : Gst lo B mb g w r m f ve S F E N DM) (hb : ∀ b, b < w.heap.size → w'.heap[b]? = w.heap[b]?) : Gst lo B mb g w' r m f ve S F E N DM :=
  ⟨(hb B (Array.getElem?_eq_some_iff.1 h.blk).1).trans h.blk, h.low, own_block h.edg (fun b e => hb b (h.edg.lt b e).2),
   h.lds.keep (hb g (Array.getElem?_eq_some_iff.1 h.lds.blk).1) (fun s hs b e => by
     obtain ⟨j, hj, rfl⟩ := List.getElem_of_mem hs
     exact hb b ((h.lds.row j _ (List.getElem?_eq_getElem hj)).lt b e).2), h.len, (Kg.of_keep hb).map h.sto⟩
theorem Gst.alloc {lo B mb g : Nat} {w : World} {r m f ve : Value} {S : List Value} {F E : List Eg} {N : Nat} {DM : DataW Unit} (h : Gst lo B mb g w r m f ve S F E N DM) (o : Obj) : Gst lo B mb g (w.alloc o) r m f ve S F E N DM :=
  h.keep (fun _ hb => old_blk w o hb)
theorem Gst.below {lo B mb g : Nat} {w w' : World} {r m f ve : Value} {S : List Value} {F E : List Eg} {N : Nat} {DM : DataW Unit} (h : Gst lo B mb g w r m f ve S F E N DM) (hb : Below w.heap.size w w') : Gst lo B mb g w' r m f ve S F E N DM :=
  h.keep (fun b h => hb.block b h)
theorem Gst.lt {lo B mb g : Nat} {w : World} {r m f ve : Value} {S : List Value} {F E : List Eg} {N : Nat} {DM : DataW Unit} (h : Gst lo B mb g w r m f ve S F E N DM) : B < w.heap.size ∧ g < w.heap.size ∧ lo ≤ g :=
  ⟨(Array.getElem?_eq_some_iff.1 h.blk).1, (Array.getElem?_eq_some_iff.1 h.lds.blk).1, h.lds.low⟩
theorem Gst.cells {lo B mb g : Nat} {w : World} {r m f ve : Value} {S : List Value} {F E : List Eg} {N : Nat} {DM : DataW Unit} (h : Gst lo B mb g w r m f ve S F E N DM) :
    w.cell? ⟨B, 0, none⟩ = some r ∧ w.cell? ⟨B, 1, none⟩ = some m ∧ w.cell? ⟨B, 2, none⟩ = some f ∧ w.cell? ⟨B, 3, none⟩ = some (.map (some mb)) ∧ w.cell? ⟨B, 4, none⟩ = some ve ∧ w.cell? ⟨B, 5, none⟩ = some (.slice (some ⟨g, 0, none⟩) N N) ∧ w.frozen? ⟨B, 4, none⟩ = false := by
  have hb := h.blk
  simp [World.cell?, World.frozen?, hb]
theorem grown_heap {w w' : World} (hg : w.grownBy w' (none : Option Nat)) : ∀ b, b < w.heap.size → w'.heap[b]? = w.heap[b]? := fun b hb => hg.block b hb (fun e => by cases e)
/-- The row of edges has one more; nothing else that was there has turned but the graph's box. -/
theorem Gst.edge {lo B mb g ge cap : Nat} {w w2 w3 : World} {r m f ve : Value} {S : List Value} {F E : List Eg} {N : Nat} {DM : DataW Unit} (h : Gst lo B mb g w r m f ve S F E N DM) {e : Eg}
    (ho : w2.ownsRow lo 54 3 (.slice (some ⟨ge, 0, none⟩) (F.length + 1) cap) (F.length + 1) (F.flatMap egR ++ egR e)) (hg : w.grownBy w2 ve.ownBlock)
    (h3 : w3 = w2.setCell ⟨B, 4, none⟩ (.slice (some ⟨ge, 0, none⟩) (F.length + 1) cap)) : Gst lo B mb g w3 r m f (.slice (some ⟨ge, 0, none⟩) (F.length + 1) cap) S (F ++ [e]) E N DM := by
  have kB : w2.heap[B]? = w.heap[B]? := hg.block B h.lt.1 (fun ev => blk_ne h.blk h.edg (by decide) ev.symm)
  have kc : ∀ b, b < w.heap.size → b ≠ B → (∀ cs t fr, w.heap[b]? = some (.cells cs t fr) → t ≠ 54) → w3.heap[b]? = w.heap[b]? := fun b hb hne ht => by
    rw [h3, Below.heap_setCell _ _ _ _ hne]
    refine hg.block b hb (fun ev => ?_)
    obtain ⟨_, j2 | ⟨q, c, cur, rfl, _, hq, _⟩⟩ := h.edg
    · rw [j2.1] at ev; cases ev
    · simp [Value.ownBlock] at ev
      subst ev
      exact ht _ _ _ hq rfl
  have blkof : ∀ {t : TypeId} {sz n : Nat} {v : Value} {xs : List Value}, w.ownsRow lo t sz v n xs → t ≠ 54 → t ≠ 62 → ∀ b, v.ownBlock = some b → w3.heap[b]? = w.heap[b]? := fun {t sz n v xs} hr h1 h2 b hb => by
    obtain ⟨_, j2 | ⟨q, c, cur, rfl, _, hq, _⟩⟩ := hr
    · rw [j2.1] at hb; cases hb
    · simp [Value.ownBlock] at hb
      subst hb
      refine kc _ (Array.getElem?_eq_some_iff.1 hq).1 (fun e => ?_) (fun cs t' fr hh => ?_)
      · rw [e, h.blk] at hq; simp at hq; exact h2 hq.2.symm
      · rw [hq] at hh; simp at hh; rw [← hh.2.1]; exact h1
  refine ⟨?_, h.low, ?_, ?_, h.len, ?_⟩
  · rw [h3, heap_setCell_same w2 B 4 _ _ _ (kB.trans h.blk)]; rfl
  · rw [h3]
    refine own_block (w := w2) ?_ (fun b hb => Below.heap_setCell _ _ _ _ (fun e' => blk_ne (kB.trans h.blk) ho (by decide) (by rw [hb]; exact congrArg some e')))
    rw [List.length_append, List.length_singleton, List.flatMap_append]
    simpa using ho
  · exact h.lds.keep (w' := w3) (kc g h.lt.2.1 (fun e => by have h1 := h.lds.blk; rw [e, h.blk] at h1; simp at h1) (fun cs t fr hh => by rw [h.lds.blk] at hh; simp at hh; rw [← hh.2.1]; decide)) (fun s hs b hb => by
      obtain ⟨j, hj, rfl⟩ := List.getElem_of_mem hs
      exact blkof (h.lds.row j _ (List.getElem?_eq_getElem hj)) (by decide) (by decide) b hb)
  · have k : Kg w w3 := fun b hb ht => kc b hb (fun e => by subst e; exact (ht _ _ _ h.blk).2.2.2 rfl) (fun cs t fr hh => (ht cs t fr hh).1)
    exact k.map h.sto
/-- An edge that leads nowhere is in no row. -/
theorem Gst.skip {lo B mb g : Nat} {w : World} {r m f ve : Value} {S : List Value} {F E : List Eg} {N : Nat} {DM : DataW Unit} (h : Gst lo B mb g w r m f ve S F E N DM) {e : Eg} (hto : ¬ 0 ≤ e.to) : Gst lo B mb g w r m f ve S F (E ++ [e]) N DM := by
  have hl : ∀ j, leadsOf (E ++ [e]) j = leadsOf E j := fun j => by rw [leadsOf_snoc, if_neg (fun h => hto h.2), List.append_nil]
  exact ⟨h.blk, h.low, h.edg, ⟨h.lds.blk, h.lds.low, fun j s hs => by rw [hl j]; exact h.lds.row j s hs, h.lds.dis⟩, h.len, h.sto⟩
/-- .. and the row of the module that it leads from, too. -/
theorem Gst.lead {lo B mb g gs cap : Nat} {w w2 w3 : World} {r m f ve s : Value} {S : List Value} {F E : List Eg} {N : Nat} {DM : DataW Unit} {e : Eg} {i t : Nat} (hi : e.src = (i : Int)) (ht : e.to = (t : Int))
    (h : Gst lo B mb g w r m f ve S F E N DM) (hs : S[i]? = some s)
    (ho : w2.ownsRow lo 3 1 (.slice (some ⟨gs, 0, none⟩) ((leadsOf E i).length + 1) cap) ((leadsOf E i).length + 1) ((leadsOf E i).map numV ++ [numV t])) (hg : w.grownBy w2 s.ownBlock) (hat : s.ownBlock = some gs ∨ w.heap.size ≤ gs)
    (h3 : w3 = w2.setCell ⟨g, i, none⟩ (.slice (some ⟨gs, 0, none⟩) ((leadsOf E i).length + 1) cap)) : Gst lo B mb g w3 r m f ve (S.set i (.slice (some ⟨gs, 0, none⟩) ((leadsOf E i).length + 1) cap)) F (E ++ [e]) N DM := by
  have he := h.edg
  have hl : ∀ j, leadsOf (E ++ [e]) j = leadsOf E j ++ (if i = j then [t] else []) := fun j => by
    rw [leadsOf_snoc]
    by_cases hij : i = j
    · rw [if_pos ⟨by rw [hi, hij], by omega⟩, if_pos hij, ht]; rfl
    · rw [if_neg (fun h => hij (by have := h.1; omega)), if_neg hij]
  have hil : i < S.length := by
    rcases Nat.lt_or_ge i S.length with h1 | h1
    · exact h1
    · rw [List.getElem?_eq_none h1] at hs; cases hs
  have hrow := h.lds.row i s hs
  have kg : w2.heap[g]? = w.heap[g]? := hg.block g h.lt.2.1 (fun ev => blk_ne h.lds.blk hrow (by decide) ev.symm)
  have kc : ∀ b, b < w.heap.size → b ≠ g → s.ownBlock ≠ some b → w3.heap[b]? = w.heap[b]? := fun b hb hne ht => by
    rw [h3, Below.heap_setCell _ _ _ _ hne]
    exact hg.block b hb (fun ev => ht ev.symm)
  have kt : ∀ (b : Nat) (cs : Array Value) (t : TypeId) (fr : Nat × Nat), w.heap[b]? = some (.cells cs t fr) → t ≠ 24 → t ≠ 3 → w3.heap[b]? = w.heap[b]? := fun b cs t fr hh h1 h2 => by
    refine kc b (Array.getElem?_eq_some_iff.1 hh).1 (fun e => ?_) (fun ev => blk_ne hh hrow h2 ev)
    rw [e, h.lds.blk] at hh; simp at hh; exact h1 hh.2.1.symm
  refine ⟨?_, h.low, ?_, ⟨?_, h.lds.low, ?_, ?_⟩, by rw [List.length_set]; exact h.len, ?_⟩
  · rw [kt B _ _ _ h.blk (by decide) (by decide)]; exact h.blk
  · refine own_block he (fun b hb => ?_)
    obtain ⟨_, j2 | ⟨q, c, cur, rfl, _, hq, _⟩⟩ := he
    · rw [j2.1] at hb; cases hb
    · simp [Value.ownBlock] at hb
      subst hb
      exact kt _ _ _ _ hq (by decide) (by decide)
  · rw [h3, heap_setCell_same w2 g i _ _ _ (kg.trans h.lds.blk)]
    simp
  · intro j s' hs'
    rw [hl j]
    by_cases hij : i = j
    · subst hij
      rw [List.getElem?_set_self hil] at hs'
      cases hs'
      rw [if_pos rfl, List.length_append, List.length_singleton, List.map_append, List.map_singleton, h3]
      exact own_block ho (fun b hb => Below.heap_setCell _ _ _ _ (fun e' => blk_ne (kg.trans h.lds.blk) ho (by decide) (by rw [hb]; exact congrArg some e')))
    · rw [List.getElem?_set_ne hij] at hs'
      rw [if_neg hij, List.append_nil]
      have h1 := h.lds.row j s' hs'
      exact own_block h1 (fun b hb => kc b (h1.lt b hb).2 (fun e' => blk_ne h.lds.blk h1 (by decide) (by rw [hb, e'])) (fun e' => h.lds.dis i j s s' b hs hs' hij e' hb))
  · intro a b x y q hx hy hab hq
    by_cases ha : i = a
    · subst ha
      rw [List.getElem?_set_self hil] at hx
      cases hx
      rw [List.getElem?_set_ne hab] at hy
      simp [Value.ownBlock] at hq
      subst hq
      rcases hat with hat | hat
      · exact h.lds.dis _ _ _ _ _ hs hy hab hat
      · intro hyb
        have := ((h.lds.row b y hy).lt _ hyb).2
        omega
    · rw [List.getElem?_set_ne ha] at hx
      by_cases hb : i = b
      · subst hb
        rw [List.getElem?_set_self hil] at hy
        cases hy
        intro hyb
        simp [Value.ownBlock] at hyb
        subst hyb
        rcases hat with hat | hat
        · exact h.lds.dis _ _ _ _ _ hx hs hab hq hat
        · have := ((h.lds.row a x hx).lt _ hq).2
          omega
      · rw [List.getElem?_set_ne hb] at hy
        exact h.lds.dis _ _ _ _ _ hx hy hab hq
  · have k : Kg w w3 := fun b hb ht => kc b hb (fun e => by subst e; exact (ht _ _ _ h.lds.blk).2.2.1 rfl) (fun ev => by
      obtain ⟨_, j2 | ⟨q, c, cur, rfl, _, hq, _⟩⟩ := hrow
      · rw [j2.1] at ev; cases ev
      · simp [Value.ownBlock] at ev
        subst ev
        exact (ht _ _ _ hq).2.1 rfl)
    exact k.map h.sto
end Go.Proofs.YtimgafblpmjajabGreat
