import Derived.Deep.RegionHeld3
import Derived.Test.YtimgafblpmjajaaGreatKb7
namespace Go.Proofs.YtimgafblpmjajaaGreat

open Go.RowKit

/-- An edge from a to b. -/
def Stp (E : List Eg) (a b : Nat) : Prop := ∃ e ∈ E, e.src = (a : Int) ∧ e.to = (b : Int)
/-- What can be reached from a. -/
def Rch (E : List Eg) (a b : Nat) : Prop := ∀ P : Nat → Prop, P a → (∀ x y, P x → Stp E x y → P y) → P b
theorem Rch.refl {E : List Eg} (a : Nat) : Rch E a a := fun _ h _ => h
theorem Rch.step {E : List Eg} {a b c : Nat} (h : Rch E a b) (hs : Stp E b c) : Rch E a c := fun P h0 h1 => h1 _ _ (h P h0 h1) hs
/-- There is no way back. -/
def Acyc (E : List Eg) : Prop := ∀ a b, Rch E a b → ¬ Stp E b a
/-- Each stands behind all that it leads to. -/
def Topo (E : List Eg) (L : List Nat) : Prop := ∀ A x B, L = A ++ x :: B → ∀ y, Stp E x y → y ∈ A
theorem Topo.snoc {E : List Eg} {L : List Nat} (h : Topo E L) {k : Nat} (hk : ∀ y, Stp E k y → y ∈ L) : Topo E (L ++ [k]) := by
  intro A x B hL y hy
  rcases List.eq_nil_or_concat B with rfl | ⟨B', b, rfl⟩
  · have := List.append_inj' hL (by simp)
    obtain ⟨rfl, h2⟩ := this
    simp at h2; subst h2
    exact hk y hy
  · have hL' : L ++ [k] = (A ++ x :: B') ++ [b] := by rw [hL]; simp
    have := List.append_inj' hL' (by simp)
    exact h A x B' this.1 y hy
structure DI (E : List Eg) (N : Nat) (G : Nat → Prop) (s : List Bool × List Nat) : Prop where
  len : s.1.length = N
  met : ∀ x ∈ s.2, s.1[x]? = some true
  all : ∀ x : Nat, s.1[x]? = some true → x ∈ s.2 ∨ G x
  topo : Topo E s.2
  nodup : s.2.Nodup
/-- What a visit leaves. -/
structure DP (E : List Eg) (N : Nat) (G : Nat → Prop) (s s' : List Bool × List Nat) : Prop where
  di : DI E N G s'
  ext : ∃ T, s'.2 = s.2 ++ T ∧ ∀ x ∈ T, s.1[x]? = some false
  mono : ∀ x : Nat, s.1[x]? = some true → s'.1[x]? = some true
  less : unmet s'.1 ≤ unmet s.1
theorem DP.rfl' {E : List Eg} {N : Nat} {G : Nat → Prop} {s : List Bool × List Nat} (h : DI E N G s) : DP E N G s s := ⟨h, ⟨[], by simp, by simp⟩, fun _ h => h, Nat.le_refl _⟩
theorem DP.trans {E : List Eg} {N : Nat} {G : Nat → Prop} {s s' s'' : List Bool × List Nat} (h : DI E N G s) (h1 : DP E N G s s') (h2 : DP E N G s' s'') : DP E N G s s'' := by
  obtain ⟨T, hT, hf⟩ := h1.ext
  obtain ⟨T', hT', hf'⟩ := h2.ext
  refine ⟨h2.di, ⟨T ++ T', by rw [hT', hT, List.append_assoc], fun x hx => ?_⟩, fun x hx => h2.mono x (h1.mono x hx), Nat.le_trans h2.less h1.less⟩
  rcases List.mem_append.1 hx with hx | hx
  · exact hf x hx
  · have := hf' x hx
    rcases hc : s.1[x]? with _ | b
    · have hl : x < s'.1.length := by
        rcases Nat.lt_or_ge x s'.1.length with hl | hl
        · exact hl
        · rw [List.getElem?_eq_none hl] at this; cases this
      rw [h1.di.len, ← h.len] at hl
      rw [List.getElem?_eq_getElem hl] at hc; cases hc
    · cases b with
      | false => rfl
      | true => rw [h1.mono x hc] at this; cases this
theorem fold_dp {E : List Eg} {N f k : Nat} {G : Nat → Prop} (hE : ∀ e ∈ E, e.to < (N : Int)) (hA : Acyc E) (hG : ∀ g, G g → Rch E g k)
    (ih : ∀ k s (G : Nat → Prop), k < N → (∀ g, G g → Rch E g k) → DI E N G s → unmet s.1 < f → DP E N G s (vis E f k s) ∧ (vis E f k s).1[k]? = some true) :
    ∀ (L : List Eg), (∀ e ∈ L, e ∈ E) → ∀ s, DI E N G s → unmet s.1 < f → DP E N G s (L.foldl (visStep E f k) s) ∧ ∀ e ∈ L, e.src = (k : Int) → 0 ≤ e.to → e.to.toNat ∈ (L.foldl (visStep E f k) s).2
  | [], _, s, h, _ => ⟨DP.rfl' h, fun e he => by simp at he⟩
  | e :: r, hL, s, h, hu => by
    rw [List.foldl_cons]
    have heE := hL e (by simp)
    have hs : DP E N G s (visStep E f k s e) ∧ (e.src = (k : Int) → 0 ≤ e.to → e.to.toNat ∈ (visStep E f k s e).2) := by
      unfold visStep
      split
      · rename_i hc
        have hto := hE e heE
        have hst : Stp E k e.to.toNat := ⟨e, heE, hc.1, by omega⟩
        obtain ⟨h1, h2⟩ := ih e.to.toNat s G (by omega) (fun g hg => (hG g hg).step hst) h hu
        refine ⟨h1, fun _ _ => ?_⟩
        rcases h1.di.all _ h2 with h3 | h3
        · exact h3
        · exact absurd hst (hA _ _ (hG _ h3))
      · rename_i hc
        exact ⟨DP.rfl' h, fun h1 h2 => absurd ⟨h1, h2⟩ hc⟩
    obtain ⟨i1, i2⟩ := fold_dp (G := G) hE hA hG ih r (fun x hx => hL x (by simp [hx])) _ hs.1.di (Nat.lt_of_le_of_lt hs.1.less hu)
    refine ⟨DP.trans h hs.1 i1, fun x hx h1 h2 => ?_⟩
    rcases List.mem_cons.1 hx with rfl | hx
    · obtain ⟨T, hT, _⟩ := i1.ext
      rw [hT]; exact List.mem_append_left _ (hs.2 h1 h2)
    · exact i2 x hx h1 h2
theorem vis_dp {E : List Eg} {N : Nat} (hE : ∀ e ∈ E, e.to < (N : Int)) (hA : Acyc E) : ∀ (f k : Nat) (s : List Bool × List Nat) (G : Nat → Prop), k < N → (∀ g, G g → Rch E g k) → DI E N G s → unmet s.1 < f → DP E N G s (vis E f k s) ∧ (vis E f k s).1[k]? = some true
  | 0, _, _, _, _, _, _, hu => absurd hu (by omega)
  | f + 1, k, s, G, hk, hG, h, hu => by
    have hkl : k < s.1.length := by rw [h.len]; exact hk
    by_cases hm : s.1[k]? = some false
    · have hu1 := unmet_set s.1 k hm
      have hks : k ∉ s.2 := fun hc => by have := h.met k hc; rw [hm] at this; cases this
      have h0 : DI E N (fun x => G x ∨ x = k) (s.1.set k true, s.2) := by
        refine ⟨by simp [h.len], fun x hx => ?_, fun x hx => ?_, h.topo, h.nodup⟩
        · have hne : k ≠ x := fun e => hks (e ▸ hx)
          simp only []; rw [List.getElem?_set_ne hne]; exact h.met x hx
        · by_cases hxk : k = x
          · exact .inr (.inr hxk.symm)
          · simp only [] at hx; rw [List.getElem?_set_ne hxk] at hx
            rcases h.all x hx with h1 | h1
            · exact .inl h1
            · exact .inr (.inl h1)
      obtain ⟨h1, h2⟩ := fold_dp (k := k) (G := fun x => G x ∨ x = k) hE hA (fun g hg => by
        rcases hg with hg | rfl
        · exact hG g hg
        · exact .refl _) (fun k s G hk hG hs hu => vis_dp hE hA f k s G hk hG hs hu) E (fun _ h => h) _ h0 (by simp only []; omega)
      rw [vis_eq E f k s hm]
      obtain ⟨F, hF⟩ : ∃ F, F = E.foldl (visStep E f k) (s.1.set k true, s.2) := ⟨_, rfl⟩
      rw [← hF] at h1 h2 ⊢
      obtain ⟨T, hT, hTf⟩ := h1.ext
      have hkT : k ∉ T := fun hc => by
        have := hTf k hc
        simp only [] at this
        rw [List.getElem?_set_self hkl] at this; cases this
      have hkF : k ∉ F.2 := by
        rw [hT]; intro hc
        rcases List.mem_append.1 hc with hc | hc
        · exact hks hc
        · exact hkT hc
      have hkm : F.1[k]? = some true := h1.mono k (by simp only []; rw [List.getElem?_set_self hkl])
      refine ⟨⟨⟨h1.di.len, fun x hx => ?_, fun x hx => ?_, ?_, ?_⟩, ⟨T ++ [k], by simp [hT], fun x hx => ?_⟩, fun x hx => ?_, ?_⟩, hkm⟩
      · simp only [List.mem_append, List.mem_singleton] at hx
        rcases hx with hx | rfl
        · exact h1.di.met x hx
        · exact hkm
      · rcases h1.di.all x hx with h3 | h3 | h3
        · exact .inl (List.mem_append_left _ h3)
        · exact .inr h3
        · exact .inl (by simp [h3])
      · refine h1.di.topo.snoc (fun y hy => ?_)
        obtain ⟨e, he, e1, e2⟩ := hy
        have := h2 e he e1 (by omega)
        rw [e2] at this; simpa using this
      · simp only []
        rw [List.nodup_append]
        exact ⟨h1.di.nodup, by simp, fun a ha b hb => by simp at hb; subst hb; exact fun e => hkF (e ▸ ha)⟩
      · rcases List.mem_append.1 hx with hx | hx
        · have hne : k ≠ x := fun e => hkT (e ▸ hx)
          have := hTf x hx
          simp only [] at this
          rw [List.getElem?_set_ne hne] at this; exact this
        · simp at hx; subst hx; exact hm
      · by_cases hxk : k = x
        · subst hxk; exact hkm
        · exact h1.mono x (by simp only []; rw [List.getElem?_set_ne hxk]; exact hx)
      · have := h1.less; simp only [] at this ⊢; omega
    · rw [vis_met E _ k s hm]
      refine ⟨DP.rfl' h, ?_⟩
      rw [List.getElem?_eq_getElem hkl] at hm ⊢
      cases hb : s.1[k] with
      | true => rfl
      | false => exact absurd (by rw [hb]) hm
theorem vis_topo {E : List Eg} {N k : Nat} (hE : ∀ e ∈ E, e.to < (N : Int)) (hA : Acyc E) (hk : k < N) : Topo E (vis E (N + 1) k (List.replicate N false, [])).2 ∧ (vis E (N + 1) k (List.replicate N false, [])).2.Nodup := by
  have h0 : DI E N (fun _ => False) (List.replicate N false, []) := by
    refine ⟨by simp, by simp, fun x hx => ?_, fun A x B h => by simp at h, by simp⟩
    simp only [List.getElem?_replicate] at hx
    split at hx <;> simp at hx
  obtain ⟨h1, _⟩ := vis_dp hE hA (N + 1) k _ _ hk (fun g hg => hg.elim) h0 (by simp [unmet_rep])
  exact ⟨h1.di.topo, h1.di.nodup⟩

/-- Whoever has a 'from' stands in the line. -/
def RJ (N : Nat) (s : List Int × List Nat) : Prop := s.1.length = N ∧ ∀ y, y < N → ¬ ((s.1[y]?).getD 0 < 0) → y ∈ s.2
theorem rin_cl {N k x : Nat} : ∀ (L : List Eg) (s : List Int × List Nat), (∀ e ∈ L, e.to < (N : Int)) → RJ N s → (rin k x L s).1 = false →
    RJ N (rin k x L s).2 ∧ (∃ T, (rin k x L s).2.2 = s.2 ++ T) ∧ ∀ e ∈ L, e.src = (x : Int) → 0 ≤ e.to → e.to ≠ (k : Int) ∧ e.to.toNat ∈ (rin k x L s).2.2
  | [], s, _, h, _ => ⟨h, ⟨[], by simp [rin]⟩, fun e he => by simp at he⟩
  | e :: r, s, hL, h, hf => by
    have hr : ∀ e ∈ r, e.to < (N : Int) := fun y hy => hL y (by simp [hy])
    have he := hL e (by simp)
    rw [rin] at hf ⊢
    by_cases hc : e.src = (x : Int) ∧ 0 ≤ e.to
    · rw [if_pos hc] at hf ⊢
      by_cases hk : e.to = (k : Int)
      · rw [if_pos hk] at hf; simp at hf
      · rw [if_neg hk] at hf ⊢
        by_cases hneg : (s.1[e.to.toNat]?).getD 0 < 0
        · rw [if_pos hneg] at hf ⊢
          have hJ : RJ N (s.1.set e.to.toNat (x : Int), s.2 ++ [e.to.toNat]) := by
            refine ⟨by simp [h.1], fun y hy hn => ?_⟩
            by_cases hy' : e.to.toNat = y
            · simp [hy']
            · simp only [] at hn; rw [List.getElem?_set_ne hy'] at hn
              exact List.mem_append_left _ (h.2 y hy hn)
          obtain ⟨i1, ⟨T, i2⟩, i3⟩ := rin_cl r _ hr hJ hf
          refine ⟨i1, ⟨e.to.toNat :: T, by rw [i2]; simp⟩, fun y hy h1 h2 => ?_⟩
          rcases List.mem_cons.1 hy with rfl | hy
          · exact ⟨hk, by rw [i2]; simp⟩
          · exact i3 y hy h1 h2
        · rw [if_neg hneg] at hf ⊢
          obtain ⟨i1, ⟨T, i2⟩, i3⟩ := rin_cl r s hr h hf
          refine ⟨i1, ⟨T, i2⟩, fun y hy h1 h2 => ?_⟩
          rcases List.mem_cons.1 hy with rfl | hy
          · exact ⟨hk, by rw [i2]; exact List.mem_append_left _ (h.2 _ (by omega) hneg)⟩
          · exact i3 y hy h1 h2
    · rw [if_neg hc] at hf ⊢
      obtain ⟨i1, ⟨T, i2⟩, i3⟩ := rin_cl r s hr h hf
      refine ⟨i1, ⟨T, i2⟩, fun y hy h1 h2 => ?_⟩
      rcases List.mem_cons.1 hy with rfl | hy
      · exact absurd ⟨h1, h2⟩ hc
      · exact i3 y hy h1 h2
/-- The search that finds no way back leaves a line that is closed. -/
theorem rout_cl {E : List Eg} {N k : Nat} (hE : ∀ e ∈ E, e.to < (N : Int)) : ∀ (f i : Nat) (s : List Int × List Nat), RI N k s → RJ N s → N < i + f →
    (∀ j x, j < i → s.2[j]? = some x → ∀ y, Stp E x y → y ≠ k ∧ y ∈ s.2) → rout E k f i s = none →
    ∃ C : List Nat, k ∈ C ∧ ∀ x ∈ C, ∀ y, Stp E x y → y ≠ k ∧ y ∈ C
  | 0, i, s, hI, hJ, hf, hp, _ => by
    refine ⟨s.2, List.mem_of_getElem? hI.head, fun x hx y hy => ?_⟩
    obtain ⟨j, hj, rfl⟩ := List.mem_iff_getElem.1 hx
    have := hI.room
    exact hp j _ (by omega) (List.getElem?_eq_getElem hj) y hy
  | f + 1, i, s, hI, hJ, hf, hp, h => by
    rw [rout] at h
    cases hx : s.2[i]? with
    | none =>
      refine ⟨s.2, List.mem_of_getElem? hI.head, fun x hx' y hy => ?_⟩
      obtain ⟨j, hj, rfl⟩ := List.mem_iff_getElem.1 hx'
      have : s.2.length ≤ i := List.getElem?_eq_none_iff.1 hx
      exact hp j _ (by omega) (List.getElem?_eq_getElem hj) y hy
    | some x =>
      rw [hx] at h
      simp only [] at h
      by_cases hr : (rin k x E s).1 = true
      · rw [if_pos hr] at h; cases h
      · rw [if_neg hr] at h
        have hr' : (rin k x E s).1 = false := by simpa using hr
        obtain ⟨h1, _⟩ := rin_inv (k := k) E s hE hI hx
        obtain ⟨j1, ⟨T, j2⟩, j3⟩ := rin_cl (k := k) (x := x) E s hE hJ hr'
        refine rout_cl hE f (i + 1) _ h1 j1 (by omega) (fun j z hj hz y hy => ?_) h
        have hil : i < s.2.length := by
          rcases Nat.lt_or_ge i s.2.length with hi | hi
          · exact hi
          · rw [List.getElem?_eq_none hi] at hx; cases hx
        rw [j2, List.getElem?_append_left (by omega)] at hz
        by_cases hji : j = i
        · subst hji
          rw [hx] at hz; cases hz
          obtain ⟨e, he, e1, e2⟩ := hy
          obtain ⟨k1, k2⟩ := j3 e he e1 (by omega)
          exact ⟨fun e => k1 (by rw [e2, e]), by rw [e2] at k2; simpa using k2⟩
        · obtain ⟨k1, k2⟩ := hp j z (by omega) hz y hy
          exact ⟨k1, by rw [j2]; exact List.mem_append_left _ k2⟩
theorem ringK_nil {E : List Eg} {N k : Nat} (hE : ∀ e ∈ E, e.to < (N : Int)) (hk : k < N) (h : ringK E N k = []) : ∀ b, Rch E k b → ¬ Stp E b k := by
  have hn : rout E k (N + 1) 0 (List.replicate N (-1), [k]) = none := by
    unfold ringK at h
    cases hr : rout E k (N + 1) 0 (List.replicate N (-1), [k]) with
    | none => rfl
    | some r => rw [hr] at h; simp [ringOut] at h
  obtain ⟨C, h1, h2⟩ := rout_cl hE (N + 1) 0 _ (RI.start N k hk) ⟨by simp, fun y hy hn => absurd (by simp [hy]) hn⟩ (by omega) (fun j x hj => absurd hj (by omega)) hn
  have hC : ∀ b, Rch E k b → b ∈ C := by
    intro b hb
    exact hb (fun x => x ∈ C) h1 (fun x y hx hs => (h2 x hx y hs).2)
  exact fun b hb hs => (h2 b (hC b hb) k hs).1 rfl
theorem bestUp_nil {E : List Eg} {N : Nat} : ∀ n, bestUp E N n = [] → ∀ k, k < n → ringK E N k = []
  | 0, _, k, hk => absurd hk (by omega)
  | n + 1, h, k, hk => by
    rw [bestUp_succ] at h
    unfold bestStep at h
    split at h
    · rename_i hc
      rw [h] at hc; simp at hc
    · rename_i hc
      rw [h] at hc
      by_cases hkn : k = n
      · subst hkn
        by_cases h0 : 0 < (ringK E N k).length
        · exact absurd ⟨h0, .inl rfl⟩ hc
        · exact List.length_eq_zero_iff.1 (by omega)
      · exact bestUp_nil n h k (by omega)
theorem acyc_of {E : List Eg} {N : Nat} (hE : ∀ e ∈ E, e.to < (N : Int)) (h : bestUp E N N = []) : Acyc E := by
  intro a b hr hs
  have ha : a < N := by
    obtain ⟨e, he, _, e2⟩ := hs
    have := hE e he; omega
  exact ringK_nil hE ha (bestUp_nil N h a ha) b hr hs
/-- Without rings each module stands behind what it leads to. -/
theorem order_topo (D : Wd) (n : List UInt8) (h : shortOf D = []) : Topo (edgesOf D) (orderK D n) ∧ (orderK D n).Nodup := by
  have hb : bestUp (edgesOf D) D.mods.length D.mods.length = [] := by
    unfold shortOf at h; simpa using h
  have hA := acyc_of (edgesOf_to D) hb
  unfold orderK
  split
  · split
    · have hlt : toOf D nmain n < (D.mods.length : Int) := thereT_lt D _
      exact vis_topo (edgesOf_to D) hA (by omega)
    · exact ⟨fun A x B h => by simp at h, by simp⟩
  · exact ⟨fun A x B h => by simp at h, by simp⟩
end Go.Proofs.YtimgafblpmjajaaGreat
namespace Go.Proofs.YtimgafblpmjajaaGreat

open Go.RowKit

theorem firstN_all {p : Nat → Bool} : ∀ {f i : Nat}, firstN p f i = i + f → ∀ j, i ≤ j → j < i + f → p j = false
  | 0, i, _, j, h1, h2 => absurd h2 (by omega)
  | f + 1, i, h, j, h1, h2 => by
    rw [firstN] at h
    split at h
    · omega
    · rename_i hp
      by_cases hj : j = i
      · subst hj; simpa using hp
      · exact firstN_all (f := f) (i := i + 1) (by omega) j (by omega) (by omega)
theorem firstN_le' (p : Nat → Bool) : ∀ (f i : Nat), firstN p f i ≤ i + f
  | 0, i => Nat.le_refl _
  | f + 1, i => by
    rw [firstN]
    split
    · omega
    · have := firstN_le' p f (i + 1); omega
/-- In a good world two modules have two names. -/
theorem names_inj {D : Wd} (h : (wok D).1 = 0) {i j : Nat} (hi : i < D.mods.length) (hj : j < D.mods.length) (he : D.mods[i].name = D.mods[j].name) : i = j := by
  have h4 : firstN (badMd D.mods) D.mods.length 0 = D.mods.length := by
    unfold wok at h
    split at h
    · simp at h
    split at h
    · simp at h
    split at h
    · simp at h
    split at h
    · simp at h
    · have := firstN_le' (badMd D.mods) D.mods.length 0; omega
  have hb := fun k (hk : k < D.mods.length) => firstN_all (p := badMd D.mods) (f := D.mods.length) (i := 0) (by omega) k (by omega) (by omega)
  have key : ∀ {a b : Nat} (ha : a < D.mods.length) (hb' : b < D.mods.length), a < b → D.mods[a].name ≠ D.mods[b].name := by
    intro a b ha hb' hab hc
    have := hb b hb'
    rw [badMd_at hb'] at this
    simp only [Bool.or_eq_false_iff] at this
    have h2 := List.any_eq_false.1 this.2 D.mods[a] (by
      rw [List.mem_take_iff_getElem]
      exact ⟨a, by omega, rfl⟩)
    simp [hc] at h2
  rcases Nat.lt_trichotomy i j with h1 | h1 | h1
  · exact absurd he (key hi hj h1)
  · exact h1
  · exact absurd he.symm (key hj hi h1)
theorem lineE_src (D : Wd) (i : Nat) (nm : List UInt8) : ∀ (L : List Ln) (k : Nat), ∀ e ∈ lineE D i nm k L, e.src = (i : Int)
  | [], _, e, h => by simp [lineE] at h
  | x :: r, k, e, h => by
    rw [lineE] at h
    rcases List.mem_append.1 h with h | h
    · split at h
      · simp at h; subst h; rfl
      · simp at h
    · exact lineE_src D i nm r (k + 1) e h
theorem modE_src (D : Wd) : ∀ (M : List Md) (i : Nat), ∀ e ∈ modE D i M, ∃ k : Nat, e.src = (k : Int) ∧ k < i + M.length
  | [], _, e, h => by simp [modE] at h
  | x :: r, i, e, h => by
    rw [modE] at h
    rcases List.mem_append.1 h with h | h
    · exact ⟨i, lineE_src D i _ _ _ e h, by simp⟩
    · obtain ⟨k, h1, h2⟩ := modE_src D r (i + 1) e h
      exact ⟨k, h1, by simp; omega⟩
theorem edgesOf_src (D : Wd) : ∀ e ∈ edgesOf D, ∃ k : Nat, e.src = (k : Int) ∧ k < D.mods.length := by
  unfold edgesOf
  split
  · intro e h
    obtain ⟨k, h1, h2⟩ := modE_src D D.mods 0 e h
    exact ⟨k, h1, by omega⟩
  · intro e h; simp at h
theorem edgesOf_good {D : Wd} {e : Eg} (h : e ∈ edgesOf D) : (wok D).1 = 0 := by
  unfold edgesOf at h
  split at h
  · assumption
  · simp at h
theorem orderK_lt (D : Wd) (n : List UInt8) : ∀ k ∈ orderK D n, k < D.mods.length := by
  unfold orderK
  split
  · split
    · have hlt : toOf D nmain n < (D.mods.length : Int) := thereT_lt D _
      exact (vis_inv (edgesOf_to D) _ _ _ 0 (by omega) (vinv_start _)).1.2.2
    · simp
  · simp
/-- The place of the last that is x, as a loop comes by it. -/
def lastI (x : List UInt8) : Nat → List (List UInt8) → Int → Int
  | _, [], a => a
  | i, s :: r, a => lastI x (i + 1) r (if s = x then (i : Int) else a)
theorem lastI_spec (x : List UInt8) : ∀ (L : List (List UInt8)) (i : Nat) (a : Int), (lastI x i L a = a ∧ x ∉ L) ∨ ∃ j : Nat, lastI x i L a = ((i + j : Nat) : Int) ∧ L[j]? = some x
  | [], i, a => .inl ⟨rfl, by simp⟩
  | s :: r, i, a => by
    rw [lastI]
    rcases lastI_spec x r (i + 1) (if s = x then (i : Int) else a) with ⟨h1, h2⟩ | ⟨j, h1, h2⟩
    · by_cases hs : s = x
      · refine .inr ⟨0, ?_, by simp [hs]⟩
        rw [h1, if_pos hs]; rfl
      · refine .inl ⟨by rw [h1, if_neg hs], ?_⟩
        intro hc
        rcases List.mem_cons.1 hc with h | h
        · exact hs h.symm
        · exact h2 h
    · exact .inr ⟨j + 1, by rw [h1]; congr 1; omega, by simpa using h2⟩
theorem lastI_drop (x : List UInt8) (L : List (List UInt8)) (i : Nat) (a : Int) (h : i < L.length) : lastI x i (L.drop i) a = lastI x (i + 1) (L.drop (i + 1)) (if L[i] = x then (i : Int) else a) := by
  rw [List.drop_eq_getElem_cons h, lastI]
theorem lastI_end (x : List UInt8) (L : List (List UInt8)) (i : Nat) (a : Int) (h : L.length ≤ i) : lastI x i (L.drop i) a = a := by
  rw [List.drop_eq_nil_of_le h, lastI]
theorem nameK_at {M : List Md} {k : Nat} (h : k < M.length) : nameK M k = M[k].name := by unfold nameK; rw [List.getElem?_eq_getElem h]; rfl
/-- The last loop of FnOrder says yes. -/
theorem order_pair (D : Wd) (n : List UInt8) (h : shortOf D = []) (e : Eg) (he : e ∈ edgesOf D) (h0 : 0 ≤ e.to) :
    ¬ (0 ≤ lastI (nameK D.mods e.src.toNat) 0 (orderOf D n) (-1) ∧ (lastI (nameK D.mods e.to.toNat) 0 (orderOf D n) (-1) < 0 ∨ lastI (nameK D.mods e.src.toNat) 0 (orderOf D n) (-1) < lastI (nameK D.mods e.to.toNat) 0 (orderOf D n) (-1))) := by
  obtain ⟨ht, hnd⟩ := order_topo D n h
  obtain ⟨k, hk, hkl⟩ := edgesOf_src D e he
  have htl := edgesOf_to D e he
  have hg := edgesOf_good he
  have hlt := orderK_lt D n
  have inj : ∀ {i j : Nat}, i < D.mods.length → j < D.mods.length → nameK D.mods i = nameK D.mods j → i = j := fun hi hj hn => names_inj hg hi hj (by rw [nameK_at hi, nameK_at hj] at hn; exact hn)
  have hst : Stp (edgesOf D) k e.to.toNat := ⟨e, he, hk, by omega⟩
  rw [hk, Int.toNat_natCast]
  have find : ∀ {x j : Nat}, x < D.mods.length → (orderOf D n)[j]? = some (nameK D.mods x) → (orderK D n)[j]? = some x := by
    intro x j hx hj
    unfold orderOf at hj
    rw [List.getElem?_map] at hj
    cases hq : (orderK D n)[j]? with
    | none => rw [hq] at hj; cases hj
    | some y =>
      rw [hq] at hj
      have : y = x := inj (hlt y (List.mem_of_getElem? hq)) hx (by simpa using hj)
      rw [this]
  rcases lastI_spec (nameK D.mods k) (orderOf D n) 0 (-1) with ⟨h1, _⟩ | ⟨a, h1, h2⟩
  · rw [h1]; rintro ⟨hc, _⟩; omega
  · have ha := find hkl h2
    have hal : a < (orderK D n).length := by
      rcases Nat.lt_or_ge a (orderK D n).length with hi | hi
      · exact hi
      · rw [List.getElem?_eq_none hi] at ha; cases ha
    have hae : (orderK D n)[a] = k := by rw [List.getElem?_eq_getElem hal] at ha; simpa using ha
    have hsp : orderK D n = (orderK D n).take a ++ k :: (orderK D n).drop (a + 1) := by
      rw [← hae, ← List.drop_eq_getElem_cons hal, List.take_append_drop]
    have hm := ht _ _ _ hsp _ hst
    obtain ⟨b', hb', hbe⟩ := List.mem_take_iff_getElem.1 hm
    have hb'l : b' < (orderK D n).length := by omega
    rw [h1]
    rcases lastI_spec (nameK D.mods e.to.toNat) (orderOf D n) 0 (-1) with ⟨_, h3⟩ | ⟨b, h3, h4⟩
    · refine absurd ?_ h3
      unfold orderOf
      exact List.mem_map.2 ⟨_, List.mem_of_mem_take hm, rfl⟩
    · have hb := find (by omega) h4
      have hbl : b < (orderK D n).length := by
        rcases Nat.lt_or_ge b (orderK D n).length with hi | hi
        · exact hi
        · rw [List.getElem?_eq_none hi] at hb; cases hb
      have hbe2 : (orderK D n)[b] = e.to.toNat := by rw [List.getElem?_eq_getElem hbl] at hb; simpa using hb
      have : b = b' := by
        have hp := List.pairwise_iff_getElem.1 hnd
        rcases Nat.lt_trichotomy b b' with hq | hq | hq
        · exact absurd (hbe2.trans hbe.symm) (hp b b' hbl hb'l hq)
        · exact hq
        · exact absurd (hbe.trans hbe2.symm) (hp b' b hb'l hbl hq)
      rw [h3]
      rintro ⟨_, hc⟩
      omega
end Go.Proofs.YtimgafblpmjajaaGreat
namespace Go.Proofs.YtimgafblpmjajaaGreat
open Go.RowKit

/-- What is asked of spec.Drawn. -/
def DrawnOk : Prop := ∀ (a : Option Addr) (len cap : Nat) (w : World), len ≤ cap → len ≤ 1048576 → (∀ i, i < len → ∃ b o z, a = some ⟨b, o, none⟩ ∧ b < w.heap.size ∧ 0 ≤ z ∧ z ≤ 255 ∧ w.cell? ⟨b, o + i, none⟩ = some (.int .u8 z)) →
  Calls Tryz.prog 4 #[.slice a len cap] w fun e w' => ∃ wv nb D, e = .returned (.tuple #[wv, .string nb]) ∧ Wds w' wv D ∧ D.t ≤ 1048576 ∧ nb.size ≤ 20 ∧ Below w.heap.size w w'

set_option linter.unusedSimpArgs false in
set_option maxHeartbeats 16000000 in
set_option maxRecDepth 100000 in
theorem lawOrder_of (HD : DrawnOk) (a : Option Addr) (len cap : Nat) (w : World) (hlc : len ≤ cap) (hl : len ≤ 1048576) (h : ∀ i, i < len → ∃ b o z, a = some ⟨b, o, none⟩ ∧ b < w.heap.size ∧ 0 ≤ z ∧ z ≤ 255 ∧ w.cell? ⟨b, o + i, none⟩ = some (.int .u8 z)) :
    Calls Tryz.prog 3 #[.slice a len cap] w fun e w' => e = .returned (.bool true) ∧ Below w.heap.size w w' := by
  have hdr := HD a len cap w hlc hl h
  clear h HD
  go_enter Tryz.func3, Tryz.ntmps3
  go_wp2_with fail
  refine hdr.mono ?_
  rintro e w1 ⟨wv, nb, D, rfl, hW, hD, hnb, hB1⟩
  obtain ⟨a1, a2, a3, k1, k2, k3, rfl⟩ := hW.agg'
  obtain ⟨V, hV⟩ : ∃ V, V = w1.alloc (.cells #[.slice a1 D.roots.length k1, .slice a2 D.mods.length k2, .slice a3 D.faults.length k3] 27) := ⟨_, rfl⟩
  have hVB : Below w1.heap.size w1 V := by rw [hV]; exact (Below.refl _ _).alloc (Nat.le_refl _) _
  have hVs : V.heap.size = w1.heap.size + 1 := by rw [hV]; simp
  have hbV : V.heap[w1.heap.size]? = some (.cells #[.slice a1 D.roots.length k1, .slice a2 D.mods.length k2, .slice a3 D.faults.length k3] 27 (0, 0)) := by rw [hV]; exact new_blk _ _
  have HV : Hid (V = w1.alloc (.cells #[.slice a1 D.roots.length k1, .slice a2 D.mods.length k2, .slice a3 D.faults.length k3] 27)) := hV
  have HWV : Hid (∀ U, Below V.heap.size V U → Wds U (.agg #[.slice a1 D.roots.length k1, .slice a2 D.mods.length k2, .slice a3 D.faults.length k3]) D) := fun U hU => (hW.below hVB (Nat.le_refl _)).below hU (Nat.le_refl _)
  have HBX : Hid (∀ U, Below V.heap.size V U → U.cell? ⟨w1.heap.size, 0, none⟩ = some (.slice a1 D.roots.length k1) ∧ U.cell? ⟨w1.heap.size, 1, none⟩ = some (.slice a2 D.mods.length k2) ∧ U.cell? ⟨w1.heap.size, 2, none⟩ = some (.slice a3 D.faults.length k3)) := fun U hU => by
    have h1 := (hU.block w1.heap.size (by omega)).trans hbV
    simp [World.cell?, h1]
  have hEl := edgesOf_len D hD
  have HDT : Hid (D.t ≤ 1048576) := hD
  have hE1 := edges_ok _ D V (HWV.out V (Below.refl _ _)) hD
  clear hV hW hbV hdr
  go_wp2_with fail
  rw [← HV.out]
  refine hE1.mono ?_
  rintro e w2 ⟨v2, rfl, r2, hb2⟩
  obtain ⟨al, cl, rfl, hcl, hgl⟩ := row_form r2
  have hS2 := specEdges_any _ D w2 (HWV.out w2 hb2) hD
  obtain ⟨x0, x1, x2⟩ := HBX.out w2 hb2
  clear hE1
  go_wp2_with fail
  refine hS2.mono ?_
  rintro e w3 ⟨v3, rfl, r3, hb3⟩
  obtain ⟨aw, cw, rfl, hcw, hgw⟩ := row_form r3
  have r2' := own_below r2 hb3 (Nat.le_refl _)
  have hB3 : Below V.heap.size V w3 := hb2.trans (hb3.mono hb2.size)
  obtain ⟨E, hE⟩ : ∃ E, E = edgesOf D := ⟨_, rfl⟩
  have HE : Hid (E = edgesOf D) := hE
  rw [← hE] at r2 r2' r3 hEl hcl hgl hcw hgw
  have hszV := hb2.size
  have hsz23 := hb3.size
  have HR : Hid (w3.ownsRow V.heap.size 33 3 (.slice al E.length cl) E.length (E.flatMap egR) ∧ w3.ownsRow w2.heap.size 33 3 (.slice aw E.length cw) E.length (E.flatMap egR) ∧ (∀ b, (Value.slice al E.length cl).ownBlock = some b → b < w2.heap.size)) := ⟨r2', r3, fun b hb => (r2.lt b hb).2⟩
  clear r2 r2' r3 hb2 hb3 x0 x1 x2 hS2
  rw [← hE]
  clear hE
  have HCE : Hid (∀ n, (hn : n < E.length) → ∃ g1 g2, al = some ⟨g1, 0, none⟩ ∧ aw = some ⟨g2, 0, none⟩ ∧ g1 < w3.heap.size ∧ g2 < w3.heap.size ∧ w3.cell? ⟨g1, n * 3, none⟩ = some (.int .i64 E[n].src) ∧ w3.cell? ⟨g1, n * 3 + 1, none⟩ = some (.int .i64 E[n].line) ∧ w3.cell? ⟨g1, n * 3 + 2, none⟩ = some (.int .i64 E[n].to) ∧
      w3.cell? ⟨g2, n * 3, none⟩ = some (.int .i64 E[n].src) ∧ w3.cell? ⟨g2, n * 3 + 1, none⟩ = some (.int .i64 E[n].line) ∧ w3.cell? ⟨g2, n * 3 + 2, none⟩ = some (.int .i64 E[n].to)) := fun n hn => by
    obtain ⟨g1, rfl⟩ := hgl (by omega)
    obtain ⟨g2, rfl⟩ := hgw (by omega)
    obtain ⟨i0, i1, i2⟩ := egR_get E n hn
    have c1 := HR.out.1.cellAt
    have c2 := HR.out.2.1.cellAt
    exact ⟨g1, g2, rfl, rfl, (HR.out.1.lt g1 rfl).2, (HR.out.2.1.lt g2 rfl).2, by rw [c1 _ (by omega)]; exact i0, by rw [c1 _ (by omega)]; exact i1, by rw [c1 _ (by omega)]; exact i2, by rw [c2 _ (by omega)]; exact i0, by rw [c2 _ (by omega)]; exact i1, by rw [c2 _ (by omega)]; exact i2⟩
  go_wp2
  go_loopw [40] (fun i wr => ∃ n : Nat, n ≤ E.length ∧ i = .int .i64 n ∧ Below w3.heap.size w3 wr) (fun i _ => E.length - (intOf i).toNat)
  case atStart => exact ⟨0, Nat.zero_le _, rfl, Below.refl _ _⟩
  case round =>
    obtain ⟨n, hn, rfl, hBr⟩ := hrel
    by_cases hlt : n < E.length
    · obtain ⟨g1, g2, rfl, rfl, hg1, hg2, m0, m1, m2, p0, p1, p2⟩ := HCE.out n hlt
      have m0 := below_cell0 hBr hg1 m0
      have m1 := below_cell0 hBr hg1 m1
      have m2 := below_cell0 hBr hg1 m2
      have p0 := below_cell0 hBr hg2 p0
      have p1 := below_cell0 hBr hg2 p1
      have p2 := below_cell0 hBr hg2 p2
      obtain ⟨s0, hs0⟩ : ∃ s0, s0 = E[n].src := ⟨_, rfl⟩
      obtain ⟨l0, hl0⟩ : ∃ l0, l0 = E[n].line := ⟨_, rfl⟩
      obtain ⟨t0, ht0⟩ : ∃ t0, t0 = E[n].to := ⟨_, rfl⟩
      rw [← hs0] at m0 p0
      rw [← hl0] at m1 p1
      rw [← ht0] at m2 p2
      clear hs0 hl0 ht0
      obtain ⟨U, hU⟩ : ∃ U, U = wr.alloc (.cells #[.int .i64 s0, .int .i64 l0, .int .i64 t0] 33) := ⟨_, rfl⟩
      have hUB : Below wr.heap.size wr U := by rw [hU]; exact (Below.refl _ _).alloc (Nat.le_refl _) _
      have hwrs := hBr.size
      have u0 : U.cell? ⟨wr.heap.size, 0, none⟩ = some (.int .i64 s0) := by rw [hU]; simp [go_sem]
      have u1 : U.cell? ⟨wr.heap.size, 1, none⟩ = some (.int .i64 l0) := by rw [hU]; simp [go_sem]
      have u2 : U.cell? ⟨wr.heap.size, 2, none⟩ = some (.int .i64 t0) := by rw [hU]; simp [go_sem]
      have q0 := below_cell0 hUB (by omega) p0
      have q1 := below_cell0 hUB (by omega) p1
      have q2 := below_cell0 hUB (by omega) p2
      have HU : Hid (U = wr.alloc (.cells #[.int .i64 s0, .int .i64 l0, .int .i64 t0] 33)) := hU
      clear hU p0 p1 p2
      go_wp2
      rw [← HU.out]
      go_region
      go_wp2
      go_roundw
      case rel => exact ⟨n + 1, by omega, by go_num, (hBr.trans (hUB.mono hwrs)).drew⟩
      case measure => simp [intOf]; omega
    · have hBV : Below V.heap.size V wr := hB3.trans (hBr.mono hB3.size)
      obtain ⟨x0, x1, x2⟩ := HBX.out wr hBV
      have hO1 := order_ok _ D nb wr (HWV.out wr hBV) HDT.out (by omega)
      go_wp2_with fail
      refine hO1.mono ?_
      rintro e w4 ⟨v4, rfl, r4, hb4⟩
      obtain ⟨ao, co, rfl, hco, hgo⟩ := row_form r4
      have hB4 : Below V.heap.size V w4 := hBV.trans (hb4.mono hBV.size)
      have hO2 := specOrder_any _ D nb w4 (HWV.out w4 hB4) HDT.out (by omega)
      obtain ⟨y0, y1, y2⟩ := HBX.out w4 hB4
      clear hO1 x0 x1 x2
      go_wp2_with fail
      refine hO2.mono ?_
      rintro e w5 ⟨v5, rfl, r5, hb5⟩
      obtain ⟨ap, cp, rfl, _, _⟩ := row_form r5
      have hB5 : Below V.heap.size V w5 := hB4.trans (hb5.mono hB4.size)
      have r4' := own_below r4 hb5 (Nat.le_refl _)
      have hOl := orderOf_len D nb.data.toList HDT.out
      have hT1 := wTexts_same _ _ (orderOf D nb.data.toList) w5 (Strs.of_row r4') (Strs.of_row r5) hOl
      have HRO : Hid (w5.ownsRow wr.heap.size 9 1 (.slice ao (orderOf D nb.data.toList).length co) (orderOf D nb.data.toList).length ((orderOf D nb.data.toList).map strV)) := r4'
      clear hO2 y0 y1 y2 r4 r5 r4'
      go_wp2_with fail
      refine hT1.mono ?_
      rintro e w6 ⟨rfl, hb6⟩
      have hB6 : Below V.heap.size V w6 := hB5.trans (hb6.mono hB5.size)
      obtain ⟨x0, x1, x2⟩ := HBX.out w6 hB6
      have hR1 := ring_ok _ D w6 (HWV.out w6 hB6) HDT.out
      clear hT1
      go_wp2_with fail
      refine hR1.mono ?_
      rintro e w7 ⟨v7, rfl, r7, hb7⟩
      obtain ⟨ar, cr, rfl, hcr, hgr⟩ := row_form r7
      have hB7 : Below V.heap.size V w7 := hB6.trans (hb7.mono hB6.size)
      have hR2 := specRing_any _ D w7 (HWV.out w7 hB7) HDT.out
      obtain ⟨y0, y1, y2⟩ := HBX.out w7 hB7
      clear hR1 x0 x1 x2
      go_wp2_with fail
      refine hR2.mono ?_
      rintro e w8 ⟨v8, rfl, r8, hb8⟩
      obtain ⟨aq, cq, rfl, _, _⟩ := row_form r8
      have hB8 : Below V.heap.size V w8 := hB7.trans (hb8.mono hB7.size)
      have r7' := own_below r7 hb8 (Nat.le_refl _)
      have hRl := shortOf_len D HDT.out
      have hT2 := wTexts_same _ _ (shortOf D) w8 (Strs.of_row r7') (Strs.of_row r8) hRl
      have HRR : Hid (w8.ownsRow w6.heap.size 9 1 (.slice ar (shortOf D).length cr) (shortOf D).length ((shortOf D).map strV)) := r7'
      clear hR2 y0 y1 y2 r7 r8 r7'
      go_wp2_with fail
      refine hT2.mono ?_
      rintro e w9 ⟨rfl, hb9⟩
      have hB9 : Below V.heap.size V w9 := hB8.trans (hb9.mono hB8.size)
      have HR9 := own_below HRR.out hb9 (Nat.le_refl _)
      have hs69 : w6.heap.size ≤ w9.heap.size := Nat.le_trans hb7.size (Nat.le_trans hb8.size hb9.size)
      have HK9 : Hid (w9.ownsRow V.heap.size 33 3 (.slice al E.length cl) E.length (E.flatMap egR) ∧ w9.ownsRow w2.heap.size 33 3 (.slice aw E.length cw) E.length (E.flatMap egR) ∧ w9.ownsRow wr.heap.size 9 1 (.slice ao (orderOf D nb.data.toList).length co) (orderOf D nb.data.toList).length ((orderOf D nb.data.toList).map strV) ∧ (∀ b, (Value.slice al E.length cl).ownBlock = some b → b < w2.heap.size) ∧ w2.heap.size ≤ w6.heap.size ∧ (∀ b, (Value.slice aw E.length cw).ownBlock = some b → b < w6.heap.size) ∧ (∀ b, (Value.slice ao (orderOf D nb.data.toList).length co).ownBlock = some b → b < w6.heap.size) ∧ w2.heap.size ≤ wr.heap.size) := by
        have z1 := hBr.size
        have z2 := hb4.size
        have z3 := hb5.size
        have z4 := hb6.size
        have z5 := hb7.size
        have z6 := hb8.size
        have h59 : Below w5.heap.size w5 w9 := ((hb6.trans (hb7.mono (by omega))).trans (hb8.mono (by omega))).trans (hb9.mono (by omega))
        have h39 : Below w3.heap.size w3 w9 := ((hBr.trans (hb4.mono (by omega))).trans (hb5.mono (by omega))).trans (h59.mono (by omega))
        exact ⟨own_below HR.out.1 h39 (Nat.le_refl _), own_below HR.out.2.1 h39 (Nat.le_refl _), own_below HRO.out h59 (Nat.le_refl _), HR.out.2.2, by omega, fun b hb => by have := (HR.out.2.1.lt b hb).2; omega, fun b hb => by have := (HRO.out.lt b hb).2; omega, by omega⟩
      obtain ⟨Rn, hRn⟩ : ∃ Rn, Rn = (shortOf D).length := ⟨_, rfl⟩
      have HRN : Hid (Rn = (shortOf D).length) := hRn
      rw [← hRn] at HR9 hRl hcr hgr
      rw [← hRn]
      clear hT2 HRR HRO hRn
      obtain ⟨wq, hwq⟩ : ∃ wq, wq = wr := ⟨_, rfl⟩
      go_wp2
      go_loopw [70] (fun i U => ∃ (m : Nat) (xs : List Value), m ≤ Rn ∧ i = .int .i64 m ∧ U.ownsRow w6.heap.size 9 1 (.slice ar Rn cr) Rn xs ∧ Below w6.heap.size w9 U) (fun i _ => Rn - (intOf i).toNat)
      case atStart => exact ⟨0, _, Nat.zero_le _, rfl, HR9, Below.refl _ _⟩
      case round =>
        obtain ⟨m, xs, hm, rfl, hro, hBU⟩ := hrel
        by_cases hltm : m < Rn
        · obtain ⟨gr, rfl⟩ := hgr (by omega)
          obtain ⟨u, hu⟩ := row_cell hro m (by omega)
          have hfz := hro.frozenAt m
          have hst := hro.stored m (.string ⟨#[111, 118, 101, 114]⟩)
          have hgb := (hro.lt gr rfl).1
          go_wp2
          go_roundw
          case rel => exact ⟨m + 1, _, by omega, by go_num, hst.1, hBU.setCell (p := ⟨gr, m, none⟩) hgb _⟩
          case measure => simp [intOf]; omega
        · clear hro
          obtain ⟨hk1, hk2, hk3, hk4, hk5, _⟩ := HK9.out
          have hlU := own_block (w' := wr) hk1 (fun b hb => hBU.block b (by have := hk4 b hb; omega))
          obtain ⟨U0, hU0⟩ : ∃ U0, U0 = wr := ⟨_, rfl⟩
          rw [← hU0] at hlU hBU
          rw [← hU0]
          clear hU0 hk1 hk2 hk3
          go_wp2
          go_loopw [79] (fun i U => ∃ (m : Nat) (xs : List Value), m ≤ E.length ∧ i = .int .i64 m ∧ U.ownsRow V.heap.size 33 3 (.slice al E.length cl) E.length xs ∧ U0.grownBy U (Value.slice al E.length cl).ownBlock) (fun i _ => E.length - (intOf i).toNat)
          case atStart => exact ⟨0, _, Nat.zero_le _, rfl, hlU, World.grownBy.refl _ _⟩
          case round =>
            obtain ⟨m, xs, hm, rfl, hro, hgU⟩ := hrel
            by_cases hltm : m < E.length
            · obtain ⟨gl, rfl⟩ := hgl (by omega)
              obtain ⟨u, hu⟩ := row_cell hro (m * 3 + 2) (by omega)
              have hfz := hro.frozenAt (m * 3 + 2)
              have hst := hro.stored (m * 3 + 2) (.int .i64 77)
              go_wp2
              go_roundw
              case rel => exact ⟨m + 1, _, by omega, by go_num, hst.1, hgU.trans hst.2⟩
              case measure => simp [intOf]; omega
            · have hBU2 : Below V.heap.size V wr := ((hB9.trans (hBU.mono (Nat.le_trans hszV hk5))).grown hgU (by have := hB9.size; have := hBU.size; omega) (fun b e' => (hlU.lt b e').1))
              have hwU : wr.ownsRow w2.heap.size 33 3 (.slice aw E.length cw) E.length (E.flatMap egR) ∧ wr.ownsRow wq.heap.size 9 1 (.slice ao (orderOf D nb.data.toList).length co) (orderOf D nb.data.toList).length ((orderOf D nb.data.toList).map strV) := by
                obtain ⟨_, k2', k3', k4', _, k6', k7', k8'⟩ := HK9.out
                rw [hwq]
                have a1 := own_block (w' := U0) k2' (fun b hb => hBU.block b (k6' b hb))
                have a2' := own_block (w' := U0) k3' (fun b hb => hBU.block b (k7' b hb))
                exact ⟨own_block a1 (fun b hb => hgU.block b (a1.lt b hb).2 (fun e => by have := k4' b e.symm; have := (a1.lt b hb).1; omega)), own_block a2' (fun b hb => hgU.block b (a2'.lt b hb).2 (fun e => by have := k4' b e.symm; have := (a2'.lt b hb).1; omega))⟩
              have HwU : Hid (wr.ownsRow w2.heap.size 33 3 (.slice aw E.length cw) E.length (E.flatMap egR) ∧ wr.ownsRow wq.heap.size 9 1 (.slice ao (orderOf D nb.data.toList).length co) (orderOf D nb.data.toList).length ((orderOf D nb.data.toList).map strV)) := hwU
              obtain ⟨x0, x1, x2⟩ := HBX.out wr hBU2
              have hE3 := edges_ok _ D wr (HWV.out wr hBU2) HDT.out
              rw [← HE.out] at hE3
              clear hwU hro hlU
              go_wp2_with fail
              refine hE3.mono ?_
              rintro e w10 ⟨v10, rfl, r10, hb10⟩
              obtain ⟨an, cn, rfl, hcn, hgn⟩ := row_form r10
              have hB10 : Below V.heap.size V w10 := hBU2.trans (hb10.mono hBU2.size)
              have hw10 := own_below HwU.out.1 hb10 (Nat.le_refl _)
              have ho10 := own_below HwU.out.2 hb10 (Nat.le_refl _)
              have HCF : Hid (∀ n, (hn : n < E.length) → ∃ g1 g2, an = some ⟨g1, 0, none⟩ ∧ aw = some ⟨g2, 0, none⟩ ∧ g1 < w10.heap.size ∧ g2 < w10.heap.size ∧ w10.cell? ⟨g1, n * 3, none⟩ = some (.int .i64 E[n].src) ∧ w10.cell? ⟨g1, n * 3 + 1, none⟩ = some (.int .i64 E[n].line) ∧ w10.cell? ⟨g1, n * 3 + 2, none⟩ = some (.int .i64 E[n].to) ∧
                  w10.cell? ⟨g2, n * 3, none⟩ = some (.int .i64 E[n].src) ∧ w10.cell? ⟨g2, n * 3 + 1, none⟩ = some (.int .i64 E[n].line) ∧ w10.cell? ⟨g2, n * 3 + 2, none⟩ = some (.int .i64 E[n].to)) := fun n hn => by
                obtain ⟨g1, rfl⟩ := hgn (by omega)
                obtain ⟨g2, rfl⟩ := hgw (by omega)
                obtain ⟨i0, i1, i2⟩ := egR_get E n hn
                have c1 := r10.cellAt
                have c2 := hw10.cellAt
                exact ⟨g1, g2, rfl, rfl, (r10.lt g1 rfl).2, (hw10.lt g2 rfl).2, by rw [c1 _ (by omega)]; exact i0, by rw [c1 _ (by omega)]; exact i1, by rw [c1 _ (by omega)]; exact i2, by rw [c2 _ (by omega)]; exact i0, by rw [c2 _ (by omega)]; exact i1, by rw [c2 _ (by omega)]; exact i2⟩
              have HN10 : Hid (w10.ownsRow wr.heap.size 33 3 (.slice an E.length cn) E.length (E.flatMap egR) ∧ w10.ownsRow wq.heap.size 9 1 (.slice ao (orderOf D nb.data.toList).length co) (orderOf D nb.data.toList).length ((orderOf D nb.data.toList).map strV)) := ⟨r10, ho10⟩
              clear hE3 x0 x1 x2 r10 hw10 ho10 HwU hltm
              obtain ⟨wu, hwu⟩ : ∃ wu, wu = wr := ⟨_, rfl⟩
              go_wp2
              go_loopw [96] (fun i wr => ∃ n : Nat, n ≤ E.length ∧ i = .int .i64 n ∧ Below w10.heap.size w10 wr) (fun i _ => E.length - (intOf i).toNat)
              case atStart => exact ⟨0, Nat.zero_le _, rfl, Below.refl _ _⟩
              case round =>
                obtain ⟨n, hn, rfl, hBr⟩ := hrel
                by_cases hlt : n < E.length
                · obtain ⟨g1, g2, rfl, rfl, hg1, hg2, m0, m1, m2, p0, p1, p2⟩ := HCF.out n hlt
                  have m0 := below_cell0 hBr hg1 m0
                  have m1 := below_cell0 hBr hg1 m1
                  have m2 := below_cell0 hBr hg1 m2
                  have p0 := below_cell0 hBr hg2 p0
                  have p1 := below_cell0 hBr hg2 p1
                  have p2 := below_cell0 hBr hg2 p2
                  obtain ⟨s0, hs0⟩ : ∃ s0, s0 = E[n].src := ⟨_, rfl⟩
                  obtain ⟨l0, hl0⟩ : ∃ l0, l0 = E[n].line := ⟨_, rfl⟩
                  obtain ⟨t0, ht0⟩ : ∃ t0, t0 = E[n].to := ⟨_, rfl⟩
                  rw [← hs0] at m0 p0
                  rw [← hl0] at m1 p1
                  rw [← ht0] at m2 p2
                  clear hs0 hl0 ht0
                  obtain ⟨U, hU⟩ : ∃ U, U = wr.alloc (.cells #[.int .i64 s0, .int .i64 l0, .int .i64 t0] 33) := ⟨_, rfl⟩
                  have hUB : Below wr.heap.size wr U := by rw [hU]; exact (Below.refl _ _).alloc (Nat.le_refl _) _
                  have hwrs := hBr.size
                  have u0 : U.cell? ⟨wr.heap.size, 0, none⟩ = some (.int .i64 s0) := by rw [hU]; simp [go_sem]
                  have u1 : U.cell? ⟨wr.heap.size, 1, none⟩ = some (.int .i64 l0) := by rw [hU]; simp [go_sem]
                  have u2 : U.cell? ⟨wr.heap.size, 2, none⟩ = some (.int .i64 t0) := by rw [hU]; simp [go_sem]
                  have q0 := below_cell0 hUB (by omega) p0
                  have q1 := below_cell0 hUB (by omega) p1
                  have q2 := below_cell0 hUB (by omega) p2
                  have HU : Hid (U = wr.alloc (.cells #[.int .i64 s0, .int .i64 l0, .int .i64 t0] 33)) := hU
                  clear hU p0 p1 p2
                  go_wp2
                  rw [← HU.out]
                  go_region
                  go_wp2
                  go_roundw
                  case rel => exact ⟨n + 1, by omega, by go_num, (hBr.trans (hUB.mono hwrs)).drew⟩
                  case measure => simp [intOf]; omega
                · have hBY : Below V.heap.size V wr := hB10.trans (hBr.mono hB10.size)
                  obtain ⟨x0, x1, x2⟩ := HBX.out wr hBY
                  have hBYd : Below V.heap.size V wr.drew := hBY.drew
                  have hR1 := ring_ok _ D wr.drew (HWV.out wr.drew hBYd) HDT.out
                  go_wp2
                  refine wp_region_held_drew (S := (fun w' => w'.cell? ⟨w1.heap.size, 0, none⟩ = some (.slice a1 D.roots.length k1) ∧ w'.cell? ⟨w1.heap.size, 1, none⟩ = some (.slice a2 D.mods.length k2) ∧ w'.cell? ⟨w1.heap.size, 2, none⟩ = some (.slice a3 D.faults.length k3))) (by kernel_rfl) ⟨x0, x1, x2⟩ (fun hHeld => ?_)
                  refine wpAnyH_take (i := 0) (v := ?_) rfl (by kernel_rfl) (by kernel_rfl) (by kernel_rfl) (fun _ _ _ h => h) (Or.inl ⟨by rfl, ?_⟩) (by assumption) ?_
                  case refine_2 => (intro w' hSw; go_simp; with_reducible rfl)
                  (simp only [List.getElem_toArray, List.getElem_cons_zero, List.getElem_cons_succ, Act.put, List.setIfInBounds_toArray, List.set_cons_zero, List.set_cons_succ])
                  refine wpAnyH_take (i := 2) (v := ?_) rfl (by kernel_rfl) (by kernel_rfl) (by kernel_rfl) (fun _ _ _ h => h) (Or.inl ⟨by rfl, ?_⟩) (by assumption) ?_
                  case refine_2 => (intro w' hSw; go_simp; with_reducible rfl)
                  (simp only [List.getElem_toArray, List.getElem_cons_zero, List.getElem_cons_succ, Act.put, List.setIfInBounds_toArray, List.set_cons_zero, List.set_cons_succ])
                  refine wpAnyH_ready (rs := [1]) (by kernel_rfl) (by simp) ?_
                  refine AllReadyH.cons rfl (fun K hK => ?_) AllReadyH.nil
                  go_simp
                  refine hR1.mono ?_
                  rintro e w11 ⟨v11, rfl, r11, hb11⟩
                  obtain ⟨ar2, cr2, rfl, _, _⟩ := row_form r11
                  have hB11 : Below V.heap.size V w11 := hBYd.trans (hb11.mono hBYd.size)
                  have hy := HBX.out w11 hB11
                  first | refine hK.out _ _ hy (fun hHeld => ?_) | (go_wp2_with fail; refine hK.out _ _ hy (fun hHeld => ?_))
                  clear hK K
                  (try simp only [List.getElem_toArray, List.getElem_cons_zero, List.getElem_cons_succ, Act.put, List.setIfInBounds_toArray, List.set_cons_zero, List.set_cons_succ])
                  refine wpAnyH_ready (rs := [3]) (by kernel_rfl) (by simp) ?_
                  refine AllReadyH.cons rfl (fun K hK => ?_) AllReadyH.nil
                  have hR2 := specRing_any _ D w11 (HWV.out w11 hB11) HDT.out
                  go_simp
                  refine hR2.mono ?_
                  rintro e w12 ⟨v12, rfl, r12, hb12⟩
                  obtain ⟨aq2, cq2, rfl, _, _⟩ := row_form r12
                  have hB12 : Below V.heap.size V w12 := hB11.trans (hb12.mono hB11.size)
                  have hy2 := HBX.out w12 hB12
                  first | refine hK.out _ _ hy2 (fun hHeld => ?_) | (go_wp2_with fail; refine hK.out _ _ hy2 (fun hHeld => ?_))
                  clear hK K
                  (try simp only [List.getElem_toArray, List.getElem_cons_zero, List.getElem_cons_succ, Act.put, List.setIfInBounds_toArray, List.set_cons_zero, List.set_cons_succ])
                  refine wpAnyH_ready (rs := [4]) (by kernel_rfl) (by simp) ?_
                  refine AllReadyH.cons rfl (fun K hK => ?_) AllReadyH.nil
                  have r11' := own_below r11 hb12 (Nat.le_refl _)
                  have hT3 := wTexts_same _ _ (shortOf D) w12 (Strs.of_row r11') (Strs.of_row r12) (by rw [← HRN.out]; exact hRl)
                  go_simp
                  refine hT3.mono ?_
                  rintro e w13 ⟨rfl, hb13⟩
                  have hB13 : Below V.heap.size V w13 := hB12.trans (hb13.mono hB12.size)
                  have hy3 := HBX.out w13 hB13
                  first | refine hK.out _ _ hy3 (fun hHeld => ?_) | (go_wp2_with fail; refine hK.out _ _ hy3 (fun hHeld => ?_))
                  clear hK K
                  (try simp only [List.getElem_toArray, List.getElem_cons_zero, List.getElem_cons_succ, Act.put, List.setIfInBounds_toArray, List.set_cons_zero, List.set_cons_succ])
                  refine wpAnyH_take (i := 5) (v := ?_) rfl (by kernel_rfl) (by kernel_rfl) (by kernel_rfl) (fun _ _ _ h => h) (Or.inl ⟨by rfl, ?_⟩) (by assumption) ?_
                  case refine_2 => (intro w' hSw; go_simp; with_reducible rfl)
                  (simp only [List.getElem_toArray, List.getElem_cons_zero, List.getElem_cons_succ, Act.put, List.setIfInBounds_toArray, List.set_cons_zero, List.set_cons_succ])
                  refine wpAnyH_done (by kernel_rfl) ?_ _
                  have hb113 : Below w10.heap.size w10 w13 := hBr.trans ((Below.trans (Below.trans (Below.refl _ _).drew (hb11.trans (hb12.mono hb11.size))) (hb13.mono (Nat.le_trans hb11.size hb12.size))).mono hBr.size)
                  clear hR1 hR2 hT3 r11 r12 r11' hy hy2 hy3 hHeld
                  have hBz : Below w.heap.size w w13 := hB1.trans ((hVB.trans (hB13.mono (by omega))).mono hB1.size)
                  by_cases hRp : 0 < Rn
                  · have hRp' : (0 : Int) < (Rn : Int) := by omega
                    go_wp2
                    go_ret
                    exact ⟨rfl, hBz⟩
                  · have hR0 : ¬ (0 : Int) < (Rn : Int) := by omega
                    have hRd : decide ((0 : Int) < (Rn : Int)) = false := by simpa using hR0
                    have HZ : Hid (shortOf D = []) := List.eq_nil_of_length_eq_zero (by rw [← HRN.out]; omega)
                    have HPR : Hid (∀ e ∈ E, 0 ≤ e.to → ¬ (0 ≤ lastI (nameK D.mods e.src.toNat) 0 (orderOf D nb.data.toList) (-1) ∧ (lastI (nameK D.mods e.to.toNat) 0 (orderOf D nb.data.toList) (-1) < 0 ∨ lastI (nameK D.mods e.src.toNat) 0 (orderOf D nb.data.toList) (-1) < lastI (nameK D.mods e.to.toNat) 0 (orderOf D nb.data.toList) (-1)))) := fun e he h0 => order_pair D _ HZ.out e (by rw [← HE.out]; exact he) h0
                    have HSR : Hid (∀ e ∈ E, ∃ k : Nat, e.src = (k : Int) ∧ k < D.mods.length) := by unfold Hid; rw [HE.out]; exact edgesOf_src D
                    have HTO : Hid (∀ e ∈ E, e.to < (D.mods.length : Int)) := by unfold Hid; rw [HE.out]; exact edgesOf_to D
                    have hk2' : D.mods.length ≤ k2 := by
                      obtain ⟨r, m, f, hv, h1, h2, h3⟩ := HWV.out V (Below.refl _ _)
                      obtain ⟨am, cm, hvm, hcm, _⟩ := h2
                      simp at hv
                      obtain ⟨_, hv2, _⟩ := hv
                      rw [hvm] at hv2
                      cases hv2
                      exact hcm
                    have HNMD : Hid (∀ U, Below V.heap.size V U → ∀ k (hk : k < D.mods.length), ∃ b o, a2 = some ⟨b, o, none⟩ ∧ U.cell? ⟨b, o + k * 2, none⟩ = some (strV (nameK D.mods k)) ∧ b < U.heap.size) := fun U hU k hk => by
                      obtain ⟨r, m, f, hv, h1, h2, h3⟩ := HWV.out U hU
                      obtain ⟨am, cm, hvm, _, _, hc⟩ := h2
                      simp at hv
                      obtain ⟨_, hv2, _⟩ := hv
                      rw [hvm] at hv2
                      cases hv2
                      obtain ⟨b, o, s, ha, hb, h0, _⟩ := hc k hk
                      exact ⟨b, o, ha, by rw [nameK_at hk]; exact h0, hb⟩
                    obtain ⟨O, hO⟩ : ∃ O, O = orderOf D nb.data.toList := ⟨_, rfl⟩
                    have hOl' := orderOf_len D nb.data.toList HDT.out
                    have HO10 : Hid (w10.ownsRow wq.heap.size 9 1 (.slice ao O.length co) O.length (O.map strV)) := by rw [hO]; exact HN10.out.2
                    have HL10 : Hid (w10.ownsRow wu.heap.size 33 3 (.slice an E.length cn) E.length (E.flatMap egR)) := by rw [hwu]; exact HN10.out.1
                    rw [← hO] at HPR hOl'
                    rw [← hO]
                    have hco' : O.length ≤ co := by obtain ⟨_, _, hvv, hcc, _⟩ := row_form HO10.out; cases hvv; exact hcc
                    have hgo' : 0 < O.length → ∃ g, ao = some ⟨g, 0, none⟩ := by obtain ⟨_, _, hvv, _, hgg⟩ := row_form HO10.out; cases hvv; exact hgg
                    clear hO HN10 HCF HCE HK9
                    have hszz : V.heap.size ≤ w10.heap.size := hB10.size
                    go_wp2
                    go_loopw [119] (fun i wr => ∃ n : Nat, n ≤ E.length ∧ i = .int .i64 n ∧ Below w10.heap.size w10 wr) (fun i _ => E.length - (intOf i).toNat)
                    case atStart => exact ⟨0, Nat.zero_le _, rfl, hb113⟩
                    case round =>
                      obtain ⟨n, hn, rfl, hBn⟩ := hrel
                      by_cases hltn : n < E.length
                      · obtain ⟨g1, rfl⟩ := hgn (by omega)
                        obtain ⟨i0, i1, i2⟩ := egR_get E n hltn
                        have hL := own_below HL10.out hBn (Nat.le_refl _)
                        have hLX : (E.flatMap egR).length = E.length * 3 := egR_len E
                        have m0 : wr.cell? ⟨g1, n * 3, none⟩ = some (.int .i64 E[n].src) := by rw [hL.cellAt _ (by omega)]; exact i0
                        have m1 : wr.cell? ⟨g1, n * 3 + 1, none⟩ = some (.int .i64 E[n].line) := by rw [hL.cellAt _ (by omega)]; exact i1
                        have m2 : wr.cell? ⟨g1, n * 3 + 2, none⟩ = some (.int .i64 E[n].to) := by rw [hL.cellAt _ (by omega)]; exact i2
                        have hEn := List.getElem_mem hltn
                        obtain ⟨kf, hkf, hkfl⟩ := HSR.out _ hEn
                        have htl := HTO.out _ hEn
                        have hpr := HPR.out _ hEn
                        obtain ⟨l0, hl0⟩ : ∃ l0, l0 = E[n].line := ⟨_, rfl⟩
                        obtain ⟨t0, ht0⟩ : ∃ t0, t0 = E[n].to := ⟨_, rfl⟩
                        rw [hkf] at m0 hpr
                        rw [← hl0] at m1
                        rw [← ht0] at m2 htl hpr
                        have hBVn : Below V.heap.size V wr := hB10.trans (hBn.mono hszz)
                        clear hl0 ht0 hkf i0 i1 i2 hL hEn
                        by_cases htneg : t0 < 0
                        · clear hpr
                          go_wp2
                          go_roundw
                          case rel => exact ⟨n + 1, by omega, by go_num, hBn.alloc hBn.size _⟩
                          case measure => simp [intOf]; omega
                        · obtain ⟨kt, rfl⟩ : ∃ kt : Nat, t0 = (kt : Int) := ⟨t0.toNat, by omega⟩
                          have hpr2 := hpr (by omega)
                          rw [Int.toNat_natCast, Int.toNat_natCast] at hpr2
                          have hktl : kt < D.mods.length := by omega
                          have HP2 : Hid (¬ (0 ≤ lastI (nameK D.mods kf) 0 O (-1) ∧ (lastI (nameK D.mods kt) 0 O (-1) < 0 ∨ lastI (nameK D.mods kf) 0 O (-1) < lastI (nameK D.mods kt) 0 O (-1)))) := hpr2
                          clear hpr hpr2
                          obtain ⟨U0, hU0⟩ : ∃ U0, U0 = wr.alloc (.cells #[.int .i64 (kf : Int), .int .i64 l0, .int .i64 (kt : Int)] 33) := ⟨_, rfl⟩
                          have HU0 : Hid (U0 = wr.alloc (.cells #[.int .i64 (kf : Int), .int .i64 l0, .int .i64 (kt : Int)] 33)) := hU0
                          have hwn := hBn.size
                          have hBU0 : Below V.heap.size V U0 := by rw [hU0]; exact hBVn.alloc hBVn.size _
                          have hB10U : Below w10.heap.size w10 U0 := by rw [hU0]; exact hBn.alloc hBn.size _
                          have hbU0 : U0.heap[wr.heap.size]? = some (.cells #[.int .i64 (kf : Int), .int .i64 l0, .int .i64 (kt : Int)] 33 (0, 0)) := by rw [hU0]; exact new_blk _ _
                          have hUs : wr.heap.size < U0.heap.size := by rw [hU0]; simp
                          have HOU : Hid (U0.ownsRow wq.heap.size 9 1 (.slice ao O.length co) O.length (O.map strV)) := own_below HO10.out hB10U (Nat.le_refl _)
                          have HBU : Hid (Below V.heap.size V U0 ∧ U0.heap[wr.heap.size]? = some (.cells #[.int .i64 (kf : Int), .int .i64 l0, .int .i64 (kt : Int)] 33 (0, 0))) := ⟨hBU0, hbU0⟩
                          obtain ⟨LA, hLA⟩ : ∃ LA, LA = lastI (nameK D.mods kf) 0 O (-1) := ⟨_, rfl⟩
                          obtain ⟨LB, hLB⟩ : ∃ LB, LB = lastI (nameK D.mods kt) 0 O (-1) := ⟨_, rfl⟩
                          have HLA : Hid (lastI (nameK D.mods kf) 0 (O.drop 0) (-1) = LA ∧ lastI (nameK D.mods kt) 0 (O.drop 0) (-1) = LB) := ⟨by rw [hLA]; rfl, by rw [hLB]; rfl⟩
                          rw [← hLA, ← hLB] at HP2
                          clear hLA hLB hU0 hbU0 hBU0
                          have htn0 : ¬ ((kt : Int) < 0) := by omega
                          have htnd : decide ((kt : Int) < 0) = false := by simp
                          go_wp2
                          rw [← HU0.out]
                          obtain ⟨wn, rfl⟩ : ∃ wn, wn = wr := ⟨_, rfl⟩
                          go_loopw [17, 18, 128] (fun va vb i U => ∃ (m : Nat) (A B : Int), m ≤ O.length ∧ i = .int .i64 m ∧ va = .int .i64 A ∧ vb = .int .i64 B ∧ lastI (nameK D.mods kf) m (O.drop m) A = LA ∧ lastI (nameK D.mods kt) m (O.drop m) B = LB ∧ Below U0.heap.size U0 U) (fun _ _ i _ => O.length - (intOf i).toNat)
                          case atStart => exact ⟨0, -1, -1, Nat.zero_le _, rfl, rfl, rfl, HLA.out.1, HLA.out.2, Below.refl _ _⟩
                          case round =>
                            obtain ⟨m, A, B, hm, rfl, rfl, rfl, hA, hB, hBm⟩ := hrel
                            have hBmV : Below V.heap.size V wr := HBU.out.1.trans (hBm.mono HBU.out.1.size)
                            by_cases hltm : m < O.length
                            · obtain ⟨go, rfl⟩ := hgo' (by omega)
                              have hOU := own_below HOU.out hBm (Nat.le_refl _)
                              have s0 : wr.cell? ⟨go, m, none⟩ = some (strV O[m]) := by rw [hOU.cellAt m (by simp; omega)]; simp [hltm]
                              obtain ⟨qs, hqs⟩ : ∃ q : ByteArray, q.data.toList = O[m] := ⟨⟨O[m].toArray⟩, by simp⟩
                              rw [← hqs, strV_data] at s0
                              have hbx := (hBm.block _ hUs).trans HBU.out.2
                              have e0 : wr.cell? ⟨wn.heap.size, 0, none⟩ = some (.int .i64 (kf : Int)) := by simp [World.cell?, hbx]
                              have e2 : wr.cell? ⟨wn.heap.size, 2, none⟩ = some (.int .i64 (kt : Int)) := by simp [World.cell?, hbx]
                              obtain ⟨x0, x1, x2⟩ := HBX.out wr hBmV
                              obtain ⟨b2, o2, rfl, nf, _⟩ := HNMD.out wr hBmV kf hkfl
                              obtain ⟨b3, o3, h3, nt, _⟩ := HNMD.out wr hBmV kt hktl
                              cases h3
                              obtain ⟨qf, hqf⟩ : ∃ q : ByteArray, q.data.toList = nameK D.mods kf := ⟨⟨(nameK D.mods kf).toArray⟩, by simp⟩
                              obtain ⟨qt, hqt⟩ : ∃ q : ByteArray, q.data.toList = nameK D.mods kt := ⟨⟨(nameK D.mods kt).toArray⟩, by simp⟩
                              rw [← hqf, strV_data] at nf
                              rw [← hqt, strV_data] at nt
                              rw [lastI_drop _ _ _ _ hltm] at hA hB
                              have HA : Hid (lastI (nameK D.mods kf) (m + 1) (O.drop (m + 1)) (if O[m] = nameK D.mods kf then (m : Int) else A) = LA) := hA
                              have HB : Hid (lastI (nameK D.mods kt) (m + 1) (O.drop (m + 1)) (if O[m] = nameK D.mods kt then (m : Int) else B) = LB) := hB
                              have HC1 : Hid ((qs.toList == qf.toList) = decide (O[m] = nameK D.mods kf)) := str_beq hqs hqf
                              have HC2 : Hid ((qs.toList == qt.toList) = decide (O[m] = nameK D.mods kt)) := str_beq hqs hqt
                              clear hA hB hqs hqf hqt hOU hbx x0 x2
                              by_cases h1 : O[m] = nameK D.mods kf
                              · have c1 : (qs.toList == qf.toList) = true := by rw [HC1.out]; simpa using h1
                                have HA1 := HA.out
                                rw [if_pos h1] at HA1
                                have HA2 : Hid (lastI (nameK D.mods kf) (m + 1) (O.drop (m + 1)) (m : Int) = LA) := HA1
                                by_cases h2 : O[m] = nameK D.mods kt
                                · have c2 : (qs.toList == qt.toList) = true := by rw [HC2.out]; simpa using h2
                                  have HB1 := HB.out
                                  rw [if_pos h2] at HB1
                                  have HB2 : Hid (lastI (nameK D.mods kt) (m + 1) (O.drop (m + 1)) (m : Int) = LB) := HB1
                                  clear HA1 HB1 h1 h2 HA HB HC1 HC2
                                  go_wp2
                                  go_roundw
                                  case rel => exact ⟨m + 1, _, _, by omega, by go_num, rfl, rfl, HA2.out, HB2.out, hBm⟩
                                  case measure => simp [intOf]; omega
                                · have c2 : (qs.toList == qt.toList) = false := by rw [HC2.out]; simpa using h2
                                  have HB1 := HB.out
                                  rw [if_neg h2] at HB1
                                  have HB2 : Hid (lastI (nameK D.mods kt) (m + 1) (O.drop (m + 1)) B = LB) := HB1
                                  clear HA1 HB1 h1 h2 HA HB HC1 HC2
                                  go_wp2
                                  go_roundw
                                  case rel => exact ⟨m + 1, _, _, by omega, by go_num, rfl, rfl, HA2.out, HB2.out, hBm⟩
                                  case measure => simp [intOf]; omega
                              · have c1 : (qs.toList == qf.toList) = false := by rw [HC1.out]; simpa using h1
                                have HA1 := HA.out
                                rw [if_neg h1] at HA1
                                have HA2 : Hid (lastI (nameK D.mods kf) (m + 1) (O.drop (m + 1)) A = LA) := HA1
                                by_cases h2 : O[m] = nameK D.mods kt
                                · have c2 : (qs.toList == qt.toList) = true := by rw [HC2.out]; simpa using h2
                                  have HB1 := HB.out
                                  rw [if_pos h2] at HB1
                                  have HB2 : Hid (lastI (nameK D.mods kt) (m + 1) (O.drop (m + 1)) (m : Int) = LB) := HB1
                                  clear HA1 HB1 h1 h2 HA HB HC1 HC2
                                  go_wp2
                                  go_roundw
                                  case rel => exact ⟨m + 1, _, _, by omega, by go_num, rfl, rfl, HA2.out, HB2.out, hBm⟩
                                  case measure => simp [intOf]; omega
                                · have c2 : (qs.toList == qt.toList) = false := by rw [HC2.out]; simpa using h2
                                  have HB1 := HB.out
                                  rw [if_neg h2] at HB1
                                  have HB2 : Hid (lastI (nameK D.mods kt) (m + 1) (O.drop (m + 1)) B = LB) := HB1
                                  clear HA1 HB1 h1 h2 HA HB HC1 HC2
                                  go_wp2
                                  go_roundw
                                  case rel => exact ⟨m + 1, _, _, by omega, by go_num, rfl, rfl, HA2.out, HB2.out, hBm⟩
                                  case measure => simp [intOf]; omega
                            · rw [lastI_end _ _ _ _ (by omega)] at hA hB
                              subst hA hB
                              have hp2 := HP2.out
                              have hBe : Below w10.heap.size w10 wr := hB10U.trans (hBm.mono hB10U.size)
                              by_cases hA0 : 0 ≤ A
                              · have hB0 : ¬ B < 0 := fun h => hp2 ⟨hA0, .inl h⟩
                                have hAB : ¬ A < B := fun h => hp2 ⟨hA0, .inr h⟩
                                clear hp2
                                go_wp2
                                go_roundw
                                case rel => exact ⟨n + 1, by omega, by go_num, hBe⟩
                                case measure => simp [intOf]; omega
                              · clear hp2
                                go_wp2
                                go_roundw
                                case rel => exact ⟨n + 1, by omega, by go_num, hBe⟩
                                case measure => simp [intOf]; omega
                      · go_wp2
                        go_ret
                        exact ⟨rfl, hB1.trans ((hVB.trans ((hB10.trans (hBn.mono hszz)).mono (by omega))).mono hB1.size)⟩
end Go.Proofs.YtimgafblpmjajaaGreat
namespace Go.Proofs.YtimgafblpmjajaaGreat
open Go.RowKit

theorem cur_new {w : World} {a : Option Addr} {len cap : Nat} (hlc : len ≤ cap) (hl : len ≤ 1048576) (h : ∀ i, i < len → ∃ b o z, a = some ⟨b, o, none⟩ ∧ b < w.heap.size ∧ 0 ≤ z ∧ z ≤ 255 ∧ w.cell? ⟨b, o + i, none⟩ = some (.int .u8 z)) :
    Cur (w.alloc (.cells #[.slice a len cap, .int .i64 0, .int .u64 0] 44)) w.heap.size 0 := by
  refine ⟨a, len, cap, 0, 0, heap_alloc_new w _, Nat.le_refl _, hlc, hl, fun i hi => ?_⟩
  obtain ⟨b, o, z, ha, hlt, h0, h255, hc⟩ := h i hi
  exact ⟨b, o, z, ha, hlt, h0, h255, by rw [World.cell?_alloc_past _ _ _ hlt]; exact hc⟩

theorem below_grown_new {w w' : World} {o : Obj} (hg : (w.alloc o).grownBy w' (some w.heap.size)) : Below w.heap.size w w' :=
  ((Below.refl _ w).alloc (Nat.le_refl _) o).grown hg (by simp) (fun k e => by cases e; exact Nat.le_refl _)

theorem total_le (n : Nat) (R : List (List UInt8)) (h : ∀ l ∈ R, l.length ≤ n) : Pl.total R ≤ (n + 1) * R.length := by
  induction R with
  | nil => simp [Pl.total, Lib.lens]
  | cons x r ih =>
    have h1 := h x (by simp)
    have h2 := ih (fun l hl => h l (by simp [hl]))
    simp only [Pl.total, Lib.lens, List.map_cons, List.sum_cons, List.length_cons, Nat.mul_add] at h2 ⊢
    omega
theorem sum_le (n : Nat) : ∀ L : List Nat, (∀ x ∈ L, x ≤ n) → L.sum ≤ n * L.length
  | [], _ => by simp
  | x :: r, h => by
    have h1 := h x (by simp)
    have h2 := sum_le n r (fun l hl => h l (by simp [hl]))
    simp only [List.sum_cons, List.length_cons, Nat.mul_add]
    omega
theorem mdOk_t {m : Md} (h : MdOk m) : m.t ≤ 200 := by
  obtain ⟨h1, h2, h3⟩ := h
  have h4 := sum_le 20 (m.lines.map Ln.t) (fun x hx => by
    obtain ⟨l, hl, rfl⟩ := List.mem_map.1 hx
    exact h3 l hl)
  rw [List.length_map] at h4
  unfold Md.t lnsT
  omega
theorem drawn_t {D : Wd} (h1 : D.roots.length ≤ 3) (h2 : ∀ l ∈ D.roots, l.length ≤ 3) (h3 : D.mods.length ≤ 7) (h4 : ∀ m ∈ D.mods, MdOk m) (h5 : D.faults.length ≤ 2) : D.t ≤ 1048576 := by
  have a1 := total_le 3 D.roots h2
  have a2 := sum_le 200 (D.mods.map Md.t) (fun x hx => by
    obtain ⟨m, hm, rfl⟩ := List.mem_map.1 hx
    exact mdOk_t (h4 m hm))
  rw [List.length_map] at a2
  unfold Wd.t mdsT
  omega

set_option linter.unusedSimpArgs false in
set_option maxHeartbeats 4000000 in
set_option maxRecDepth 100000 in
theorem drawn_ok : DrawnOk := by
  intro a len cap w hlc hl h
  obtain ⟨W0, hW0⟩ : ∃ W0, W0 = w.alloc (.cells #[.slice none 0 0, .slice none 0 0, .slice none 0 0] 27) := ⟨_, rfl⟩
  have hs0 : W0.heap.size = w.heap.size + 1 := by rw [hW0]; simp
  have hb0 : W0.heap[w.heap.size]? = some (.cells #[.slice none 0 0, .slice none 0 0, .slice none 0 0] 27 (0, 0)) := by rw [hW0]; exact new_blk _ _
  have hB0 : Below w.heap.size w W0 := by rw [hW0]; exact (Below.refl _ w).alloc (Nat.le_refl _) _
  have h0 : ∀ i, i < len → ∃ b o z, a = some ⟨b, o, none⟩ ∧ b < W0.heap.size ∧ 0 ≤ z ∧ z ≤ 255 ∧ W0.cell? ⟨b, o + i, none⟩ = some (.int .u8 z) := fun i hi => by
    obtain ⟨b, o, z, ha, hlt, h0, h255, hc⟩ := h i hi
    exact ⟨b, o, z, ha, by omega, h0, h255, by rw [hW0, World.cell?_alloc_past _ _ _ hlt]; exact hc⟩
  have hcur := cur_new hlc hl h0
  rw [hs0] at hcur
  obtain ⟨W1, hW1⟩ : ∃ W1, W1 = W0.alloc (.cells #[.slice a len cap, .int .i64 0, .int .u64 0] 44) := ⟨_, rfl⟩
  rw [← hW1] at hcur
  have hs1 : W1.heap.size = w.heap.size + 2 := by rw [hW1]; simp; omega
  have hg01 : W0.grownBy W1 (some (w.heap.size + 1)) := by rw [hW1]; exact grown_alloc_some _ _ _
  have HW1 : Hid ((w.alloc (.cells #[.slice none 0 0, .slice none 0 0, .slice none 0 0] 27)).alloc (.cells #[.slice a len cap, .int .i64 0, .int .u64 0] 44) = W1) := by rw [hW1, hW0]; exact rfl
  clear h h0 hW0 hW1
  have hwd := world_any (w.heap.size + 1) 0 W1 hcur (by decide)
  rw [hs1] at hwd
  go_enter Tryz.func4, Tryz.ntmps4
  go_wp2_with fail
  rw [HW1.out]
  refine hwd.mono ?_
  rintro e w1 ⟨v, D, rfl, hW, hr1, hr2, hm1, hm2, hf1, hc1, hg1⟩
  have hDt := drawn_t hr1 hr2 hm1 hm2 hf1
  have hGW := grown_trans hg01 hg1
  obtain ⟨r, m, f, X, rfl, h1, h2, h3⟩ := hW
  obtain ⟨a1, k1, rfl, _, _⟩ := row_form h1
  obtain ⟨a2, k2, rfl, _, _⟩ := row_form h2.1
  obtain ⟨a3, k3, rfl, _, _⟩ := row_form h3
  have hs1' : w.heap.size + 2 ≤ w1.heap.size := by have := hg1.size; omega
  obtain ⟨V, hV⟩ : ∃ V, V = w1.alloc (.cells #[.slice a1 D.roots.length k1, .slice a2 D.mods.length k2, .slice a3 D.faults.length k3] 27) := ⟨_, rfl⟩
  have hVs : V.heap.size = w1.heap.size + 1 := by rw [hV]; simp
  have hVb : V.heap[w1.heap.size]? = some (.cells #[.slice a1 D.roots.length k1, .slice a2 D.mods.length k2, .slice a3 D.faults.length k3] 27 (0, 0)) := by rw [hV]; exact new_blk _ _
  have hVc : Cur V (w.heap.size + 1) 2400 := by rw [hV]; exact hc1.alloc _
  have hVg : w1.grownBy V (some (w.heap.size + 1)) := by rw [hV]; exact grown_alloc_some _ _ _
  have hWds : Wds V (.agg #[.slice a1 D.roots.length k1, .slice a2 D.mods.length k2, .slice a3 D.faults.length k3]) D := by
    refine Wdo.wds (base := w.heap.size + 2 + 2) ⟨_, _, _, X, rfl, ?_, ?_, ?_⟩
    · rw [hV]; exact h1.alloc _
    · rw [hV]; exact h2.alloc _
    · rw [hV]; exact h3.alloc _
  have hMo : V.ownsRow (w.heap.size + 1 + 1) 39 2 (.slice a2 D.mods.length k2) D.mods.length X := own_mono (own_draw h2.1 hVg (by omega)) (by omega)
  have hNm : NmX D.mods X := fun j hj => by obtain ⟨ls, hx, _⟩ := h2.2 j hj; exact hx
  have hG0 := grown_trans hGW hVg
  have HV : Hid (V = w1.alloc (.cells #[.slice a1 D.roots.length k1, .slice a2 D.mods.length k2, .slice a3 D.faults.length k3] 27)) := hV
  have HWO : Hid (Wdo (w.heap.size + 2 + 2) V (.agg #[.slice a1 D.roots.length k1, .slice a2 D.mods.length k2, .slice a3 D.faults.length k3]) D) := by
    refine ⟨_, _, _, X, rfl, ?_, ?_, ?_⟩
    · rw [hV]; exact h1.alloc _
    · rw [hV]; exact h2.alloc _
    · rw [hV]; exact h3.alloc _
  have HP : Hid (∀ V', V.grownBy V' (some (w.heap.size + 1)) → Cur V' (w.heap.size + 1) 2400 → Calls Tryz.prog 13 #[.pointer (some ⟨w.heap.size + 1, 0, none⟩), .agg #[.slice a1 D.roots.length k1, .slice a2 D.mods.length k2, .slice a3 D.faults.length k3]] V' fun e w3 => ∃ q : ByteArray, e = .returned (.string q) ∧ q.size ≤ 20 ∧ V.grownBy w3 (some (w.heap.size + 1))) := by
    intro V' hg' hc'
    refine (main_any (w.heap.size + 1) 2400 (.slice a1 D.roots.length k1) (.slice a3 D.faults.length k3) a2 k2 D.mods X V' hc' (by decide) (own_draw hMo hg' (by omega)) hNm (fun m hm => (hm2 m hm).1) (by omega) ⟨_, _, _, rfl⟩ ⟨_, _, _, rfl⟩).mono ?_
    rintro e w3 ⟨q, rfl, hq, hc3, hg3⟩
    exact ⟨q, rfl, hq, grown_trans hg' hg3⟩
  clear h1 h2 h3 hMo hNm hm2 hwd hc1 hcur hV hWds
  go_wp2
  clear hG0
  have hbV0 : V.heap[w.heap.size]? = some (.cells #[.slice none 0 0, .slice none 0 0, .slice none 0 0] 27 (0, 0)) := (hVg.block _ (by omega) (by intro e; simp at e)).trans ((hGW.block _ (by omega) (by intro e; simp at e)).trans hb0)
  have HPD := HP.out V.drew (grown_drewD V _) hVc
  have HBX : Hid (∀ w3, V.grownBy w3 (some (w.heap.size + 1)) → w3.heap[w1.heap.size]? = some (.cells #[.slice a1 D.roots.length k1, .slice a2 D.mods.length k2, .slice a3 D.faults.length k3] 27 (0, 0)) ∧ w3.heap[w.heap.size]? = some (.cells #[.slice none 0 0, .slice none 0 0, .slice none 0 0] 27 (0, 0))) := fun w3 hg3 =>
    ⟨(hg3.block _ (by omega) (by intro e; simp at e; omega)).trans hVb, (hg3.block _ (by omega) (by intro e; simp at e)).trans hbV0⟩
  have P0 : V.cell? ⟨w1.heap.size, 0, none⟩ = some (.slice a1 D.roots.length k1) := by simp [World.cell?, hVb]
  have P1 : V.cell? ⟨w1.heap.size, 1, none⟩ = some (.slice a2 D.mods.length k2) := by simp [World.cell?, hVb]
  have P2 : V.cell? ⟨w1.heap.size, 2, none⟩ = some (.slice a3 D.faults.length k3) := by simp [World.cell?, hVb]
  clear hVb hbV0 HP
  rw [← HV.out]
  refine wp_region_held_drew (S := (fun w' => w'.cell? ⟨w1.heap.size, 0, none⟩ = some (.slice a1 D.roots.length k1) ∧ w'.cell? ⟨w1.heap.size, 1, none⟩ = some (.slice a2 D.mods.length k2) ∧ w'.cell? ⟨w1.heap.size, 2, none⟩ = some (.slice a3 D.faults.length k3))) (by kernel_rfl) ⟨P0, P1, P2⟩ (fun hHeld => ?_)
  refine wpAnyH_take (i := 0) (v := ?_) rfl (by kernel_rfl) (by kernel_rfl) (by kernel_rfl) (fun _ _ _ h => h) (Or.inl ⟨by rfl, ?_⟩) (by assumption) ?_
  case refine_2 => (intro w' hSw; go_simp; with_reducible rfl)
  (simp only [List.getElem_toArray, List.getElem_cons_zero, List.getElem_cons_succ, Act.put, List.setIfInBounds_toArray, List.set_cons_zero, List.set_cons_succ])
  refine wpAnyH_take (i := 1) (v := ?_) rfl (by kernel_rfl) (by kernel_rfl) (by kernel_rfl) (fun _ _ _ h => h) (Or.inl ⟨by rfl, ?_⟩) (by assumption) ?_
  case refine_2 => (intro w' hSw; go_simp; with_reducible rfl)
  (simp only [List.getElem_toArray, List.getElem_cons_zero, List.getElem_cons_succ, Act.put, List.setIfInBounds_toArray, List.set_cons_zero, List.set_cons_succ])
  refine wpAnyH_take (i := 2) (v := ?_) rfl (by kernel_rfl) (by kernel_rfl) (by kernel_rfl) (fun _ _ _ h => h) (Or.inl ⟨by rfl, ?_⟩) (by assumption) ?_
  case refine_2 => (intro w' hSw; go_simp; with_reducible rfl)
  (simp only [List.getElem_toArray, List.getElem_cons_zero, List.getElem_cons_succ, Act.put, List.setIfInBounds_toArray, List.set_cons_zero, List.set_cons_succ])
  refine wpAnyH_ready (rs := [3]) (by kernel_rfl) (by simp) ?_
  refine AllReadyH.cons rfl (fun K hK => ?_) AllReadyH.nil
  go_simp
  refine HPD.mono ?_
  rintro e w3 ⟨q, rfl, hq, hg3⟩
  obtain ⟨hx1, hx0⟩ := HBX.out w3 hg3
  have p0 : w3.cell? ⟨w1.heap.size, 0, none⟩ = some (.slice a1 D.roots.length k1) := by simp [World.cell?, hx1]
  have p1 : w3.cell? ⟨w1.heap.size, 1, none⟩ = some (.slice a2 D.mods.length k2) := by simp [World.cell?, hx1]
  have p2 : w3.cell? ⟨w1.heap.size, 2, none⟩ = some (.slice a3 D.faults.length k3) := by simp [World.cell?, hx1]
  have r0 : w3.cell? ⟨w.heap.size, 0, none⟩ = some (.slice none 0 0) := by simp [World.cell?, hx0]
  have r1 : w3.cell? ⟨w.heap.size, 1, none⟩ = some (.slice none 0 0) := by simp [World.cell?, hx0]
  have r2 : w3.cell? ⟨w.heap.size, 2, none⟩ = some (.slice none 0 0) := by simp [World.cell?, hx0]
  have t0 : w3.frozen? ⟨w.heap.size, 0, none⟩ = false := by simp [World.frozen?, hx0]
  have t1 : w3.frozen? ⟨w.heap.size, 1, none⟩ = false := by simp [World.frozen?, hx0]
  have t2 : w3.frozen? ⟨w.heap.size, 2, none⟩ = false := by simp [World.frozen?, hx0]
  obtain ⟨U, hU⟩ : ∃ U, U = ((w3.setCell ⟨w.heap.size, 0, none⟩ (.slice a1 D.roots.length k1)).setCell ⟨w.heap.size, 1, none⟩ (.slice a2 D.mods.length k2)).setCell ⟨w.heap.size, 2, none⟩ (.slice a3 D.faults.length k3) := ⟨_, rfl⟩
  have hUb : U.heap[w.heap.size]? = some (.cells #[.slice a1 D.roots.length k1, .slice a2 D.mods.length k2, .slice a3 D.faults.length k3] 27 (0, 0)) := by rw [hU, blk_set (blk_set (blk_set hx0 _) _) _]; rfl
  have hUg : w3.grownBy U (some w.heap.size) := by rw [hU]; exact grown_trans (grown_trans (grown_set w3 ⟨w.heap.size, 0, none⟩ _) (grown_set _ ⟨w.heap.size, 1, none⟩ _)) (grown_set _ ⟨w.heap.size, 2, none⟩ _)
  have hU1 : U.heap[w1.heap.size]? = some (.cells #[.slice a1 D.roots.length k1, .slice a2 D.mods.length k2, .slice a3 D.faults.length k3] 27 (0, 0)) := (hUg.block _ (by have := hg3.size; omega) (by intro e; simp at e; omega)).trans hx1
  have HU : Hid (((w3.setCell ⟨w.heap.size, 0, none⟩ (.slice a1 D.roots.length k1)).setCell ⟨w.heap.size, 1, none⟩ (.slice a2 D.mods.length k2)).setCell ⟨w.heap.size, 2, none⟩ (.slice a3 D.faults.length k3) = U) := hU.symm
  clear hU
  first | refine hK.out _ _ ⟨p0, p1, p2⟩ (fun hHeld => ?_) | (go_wp2_with fail; refine hK.out _ _ ⟨p0, p1, p2⟩ (fun hHeld => ?_))
  clear hK K
  (try simp only [List.getElem_toArray, List.getElem_cons_zero, List.getElem_cons_succ, Act.put, List.setIfInBounds_toArray, List.set_cons_zero, List.set_cons_succ])
  refine wpAnyH_ready (rs := [4]) (by kernel_rfl) (by simp) ?_
  refine AllReadyH.cons rfl (fun K hK => ?_) AllReadyH.nil
  go_simp
  rw [HU.out]
  refine hK.out _ _ ⟨by simp [World.cell?, hU1], by simp [World.cell?, hU1], by simp [World.cell?, hU1]⟩ (fun hHeld => ?_)
  clear hK K
  refine wpAnyH_take (i := 5) (v := ?_) rfl (by kernel_rfl) (by kernel_rfl) (by kernel_rfl) (fun _ _ _ h => h) (Or.inl ⟨by rfl, ?_⟩) (by assumption) ?_
  case refine_2 => (intro w' hSw; go_simp; with_reducible rfl)
  (simp only [List.getElem_toArray, List.getElem_cons_zero, List.getElem_cons_succ, Act.put, List.setIfInBounds_toArray, List.set_cons_zero, List.set_cons_succ])
  refine wpAnyH_done (by kernel_rfl) ?_ _
  have hW3 : Wdo (w.heap.size + 2 + 2) U (.agg #[.slice a1 D.roots.length k1, .slice a2 D.mods.length k2, .slice a3 D.faults.length k3]) D := by
    obtain ⟨r, m, f, X', e', g1, g2, g3⟩ := HWO.out
    exact ⟨r, m, f, X', e', own_draw (own_draw g1 hg3 (by omega)) hUg (by omega), (g2.draw hg3 (by omega)).draw hUg (by omega), own_draw (own_draw g3 hg3 (by omega)) hUg (by omega)⟩
  have hBel : Below w.heap.size w U := ((((hB0.grown hGW hB0.size (fun k e => by cases e; omega)).grown hVg (by omega) (fun k e => by cases e; omega)).grown hg3 (by omega) (fun k e => by cases e; omega)).grown hUg (by have := hg3.size; omega) (fun k e => by cases e; exact Nat.le_refl _))
  clear HWO HU HBX hHeld
  go_wp2
  refine bodyPost_ret (v := .tuple #[.agg #[.slice a1 D.roots.length k1, .slice a2 D.mods.length k2, .slice a3 D.faults.length k3], .string q]) (by simp [results, Tryz.results4, go_sem, World.cell?, hUb]) rfl ?_
  exact ⟨_, q, D, rfl, hW3.wds, hDt, hq, hBel⟩
end Go.Proofs.YtimgafblpmjajaaGreat
