import Derived.Shelf.Strings.Builder1
import Derived.Shelf.Strings.Builder2
import Derived.Shelf.Strings.OnBuilder
import Derived.Shelf.LaysM
import Derived.Shelf.Strconv.Clone
import Derived.Shelf.Strings.Search1
import Derived.Shelf.Strings.Search2
import Derived.Test.YtimgafblpmjajabGreatProg
import Derived.RangeFuncNested
import Derived.RangeFuncBound
import Derived.RangeFuncCalls
import Derived.RangeFuncLeaves
import Derived.RangeFuncBox
import Derived.Shelf.Abstract
import Derived.Shelf.RegionOpen
import Derived.WalkKit
import Derived.OwnWalkIn
import Derived.TacticsInMore
import Derived.LoopNIn
import Derived.LoopIn
import Derived.Deep.RegionWith
import Derived.Deep.RegionHeld3
import Derived.Test.YtimgafblpmjajabGreatKa2
namespace Go.Proofs
open Go.Shelf
def Tryz.lays156_ren : Go.Shelf.Ren := ⟨fun | 156 => 105 | 165 => 110 | 166 => 111 | 169 => 112 | 240 => 117 | 241 => 118 | 276 => 121 | 277 => 122 | n => n, fun | 31 => 22 | 9 => 9 | 3 => 3 | 4 => 4 | 0 => 0 | 20 => 20 | 72 => 187 | 76 => 190 | 70 => 185 | 37 => 111 | 75 => 189 | 127 => 174 | 164 => 199 | 5 => 5 | 80 => 192 | n => n, fun | n => n⟩
theorem Tryz.lays156 : Go.Proofs.Lays.n156 Tryz.prog Tryz.lays156_ren := {
  mixed := by kernel_rfl
  f156 := Tryz.func105.trans (congrArg some (by kernel_rfl))
  f165 := Tryz.func110.trans (congrArg some (by kernel_rfl))
  f166 := Tryz.func111.trans (congrArg some (by kernel_rfl))
  f169 := Tryz.func112.trans (congrArg some (by kernel_rfl))
  f240 := Tryz.func117.trans (congrArg some (by kernel_rfl))
  f241 := Tryz.func118.trans (congrArg some (by kernel_rfl))
  f276 := Tryz.func121.trans (congrArg some (by kernel_rfl))
  f277 := Tryz.func122.trans (congrArg some (by kernel_rfl))
  t0 := Tryz.underlying0
  a0 := Tryz.isAgg0
  z0 := Tryz.sizeOf0
  v0 := Tryz.zeroValue0
  t3 := Tryz.underlying3
  a3 := Tryz.isAgg3
  z3 := Tryz.sizeOf3
  v3 := Tryz.zeroValue3
  t4 := Tryz.underlying4
  a4 := Tryz.isAgg4
  z4 := Tryz.sizeOf4
  v4 := Tryz.zeroValue4
  t9 := Tryz.underlying9
  a9 := Tryz.isAgg9
  z9 := Tryz.sizeOf9
  v9 := Tryz.zeroValue9
  t20 := Tryz.underlying20
  a20 := Tryz.isAgg20
  z20 := Tryz.sizeOf20
  v20 := Tryz.zeroValue20
  t31 := Tryz.underlying22
  a31 := Tryz.isAgg22
  z31 := Tryz.sizeOf22
  v31 := Tryz.zeroValue22
  t37 := Tryz.underlying111
  a37 := Tryz.isAgg111
  z37 := Tryz.sizeOf111
  v37 := Tryz.zeroValue111
  t70 := Tryz.underlying185
  a70 := Tryz.isAgg185
  z70 := Tryz.sizeOf185
  v70 := Tryz.zeroValue185
  t72 := Tryz.underlying187
  a72 := Tryz.isAgg187
  z72 := Tryz.sizeOf187
  v72 := Tryz.zeroValue187
  t75 := Tryz.underlying189
  a75 := Tryz.isAgg189
  z75 := Tryz.sizeOf189
  v75 := Tryz.zeroValue189
  t76 := Tryz.underlying190
  a76 := Tryz.isAgg190
  z76 := Tryz.sizeOf190
  v76 := Tryz.zeroValue190
  t127 := Tryz.underlying174
  a127 := Tryz.isAgg174
  z127 := Tryz.sizeOf174
  v127 := Tryz.zeroValue174
  t164 := Tryz.underlying199
  a164 := Tryz.isAgg199
  z164 := Tryz.sizeOf199
  v164 := Tryz.zeroValue199 }
theorem Tryz.Builder_Extra_156 : Builder.Extra Tryz.prog Tryz.lays156_ren := {
  sizeBuilder := by kernel_rfl
  liesBuilder := by kernel_rfl
  t5 := Tryz.underlying5
  a5 := Tryz.isAgg5
  z5 := Tryz.sizeOf5
  v5 := Tryz.zeroValue5
  infoByte := by kernel_rfl
  cellsByte := by kernel_rfl
  sizeByte := by kernel_rfl
  neB5 := by decide }
open Go.RowKit in
theorem Tryz.strings_Join_none (a : Option Addr) (c : Nat) (sep : ByteArray) (w : World) :
    Calls Tryz.prog 105 #[.slice a 0 c, .string sep] w fun e w' => e = .returned (.string ⟨#[]⟩) ∧ w' = w := Any.strings_Join_none Tryz.lays156 Tryz.Builder_Extra_156 a c sep w
open Go.RowKit in
theorem Tryz.strings_Join (bk o c : Nat) (xs : List ByteArray) (sep : ByteArray) (w : World) (hcells : ∀ (j : Nat) x, xs[j]? = some x → w.cell? ⟨bk, o + j, none⟩ = some (.string x)) (hbk : bk < w.heap.size) (hN : xs.length ≤ 140737488355328) (hcap : xs.length ≤ c) (hlen : (Lib.join (xs.map (·.data.toList)) sep.data.toList).length ≤ 140737488355328) :
    Calls Tryz.prog 105 #[.slice (some ⟨bk, o, none⟩) xs.length c, .string sep] w fun e w' => e = .returned (.string ⟨(Lib.join (xs.map (·.data.toList)) sep.data.toList).toArray⟩) ∧ Below w.heap.size w w' := Any.strings_Join Tryz.lays156 Tryz.Builder_Extra_156 bk o c xs sep w hcells hbk hN hcap hlen
def Tryz.laysM316_ren : Go.Shelf.Ren := ⟨fun | 316 => 79 | n => n, fun | 9 => 9 | 3 => 3 | 4 => 4 | 37 => 111 | 0 => 0 | 127 => 174 | 5 => 5 | n => n, fun | n => n⟩
theorem Tryz.laysM316 : Go.Proofs.LaysM.n316 Tryz.prog Tryz.laysM316_ren := {
  mixed := by kernel_rfl
  f316 := Tryz.func79.trans (congrArg some (by kernel_rfl))
  t0 := Tryz.underlying0
  a0 := Tryz.isAgg0
  z0 := Tryz.sizeOf0
  v0 := Tryz.zeroValue0
  t3 := Tryz.underlying3
  a3 := Tryz.isAgg3
  z3 := Tryz.sizeOf3
  v3 := Tryz.zeroValue3
  t4 := Tryz.underlying4
  a4 := Tryz.isAgg4
  z4 := Tryz.sizeOf4
  v4 := Tryz.zeroValue4
  t9 := Tryz.underlying9
  a9 := Tryz.isAgg9
  z9 := Tryz.sizeOf9
  v9 := Tryz.zeroValue9
  t37 := Tryz.underlying111
  a37 := Tryz.isAgg111
  z37 := Tryz.sizeOf111
  v37 := Tryz.zeroValue111
  t127 := Tryz.underlying174
  a127 := Tryz.isAgg174
  z127 := Tryz.sizeOf174
  v127 := Tryz.zeroValue174
  t5 := Tryz.underlying5
  a5 := Tryz.isAgg5
  z5 := Tryz.sizeOf5
  v5 := Tryz.zeroValue5
  i0 := by kernel_rfl
  i3 := by kernel_rfl
  i4 := by kernel_rfl
  i5 := by kernel_rfl
  i9 := by kernel_rfl
  i37 := by kernel_rfl
  i127 := by kernel_rfl }
open Go.RowKit in
theorem Tryz.stringslite_Clone (s : ByteArray) (w : World) (hlim : s.size ≤ 281474976710656) :
    Calls Tryz.prog 79 #[.string s] w fun e w' => e = .returned (.string s) ∧ Below w.heap.size w w' := Any.stringslite_Clone Tryz.laysM316 s w hlim
def Tryz.lays219_ren : Go.Shelf.Ren := ⟨fun | 219 => 108 | 217 => 113 | 225 => 114 | 224 => 115 | 267 => 116 | 266 => 119 | 314 => 120 | n => n, fun | 9 => 9 | 3 => 3 | 4 => 4 | 5 => 5 | 46 => 195 | 146 => 197 | 51 => 196 | n => n, fun | 1 => 0 | n => n⟩
theorem Tryz.lays219 : Go.Proofs.Lays.n219 Tryz.prog Tryz.lays219_ren := {
  mixed := by kernel_rfl
  f217 := Tryz.func113.trans (congrArg some (by kernel_rfl))
  f219 := Tryz.func108.trans (congrArg some (by kernel_rfl))
  f224 := Tryz.func115.trans (congrArg some (by kernel_rfl))
  f225 := Tryz.func114.trans (congrArg some (by kernel_rfl))
  f266 := Tryz.func119.trans (congrArg some (by kernel_rfl))
  f267 := Tryz.func116.trans (congrArg some (by kernel_rfl))
  f314 := Tryz.func120.trans (congrArg some (by kernel_rfl))
  t3 := Tryz.underlying3
  a3 := Tryz.isAgg3
  z3 := Tryz.sizeOf3
  v3 := Tryz.zeroValue3
  t4 := Tryz.underlying4
  a4 := Tryz.isAgg4
  z4 := Tryz.sizeOf4
  v4 := Tryz.zeroValue4
  t5 := Tryz.underlying5
  a5 := Tryz.isAgg5
  z5 := Tryz.sizeOf5
  v5 := Tryz.zeroValue5
  t9 := Tryz.underlying9
  a9 := Tryz.isAgg9
  z9 := Tryz.sizeOf9
  v9 := Tryz.zeroValue9
  t46 := Tryz.underlying195
  a46 := Tryz.isAgg195
  z46 := Tryz.sizeOf195
  v46 := Tryz.zeroValue195
  t51 := Tryz.underlying196
  a51 := Tryz.isAgg196
  z51 := Tryz.sizeOf196
  v51 := Tryz.zeroValue196
  t146 := Tryz.underlying197
  a146 := Tryz.isAgg197
  z146 := Tryz.sizeOf197
  v146 := Tryz.zeroValue197
  g1 := by kernel_rfl }
open Go.RowKit Go.Lib in
theorem Tryz.stringslite_Index_one (s : ByteArray) (c : UInt8) (w : World) :
    Calls Tryz.prog 108 #[.string s, .string ⟨#[c]⟩] w fun e w' => e = .returned (.int .i64 (Lib.indexByte s.data.toList c)) ∧ w' = w := Any.stringslite_Index_one Tryz.lays219 s c w
end Go.Proofs
namespace Go.Proofs.YtimgafblpmjajabGreat

open Go.RowKit

/-- The first slash, if there is one. -/
theorem index47 (l : List UInt8) : (Lib.indexByte l 47 = -1 ∧ ∀ cur, Pl.splitTo cur l = [cur ++ l]) ∨
    ∃ i : Nat, Lib.indexByte l 47 = (i : Int) ∧ i < l.length ∧ ∀ cur, Pl.splitTo cur l = (cur ++ l.take i) :: Pl.split (l.drop (i + 1)) := by
  induction l with
  | nil => left; exact ⟨rfl, fun cur => by simp [Pl.splitTo]⟩
  | cons c r ih =>
    by_cases hc : c = 47
    · right
      refine ⟨0, ?_, by simp, fun cur => ?_⟩
      · simp [Lib.indexByte, hc]
      · simp [Pl.splitTo, hc, Pl.split]
    · have hc' : (c == 47) = false := by simpa using hc
      rcases ih with ⟨h1, h2⟩ | ⟨i, h1, h2, h3⟩
      · left
        refine ⟨?_, fun cur => ?_⟩
        · simp [Lib.indexByte, hc', h1]
        · simp only [Pl.splitTo, hc, if_false]; rw [h2]; simp
      · right
        refine ⟨i + 1, ?_, by simpa using h2, fun cur => ?_⟩
        · have hne : ((i : Int) == -1) = false := by rw [beq_eq_false_iff_ne]; omega
          simp only [Lib.indexByte, hc', h1, hne]; simp
        · simp only [Pl.splitTo, hc, if_false]; rw [h3]; simp

set_option maxHeartbeats 1000000 in
set_option maxRecDepth 100000 in
theorem cut0_miss (s : ByteArray) (w : World) (h : Lib.indexByte s.data.toList 47 = -1) :
    Calls Tryz.prog 101 #[.string s, .string ⟨#[47]⟩] w fun e w' => e = .returned (.tuple #[.string s, .string ⟨#[]⟩, .bool false]) ∧ w' = w := by
  go_enter Tryz.func101, Tryz.ntmps101
  go_wp2_with (go_at_call 108; refine (Tryz.stringslite_Index_one _ _ _).mono ?_; rintro e w' ⟨rfl, rfl⟩; rw [h])
  go_ret3
  exact ⟨rfl, rfl⟩

set_option maxHeartbeats 1000000 in
set_option maxRecDepth 100000 in
theorem cut_miss (s : ByteArray) (w : World) (h : Lib.indexByte s.data.toList 47 = -1) :
    Calls Tryz.prog 90 #[.string s, .string ⟨#[47]⟩] w fun e w' => e = .returned (.tuple #[.string s, .string ⟨#[]⟩, .bool false]) ∧ w' = w := by
  go_enter Tryz.func90, Tryz.ntmps90
  go_wp2_with (go_at_call 101; refine (cut0_miss _ _ h).mono ?_; rintro e w' ⟨rfl, rfl⟩)
  go_ret3
  exact ⟨rfl, rfl⟩

set_option maxHeartbeats 1000000 in
set_option maxRecDepth 100000 in
theorem cut0_hit (s : ByteArray) (i : Nat) (w : World) (h : Lib.indexByte s.data.toList 47 = (i : Int)) (hi : i < s.size) (hs : s.size ≤ 1048576) :
    Calls Tryz.prog 101 #[.string s, .string ⟨#[47]⟩] w fun e w' => e = .returned (.tuple #[.string (s.extract 0 i), .string (s.extract (i + 1) s.size), .bool true]) ∧ w' = w.drew := by
  have c1 : (0 : Int) ≤ ↑i := by omega
  have c2 : (↑i : Int) ≤ ↑s.size := by omega
  have c3 : (0 : Int) ≤ ↑i + 1 := by omega
  have c4 : (↑i + 1 : Int) ≤ ↑s.size := by omega
  go_enter Tryz.func101, Tryz.ntmps101
  go_wp2_with (go_at_call 108; refine (Tryz.stringslite_Index_one _ _ _).mono ?_; rintro e w' ⟨rfl, rfl⟩; rw [h])
  go_region
  all_goals go_wp2
  all_goals go_ret3
  all_goals exact ⟨rfl, rfl⟩

set_option maxHeartbeats 1000000 in
set_option maxRecDepth 100000 in
theorem cut_hit (s : ByteArray) (i : Nat) (w : World) (h : Lib.indexByte s.data.toList 47 = (i : Int)) (hi : i < s.size) (hs : s.size ≤ 1048576) :
    Calls Tryz.prog 90 #[.string s, .string ⟨#[47]⟩] w fun e w' => e = .returned (.tuple #[.string (s.extract 0 i), .string (s.extract (i + 1) s.size), .bool true]) ∧ w' = w.drew := by
  go_enter Tryz.func90, Tryz.ntmps90
  go_wp2_with (go_at_call 101; refine (cut0_hit _ _ _ h hi hs).mono ?_; rintro e w' ⟨rfl, rfl⟩)
  go_ret3
  exact ⟨rfl, rfl⟩

end Go.Proofs.YtimgafblpmjajabGreat
namespace Go.Proofs.YtimgafblpmjajabGreat

open Go.RowKit Go.Shelf

attribute [local go_sem] Oper.semAt_some

abbrev Part := { x : List UInt8 // x.length ≤ 60 }
def vals (l : List Part) : List (List UInt8) := l.map (·.1)
theorem vals_snoc (l : List Part) (x : Part) : vals (l ++ [x]) = vals l ++ [x.1] := by simp [vals]
theorem vals_length (l : List Part) : (vals l).length = l.length := by simp [vals]

/-- For the loop's measure. -/
def leftM : Value → Value → Nat
  | .string r, .bool true => r.size + 1
  | _, _ => 0
theorem leftM_go (r : ByteArray) : leftM (.string r) (.bool true) = r.size + 1 := rfl
theorem leftM_end (v : Value) : leftM v (.bool false) = 0 := by cases v <;> rfl

theorem grown_drew (w : World) (row : Option Nat) : w.grownBy w.drew row := ⟨rfl, rfl, rfl, Nat.le_refl _, fun _ _ _ => rfl⟩

set_option maxRecDepth 100000 in
set_option maxHeartbeats 1000000 in
theorem parts1_in (n : Nat) (hn : 1 ≤ n) (l Bn : Nat) (s : ByteArray) (hs : s.size ≤ 60) (J Jx : List Part → World → Prop) (W : World)
    (hJ : AbidesFrom W.heap.size J)
    (hY : ∀ pre (x : Part) W1, J pre W1 → pre.length < (Pl.split s.data.toList).length → YieldAt Fence.wide (n - 1) Tryz.prog l #[strV x.1] W1 fun e W' =>
      (e = .returned (.bool true) ∧ J (pre ++ [x]) W' ∧ True) ∨ (e = .returned (.bool false) ∧ Jx (pre ++ [x]) W'))
    (hBn : W.cell? ⟨Bn, 0, none⟩ = some (.string s)) (h0 : J [] W) :
    CallsIn Fence.wide n Tryz.prog 103 #[.func (.yield l) #[] #[], .pointer (some ⟨Bn, 0, none⟩)] W fun e W' => (∃ v, e = .returned v) ∧
      ((∃ ys, vals ys = Pl.split s.data.toList ∧ J ys W') ∨ (∃ pre, vals pre <+: Pl.split s.data.toList ∧ Jx pre W')) := by
  have hJd : ∀ pre X, J pre X → J pre X.drew := fun pre X h => hJ pre X X.drew none h (grown_drew X none) (fun r e => by cases e)
  have HJd : Hid (∀ pre X, J pre X → J pre X.drew) := hJd
  have HY := hY
  have HY' : Hid (∀ pre (x : Part) W1, J pre W1 → pre.length < (Pl.split s.data.toList).length → YieldAt Fence.wide (n - 1) Tryz.prog l #[strV x.1] W1 fun e W' =>
      (e = .returned (.bool true) ∧ J (pre ++ [x]) W' ∧ True) ∨ (e = .returned (.bool false) ∧ Jx (pre ++ [x]) W')) := HY
  clear HY hY hJd hJ
  refine callsIn_of_wp Tryz.func103 rfl trivial ?_ rfl
  simp only [Tryz.ntmps103, List.size_toArray, List.length_cons, List.length_nil, Nat.reduceAdd, Nat.reduceSub, Array.replicate_succ, Array.replicate_zero, List.push_toArray, List.append_toArray, List.nil_append, List.cons_append]
  gi_wp2
  gi_loopw [3, 4] (fun rv mv wr => ∃ (pre : List Part) (r : ByteArray) (b : Bool), rv = .string r ∧ mv = .bool b ∧ r.size ≤ 60 ∧ J pre wr ∧ ((b = true ∧ Pl.split s.data.toList = vals pre ++ Pl.split r.data.toList) ∨ (b = false ∧ vals pre = Pl.split s.data.toList)))
    (fun rv mv _ => leftM rv mv)
  case atStart => exact ⟨[], s, true, rfl, rfl, hs, h0, .inl ⟨rfl, rfl⟩⟩
  case round =>
    obtain ⟨pre, r, b, rfl, rfl, hr, hJs, hb⟩ := hrel
    cases b with
    | false =>
      obtain ⟨h, _⟩ | ⟨_, hp⟩ := hb
      · cases h
      · have HP : Hid (vals pre = Pl.split s.data.toList) := hp
        clear hp
        gi_wp2
        go_end0
        exact ⟨⟨_, rfl⟩, .inl ⟨pre, HP.out, hJs⟩⟩
    | true =>
      have hp : Pl.split s.data.toList = vals pre ++ Pl.split r.data.toList := by rcases hb with ⟨_, h⟩ | ⟨h, _⟩; exact h; cases h
      clear hb
      rcases index47 r.data.toList with ⟨hix, hsp⟩ | ⟨i, hix, hil, hsp⟩
      · have hs1 : Pl.split r.data.toList = [r.data.toList] := by have := hsp []; simpa [Pl.split] using this
        obtain ⟨x, hx⟩ : ∃ x : Part, x.1 = r.data.toList := ⟨⟨r.data.toList, by rw [← size_data]; exact hr⟩, rfl⟩
        have HE : Hid (vals (pre ++ [x]) = Pl.split s.data.toList) := by unfold Hid; rw [vals_snoc, hx, hp, hs1]
        obtain ⟨fn, tmps, assign, body, hy, hR⟩ := HY'.out pre x wr hJs (by rw [hp, hs1]; simp [vals_length])
        rw [hx, strV_data] at hy
        clear hp hs1 hsp hx
        gi_wp2_with (refine ⟨trivial, ?_⟩; gi_at_call 90; refine (callsIn_wide.2 (cut_miss r _ hix)).mono ?_; rintro e w' ⟨rfl, rfl⟩)
        refine hR.mono ?_
        rintro e W3 (⟨rfl, hJ3, _⟩ | ⟨rfl, hJx3⟩)
        · gi_wp2
          go_roundw
          case rel => exact ⟨pre ++ [x], _, false, rfl, rfl, by decide, hJ3, .inr ⟨rfl, HE.out⟩⟩
          case measure => simp [leftM]
        · gi_wp2
          refine bodyPost_ret (results_none rfl _ _ _) rfl ?_
          exact ⟨⟨_, rfl⟩, .inr ⟨pre ++ [x], ⟨[], by rw [HE.out]; simp⟩, hJx3⟩⟩
      · have hi : i < r.size := by rw [size_data]; exact hil
        have hs1 : Pl.split r.data.toList = r.data.toList.take i :: Pl.split (r.data.toList.drop (i + 1)) := by have := hsp []; simpa [Pl.split] using this
        have hr2 : (r.extract (i + 1) r.size).data.toList = r.data.toList.drop (i + 1) := by
          rw [ByteArray.data_extract]
          simp
          rw [List.take_of_length_le (by rw [List.length_drop, ← size_data]; exact Nat.le_refl _)]
        obtain ⟨x, hx⟩ : ∃ x : Part, x.1 = r.data.toList.take i := ⟨⟨r.data.toList.take i, by rw [List.length_take]; omega⟩, rfl⟩
        have hxv : strV x.1 = .string (r.extract 0 i) := by rw [hx, strV_extract]; simp
        have HE : Hid (Pl.split s.data.toList = vals (pre ++ [x]) ++ Pl.split (r.extract (i + 1) r.size).data.toList) := by unfold Hid; rw [vals_snoc, hx, hp, hs1, hr2]; simp
        have hrs : (r.extract (i + 1) r.size).size = r.size - (i + 1) := by rw [size_data, hr2, List.length_drop, ← size_data]
        have hr60 : (r.extract (i + 1) r.size).size ≤ 60 := by omega
        have hml : (r.extract (i + 1) r.size).size < r.size := by omega
        obtain ⟨r', hr'⟩ : ∃ r', r' = r.extract (i + 1) r.size := ⟨_, rfl⟩
        obtain ⟨fn, tmps, assign, body, hy, hR⟩ := HY'.out pre x wr.drew (HJd.out _ _ hJs) (by rw [hp, hs1]; simp [vals_length])
        rw [hxv] at hy
        have hcut := cut_hit r i wr hix hi (by omega)
        rw [← hr'] at hcut HE hr60 hml
        clear hp hs1 hsp hx hxv hrs hr2 hr' hil
        gi_wp2_with (refine ⟨trivial, ?_⟩; gi_at_call 90; refine (callsIn_wide.2 hcut).mono ?_; rintro e w' ⟨rfl, rfl⟩)
        refine hR.mono ?_
        rintro e W3 (⟨rfl, hJ3, _⟩ | ⟨rfl, hJx3⟩)
        · gi_wp2
          go_roundw
          case rel => exact ⟨pre ++ [x], r', true, rfl, rfl, hr60, hJ3, .inl ⟨rfl, HE.out⟩⟩
          case measure => simp [leftM]; omega
        · gi_wp2
          refine bodyPost_ret (results_none rfl _ _ _) rfl ?_
          exact ⟨⟨_, rfl⟩, .inr ⟨pre ++ [x], ⟨_, HE.out.symm⟩, hJx3⟩⟩

set_option maxHeartbeats 1000000 in
theorem parts_in (n : Nat) (s : ByteArray) (w : World) :
    CallsIn Fence.wide n Tryz.prog 92 #[.string s] w fun e w' => e = .returned (.func (.func 103) #[] #[.pointer (some ⟨w.heap.size, 0, none⟩)]) ∧ w' = w.alloc (.cells #[.string s] 9) := by
  refine callsIn_of_wp Tryz.func92 rfl trivial ?_ rfl
  simp only [Tryz.ntmps92, List.size_toArray, List.length_cons, List.length_nil, Nat.reduceAdd, Nat.reduceSub, Array.replicate_succ, Array.replicate_zero, List.push_toArray, List.append_toArray, List.nil_append, List.cons_append]
  gi_wp2
  go_ret
  exact ⟨rfl, rfl⟩

theorem parts_stops (n : Nat) (hn : 1 ≤ n) (Bn : Nat) (s : ByteArray) (hs : s.size ≤ 60) (w : World) (hBn : Bn < w.heap.size) (hc : w.cell? ⟨Bn, 0, none⟩ = some (.string s)) :
    SeqStopsK Fence.wide n Tryz.prog 103 #[.pointer (some ⟨Bn, 0, none⟩)] (fun x : Part => #[strV x.1]) (fun _ _ => True) (fun ys => vals ys = Pl.split s.data.toList) (fun pre => vals pre <+: Pl.split s.data.toList) (Pl.split s.data.toList).length w := fun l J Jx W hW hJ _ hY h0 =>
  parts1_in n hn l Bn s hs J Jx W hJ hY ((hW.cell (p := ⟨Bn, 0, none⟩) hBn).trans hc) h0

end Go.Proofs.YtimgafblpmjajabGreat
namespace Go.Proofs.YtimgafblpmjajabGreat

open Go.RowKit

theorem join_any (base : Nat) (v : Value) (xs : List (List UInt8)) (w : World) (hrow : w.ownsRow base 9 1 v xs.length (xs.map strV)) (hs : Pl.total xs ≤ 4194304) :
    Calls Tryz.prog 105 #[v, .string ⟨#[47]⟩] w fun e w' => e = .returned (strV (Pl.joinS xs)) ∧ Below w.heap.size w w' := by
  obtain ⟨a, cap, rfl, hcap, hmax, hcell⟩ := row_shape hrow
  have hlen : xs.length ≤ 4194304 := by unfold Pl.total at hs; omega
  have hj := joinS_len xs
  cases xs with
  | nil => exact (Tryz.strings_Join_none a cap _ w).mono fun e w' ⟨he, hw⟩ => ⟨he, hw ▸ Below.refl _ _⟩
  | cons x r =>
    obtain ⟨g, rfl, _, hg, _⟩ := hcell 0 (by simp)
    obtain ⟨ys, hys⟩ : ∃ ys : List ByteArray, ys = (x :: r).map (fun l => (⟨l.toArray⟩ : ByteArray)) := ⟨_, rfl⟩
    have hyl : ys.length = (x :: r).length := by rw [hys, List.length_map]
    have hmap : ys.map (·.data.toList) = x :: r := by
      rw [hys, List.map_map]
      conv => rhs; rw [← List.map_id (x :: r)]
      exact List.map_congr_left (fun l _ => by simp)
    have h := Tryz.strings_Join g 0 cap ys ⟨#[47]⟩ w (fun j y hy => by
      rw [hys] at hy
      rw [List.getElem?_map] at hy
      obtain ⟨l, hl, rfl⟩ := Option.map_eq_some_iff.1 hy
      obtain ⟨hlt, hl'⟩ := List.getElem?_eq_some_iff.1 hl
      obtain ⟨g', hg', _, _, hc⟩ := hcell j hlt
      cases hg'
      rw [Nat.zero_add, hc, hl']; rfl) hg (by omega) (by omega) (by
      rw [hmap]
      have : (Lib.join (x :: r) [47]).length ≤ 4194304 := by unfold Pl.joinS at hj; omega
      exact Nat.le_trans this (by decide))
    rw [hmap, hyl] at h
    exact h

set_option maxHeartbeats 1000000 in
set_option maxRecDepth 100000 in
theorem clone_any (s : ByteArray) (w : World) (hs : s.size ≤ 4194304) :
    Calls Tryz.prog 58 #[.string s] w fun e w' => e = .returned (.string s) ∧ Below w.heap.size w w' := by
  go_enter Tryz.func58, Tryz.ntmps58
  go_wp2_with (go_at_call 79; refine (Tryz.stringslite_Clone s _ (by omega)).mono ?_; rintro e w' ⟨rfl, hb⟩)
  go_ret
  exact ⟨rfl, hb⟩

/-- The answer's cell, made first, behind what was laid since. -/
theorem old_cell {w w2 : World} {o : Obj} {u : Value} {t : TypeId} (ho : o = .cells #[u] t) (hb : Below (w.alloc o).heap.size (w.alloc o) w2) (o' : Obj) : (w2.alloc o').cell? ⟨w.heap.size, 0, none⟩ = some u ∧ (w2.alloc o').frozen? ⟨w.heap.size, 0, none⟩ = false := by
  have hz : w.heap.size < w2.heap.size := by have := hb.size; simp at this; omega
  have hb' : Below (w.alloc o).heap.size (w.alloc o) (w2.alloc o') := hb.trans ((Below.refl _ _).alloc (by simp; omega) o')
  obtain ⟨hc, hf⟩ := bcell hb'
  subst ho
  exact ⟨by rw [hc _ _ (by simp)]; simp, by rw [hf _ _ (by simp)]; simp⟩

theorem old_set {w w2 : World} {o : Obj} {u : Value} {t : TypeId} (ho : o = .cells #[u] t) (hb : Below (w.alloc o).heap.size (w.alloc o) w2) (u' : Value) (o' : Obj) : ((w2.setCell ⟨w.heap.size, 0, none⟩ u').alloc o').cell? ⟨w.heap.size, 0, none⟩ = some u' := by
  have hz : w.heap.size < w2.heap.size := by have := hb.size; simp at this; omega
  obtain ⟨hc, hf⟩ := bcell hb
  subst ho
  rw [World.cell?_alloc_past _ _ _ (by simp [World.setCell]; omega)]
  exact World.cell?_setCell_same' _ _ _ (by rw [hc _ _ (by simp)]; simp)

/-- The one form as a value, with its code. -/
def formV (r : Int × List UInt8) : Value := .tuple #[.agg #[strV r.2], .int .i64 r.1]

set_option maxHeartbeats 1000000 in
set_option maxRecDepth 100000 in
theorem formOf_any (base : Nat) (v : Value) (xs : List (List UInt8)) (w : World) (hrow : w.ownsRow base 9 1 v xs.length (xs.map strV)) (hs : Pl.total xs ≤ 4194304) :
    Calls Tryz.prog 94 #[v] w fun e w' => e = .returned (formV (Pl.fin (xs, 0))) ∧ Below w.heap.size w w' := by
  obtain ⟨t, ht⟩ : ∃ t : ByteArray, t.data.toList = Pl.joinS xs := ⟨⟨(Pl.joinS xs).toArray⟩, by simp⟩
  have HT : Hid (strV (Pl.joinS xs) = .string t) := by unfold Hid; rw [← ht, strV_data]
  have hts : t.size ≤ 4194304 := by rw [size_data, ht]; have := joinS_len xs; omega
  have hrow1 := hrow.alloc (.cells #[.string ⟨#[]⟩] 106)
  by_cases hj : Pl.joinS xs = []
  · have hfin : Pl.fin (xs, 0) = (1, []) := by unfold Pl.fin; rw [if_pos rfl, if_pos hj]
    have hte : t.toList.isEmpty = true := by rw [Go.ByteArray.toList_eq, ht, hj]; rfl
    rw [hfin]
    clear hfin ht hj
    go_enter Tryz.func94, Tryz.ntmps94
    go_wp2_with fail
    refine (join_any base v xs _ hrow1 hs).mono ?_
    rw [HT.out]
    rintro e w1 ⟨rfl, hb⟩
    go_wp2_with (go_at_call 58; refine (clone_any t _ hts).mono ?_; rintro e w2 ⟨rfl, hb2⟩; have hb3 := hb.trans (hb2.mono hb.size); have hA := fun o' => (old_cell rfl hb3 o').1; have hF := fun o' => (old_cell rfl hb3 o').2; have hz : w.heap.size < w2.heap.size := (by have := hb3.size; simp at this; omega))
    exact bodyPost_ret (v := formV (1, [])) (by simp [results, Tryz.results94, go_sem, formV, strV, old_set rfl hb3]) rfl ⟨rfl, ((below_one hb3).setCell (p := ⟨w.heap.size, 0, none⟩) (Nat.le_refl _) _).alloc (by simp [World.setCell]; omega) _⟩
  · have hte : t.toList.isEmpty = false := by rw [Go.ByteArray.toList_eq, ht]; simpa using hj
    by_cases hl' : 60 < (Pl.joinS xs).length
    · have hfin : Pl.fin (xs, 0) = (3, []) := by unfold Pl.fin; rw [if_pos rfl, if_neg hj, if_pos hl']
      have htl : 60 < t.size := by rw [size_data, ht]; exact hl'
      rw [hfin]
      clear hfin ht hj hl'
      go_enter Tryz.func94, Tryz.ntmps94
      go_wp2_with fail
      refine (join_any base v xs _ hrow1 hs).mono ?_
      rw [HT.out]
      rintro e w1 ⟨rfl, hb⟩
      go_wp2_with (go_at_call 58; refine (clone_any t _ hts).mono ?_; rintro e w2 ⟨rfl, hb2⟩; have hb3 := hb.trans (hb2.mono hb.size); have hA := fun o' => (old_cell rfl hb3 o').1; have hF := fun o' => (old_cell rfl hb3 o').2; have hz : w.heap.size < w2.heap.size := (by have := hb3.size; simp at this; omega))
      exact bodyPost_ret (v := formV (3, [])) (by simp [results, Tryz.results94, go_sem, formV, strV, old_set rfl hb3]) rfl ⟨rfl, ((below_one hb3).setCell (p := ⟨w.heap.size, 0, none⟩) (Nat.le_refl _) _).alloc (by simp [World.setCell]; omega) _⟩
    · have hfin : Pl.fin (xs, 0) = (0, Pl.joinS xs) := by unfold Pl.fin; rw [if_pos rfl, if_neg hj, if_neg hl']
      have htl : ¬ 60 < t.size := by rw [size_data, ht]; exact hl'
      rw [hfin]
      clear hfin ht hj hl'
      go_enter Tryz.func94, Tryz.ntmps94
      go_wp2_with fail
      refine (join_any base v xs _ hrow1 hs).mono ?_
      rw [HT.out]
      rintro e w1 ⟨rfl, hb⟩
      go_wp2_with (go_at_call 58; refine (clone_any t _ hts).mono ?_; rintro e w2 ⟨rfl, hb2⟩; have hb3 := hb.trans (hb2.mono hb.size); have hA := fun o' => (old_cell rfl hb3 o').1; have hF := fun o' => (old_cell rfl hb3 o').2; have hz : w.heap.size < w2.heap.size := (by have := hb3.size; simp at this; omega))
      exact bodyPost_ret (v := formV (0, Pl.joinS xs)) (by simp [results, Tryz.results94, go_sem, formV, HT.out, old_set rfl hb3]) rfl ⟨rfl, ((below_one hb3).setCell (p := ⟨w.heap.size, 0, none⟩) (Nat.le_refl _) _).alloc (by simp [World.setCell]; omega) _⟩

end Go.Proofs.YtimgafblpmjajabGreat
namespace Go.Proofs.YtimgafblpmjajabGreat

open Go.RowKit Go.Shelf

attribute [local go_sem] Oper.semAt_some

theorem Boxed.below {W W' : World} {B n : Nat} {t : TypeId} {v : Value} (h : Boxed W B t v) (hb : Below n W W') (hn : B < n) : Boxed W' B t v := (hb.block B hn).trans h

/-- Between two rounds: the row so far, the two answers' cells as they were laid. -/
def Mid (n₀ N : Nat) (R : List (List UInt8)) (pre : List Part) (W : World) : Prop :=
  (∃ v, Boxed W N 22 v ∧ W.ownsRow n₀ 9 1 v (Pl.walkP R (vals pre)).1.length ((Pl.walkP R (vals pre)).1.map strV) ∧ (Pl.walkP R (vals pre)).2 = 0)
/-- A round has left. -/
def Left2 (R : List (List UInt8)) (c : Code) (pre : List Part) : Prop := c = .ret ∧ (Pl.walkP R (vals pre)).2 ≠ 0

theorem walkP_snoc (R pre : List (List UInt8)) (p : List UInt8) (h : (Pl.walkP R pre).2 = 0) :
    Pl.walkP R (pre ++ [p]) = if (Pl.stepW (Pl.walkP R pre).1 p).2 = 0 then (Pl.stepW (Pl.walkP R pre).1 p) else ([], (Pl.stepW (Pl.walkP R pre).1 p).2) := by
  rw [Pl.walkP_append, if_pos h]
  simp only [Pl.walkP]
  split
  · rename_i h2; rw [← h2]
  · rfl

theorem total_vals (pre : List Part) : Pl.total (vals pre) ≤ 61 * pre.length := by
  induction pre with
  | nil => simp [vals, Pl.total, Lib.lens]
  | cons x r ih =>
    have := x.2
    simp only [vals, Pl.total, Lib.lens, List.map_cons, List.sum_cons, List.length_cons] at ih ⊢
    omega

set_option maxRecDepth 100000 in
set_option maxHeartbeats 2000000 in
theorem walk_short (n₀ : Nat) (v0 : Value) (R : List (List UInt8)) (s : ByteArray) (w : World) (hrow : w.ownsRow n₀ 9 1 v0 R.length (R.map strV)) (hn₀ : n₀ ≤ w.heap.size) (hR : Pl.total R ≤ 1048576) (hs : s.size ≤ 60) :
    Calls Tryz.prog 77 #[v0, .string s] w fun e w' => e = .returned (formV (Pl.fin (Pl.walkP R (Pl.split s.data.toList)))) ∧ Below n₀ w w' := by
  obtain ⟨i0, hi, hz0, hz1, hz2⟩ := info_parts Tryz.info9
  obtain ⟨a0, cap0, rfl, hcap0, hmax0, _⟩ := row_shape hrow
  have hb60 : (decide ((60 : Int) < (s.size : Int))) = false := by simp; omega
  have hsl : (Pl.split s.data.toList).length ≤ 61 := by have := Pl.length_split s.data.toList; rw [← size_data] at this; omega
  obtain ⟨rc, rx, hfin⟩ : ∃ rc rx, Pl.fin (Pl.walkP R (Pl.split s.data.toList)) = (rc, rx) := ⟨_, _, rfl⟩
  obtain ⟨t, ht⟩ : ∃ t : ByteArray, strV rx = .string t := ⟨_, rfl⟩
  have hfv : formV (Pl.fin (Pl.walkP R (Pl.split s.data.toList))) = .tuple #[.agg #[.string t], .int .i64 rc] := by rw [hfin, formV, ht]
  rw [hfv]
  have HFV : Hid (formV (Pl.fin (Pl.walkP R (Pl.split s.data.toList))) = .tuple #[.agg #[.string t], .int .i64 rc]) := hfv
  clear hfv hfin ht
  refine (callsIn_wide (n := 5)).1 ?_
  refine callsIn_of_wp_marks Tryz.func77 rfl trivial ?_ rfl
  simp only [Tryz.ntmps77, List.size_toArray, List.length_cons, List.length_nil, Nat.reduceAdd, Nat.reduceSub, Array.replicate_succ, Array.replicate_zero, List.push_toArray, List.append_toArray, List.nil_append, List.cons_append]
  gi_wp2_with (refine ⟨trivial, ?_⟩; gi_at_call 92; refine (parts_in _ s _).mono ?_; rintro e w' ⟨rfl, rfl⟩)
  have b0 := Boxed.new w 22 (.slice a0 R.length cap0)
  have b1 := Boxed.new (w.alloc (.cells #[.slice a0 R.length cap0] 22)) 106 (.string ⟨#[]⟩)
  have b2 := Boxed.new ((w.alloc (.cells #[.slice a0 R.length cap0] 22)).alloc (.cells #[.string ⟨#[]⟩] 106)) 3 (.int .i64 0)
  have b3 := Boxed.new (((w.alloc (.cells #[.slice a0 R.length cap0] 22)).alloc (.cells #[.string ⟨#[]⟩] 106)).alloc (.cells #[.int .i64 0] 3)) 9 (.string s)
  simp only [World.size_alloc] at b1 b2 b3
  have hB0 : Below n₀ w ((((w.alloc (.cells #[.slice a0 R.length cap0] 22)).alloc (.cells #[.string ⟨#[]⟩] 106)).alloc (.cells #[.int .i64 0] 3)).alloc (.cells #[.string s] 9)) := ((((Below.refl _ w).alloc hn₀ _).alloc (by simp; omega) _).alloc (by simp; omega) _).alloc (by simp; omega) _
  refine wpIn_rangeFunc_ownG rfl (by omega) (gf := 103) (lb := #[.pointer (some ⟨w.heap.size + 1 + 1 + 1, 0, none⟩)]) rfl trivial (enters_of Tryz.func103 (by kernel_rfl) rfl)
    (parts_stops (5 - 1) (by omega) (w.heap.size + 1 + 1 + 1) s hs _ (by simp) b3.cell) (fun _ _ => trivial) (fun _ _ _ _ _ _ _ _ => trivial) (Below.refl _ _) (fun _ => rfl)
    (fun pre W => Mid n₀ w.heap.size R pre W ∧ Boxed W (w.heap.size + 1) 106 (.string ⟨#[]⟩) ∧ Boxed W (w.heap.size + 1 + 1) 3 (.int .i64 0) ∧ Below n₀ w W)
    (fun c pre W => Left2 R c pre ∧ Boxed W (w.heap.size + 1) 106 (.string ⟨#[]⟩) ∧ Boxed W (w.heap.size + 1 + 1) 3 (.int .i64 (Pl.walkP R (vals pre)).2) ∧ Below n₀ w W)
    (OwnFrom.and (Own.from (holdsRow_own n₀ w.heap.size 22 9 1 (fun pre => (Pl.walkP R (vals pre)).1.length) (fun pre => (Pl.walkP R (vals pre)).1.map strV) (fun pre v => (Pl.walkP R (vals pre)).2 = 0)) _) (OwnFrom.and (Own.from (boxed_own _ _ (fun _ => .string ⟨#[]⟩)) _) (OwnFrom.and (Own.from (boxed_own _ _ (fun _ => .int .i64 0)) _) (ownFrom_below hn₀ (by simp; omega)))))
    (fun c => OwnFrom.and (ownFrom_pure _ (fun pre => Left2 R c pre)) (OwnFrom.and (Own.from (boxed_own _ _ (fun _ => .string ⟨#[]⟩)) _) (OwnFrom.and (Own.from (boxed_own _ _ (fun pre => .int .i64 (Pl.walkP R (vals pre)).2)) _) (ownFrom_below hn₀ (by simp; omega)))))
    ⟨⟨_, ((b0.alloc _).alloc _).alloc _, (((hrow.alloc _).alloc _).alloc _).alloc _, rfl⟩, (b1.alloc _).alloc _, b2.alloc _, hB0⟩
    (fun x => { tmps := #[.slice a0 R.length cap0, .string s, .pointer (some ⟨w.heap.size, 0, none⟩), undef, .pointer (some ⟨w.heap.size + 1, 0, none⟩), .pointer (some ⟨w.heap.size + 1 + 1, 0, none⟩), .string ⟨x.1.toArray⟩, .string s, .int .i64 s.size, .bool false, undef, .string s, .func (.func 103) #[] #[.pointer (some ⟨w.heap.size + 1 + 1 + 1, 0, none⟩)], .string ⟨x.1.toArray⟩, undef, undef, undef, undef, undef, undef, undef, undef, undef, undef, undef, undef, undef, undef, undef, undef, undef, undef, undef, undef, undef, undef, undef, undef, undef, undef, undef, undef, undef, undef, undef, undef], defers := [] }) ?assign ?body ?done ?stop
  case assign =>
    intro l x W K hK
    gi_wp2
    exact hK
  case body =>
    rintro l pre x W ⟨⟨v, hv, hrw, hz⟩, h1, h2, hB⟩ hlt
    have hsz := hB.size
    have hbl : (Pl.walkP R (vals pre)).1.length ≤ 2097153 := by
      have g1 := Pl.total_walkP R (vals pre)
      have g2 := total_vals pre
      have g3 : (Pl.walkP R (vals pre)).1.length ≤ Pl.total (Pl.walkP R (vals pre)).1 := by unfold Pl.total; omega
      omega
    have HS := walkP_snoc R (vals pre) x.1 hz
    rw [← vals_snoc] at HS
    obtain ⟨D, hD⟩ : ∃ D, D = (Pl.walkP R (vals pre)).1 := ⟨_, rfl⟩
    rw [← hD] at hrw hbl HS
    obtain ⟨p, hp⟩ : ∃ p, p = x.1 := ⟨_, rfl⟩
    have hpl := x.2
    rw [← hp] at HS hpl
    have HS' : Hid (Pl.walkP R (vals (pre ++ [x])) = if (Pl.stepW D p).2 = 0 then Pl.stepW D p else ([], (Pl.stepW D p).2)) := HS
    obtain ⟨q, hq⟩ : ∃ q : ByteArray, q = ⟨p.toArray⟩ := ⟨_, rfl⟩
    have hqd : q.data.toList = p := by rw [hq]
    have hqs : q.size ≤ 60 := by rw [size_data, hqd]; exact hpl
    have hql' : q.toList = p := by rw [Go.ByteArray.toList_eq, hqd]
    dsimp only
    rw [← hp, ← hq]
    have hqv : Value.string q = strV p := by rw [hq]; rfl
    clear HS hD hz hq hpl hlt
    obtain ⟨a6, cap6, rfl, hcap6, hmax6, _⟩ := row_shape hrw
    have hc0 := hv.cell
    have hf0 := hv.frozen
    have hc1 := h1.cell
    have hf1 := h1.frozen
    have hc2 := h2.cell
    have hf2 := h2.frozen
    by_cases c1 : p = [46]
    · have t1 : (q.toList == [46]) = true := by rw [hql', c1]; rfl
      have HF : Hid (Pl.walkP R (vals (pre ++ [x])) = (D, 0)) := by unfold Hid; rw [HS'.out]; simp [Pl.stepW, c1]
      clear hql' hqd c1 hqv hp
      gi_wp2
      exact ⟨KeepsFrom.refl _ _, trivial, ⟨_, hv, by rw [HF.out]; exact hrw, by rw [HF.out]⟩, h1, h2, hB⟩
    · have t1 : (q.toList == [46]) = false := by rw [hql']; simpa using c1
      by_cases c2 : p = [46, 46]
      · have t2 : (q.toList == [46, 46]) = true := by rw [hql', c2]; rfl
        by_cases c3 : D = []
        · have t3 : ((D.length : Int) == 0) = true := by rw [c3]; rfl
          have HF : Hid (Pl.walkP R (vals (pre ++ [x])) = ([], 2)) := by unfold Hid; rw [HS'.out]; simp [Pl.stepW, c2, c3]
          clear hql' hqd c1 c2 c3 hqv hp
          gi_wp2
          refine ⟨((KeepsOthers.setCell _ _ _).trans (KeepsOthers.setCell _ _ _)).from _, ⟨rfl, by rw [HF.out]; decide⟩, (h1.set _).other (by omega) _, by rw [HF.out]; exact (h2.other (by omega) _).set _, (hB.setCell (p := ⟨w.heap.size + 1, 0, none⟩) (by simp; omega) _).setCell (p := ⟨w.heap.size + 1 + 1, 0, none⟩) (by simp; omega) _⟩
        · have hDp : 0 < D.length := List.length_pos_iff.2 c3
          have t3 : ((D.length : Int) == 0) = false := by rw [beq_eq_false_iff_ne]; omega
          have HF : Hid (Pl.walkP R (vals (pre ++ [x])) = (D.dropLast, 0)) := by unfold Hid; rw [HS'.out]; simp [Pl.stepW, c2, c3]
          obtain ⟨g6, cap6', hv6, _, hpop⟩ := pop_row c3 hrw
          cases hv6
          clear hql' hqd c1 c2 c3 hqv hp
          gi_wp2
          exact ⟨(KeepsOthers.setCell _ _ _).from _, trivial, ⟨_, hv.set _, by rw [HF.out]; exact hpop.kept (grownBy_setCell' W _ _) (.inr (hv.not_row (by decide) hpop).symm), by rw [HF.out]⟩, h1.other (by omega) _, h2.other (by omega) _, hB.setCell (p := ⟨w.heap.size, 0, none⟩) hn₀ _⟩
      · have t2 : (q.toList == [46, 46]) = false := by rw [hql']; simpa using c2
        cases hpp : Pl.plainP p with
        | false =>
          have HF : Hid (Pl.walkP R (vals (pre ++ [x])) = ([], 1)) := by unfold Hid; rw [HS'.out]; simp [Pl.stepW, c1, c2, hpp]
          have hip := isPlain_any q
          rw [hqd, hpp] at hip
          clear hql' hqd c1 c2 hqv hp hpp
          gi_wp2_with (refine ⟨trivial, ?_⟩; gi_at_call 93; refine (CallsIn.inRound l (callsIn_wide.2 (hip _ (by unfold maxLen; omega)))).mono ?_; rintro e w' ⟨rfl, rfl⟩)
          refine ⟨((KeepsOthers.setCell _ _ _).trans (KeepsOthers.setCell _ _ _)).from _, ⟨rfl, by rw [HF.out]; decide⟩, (h1.set _).other (by omega) _, by rw [HF.out]; exact (h2.other (by omega) _).set _, (hB.setCell (p := ⟨w.heap.size + 1, 0, none⟩) (by simp; omega) _).setCell (p := ⟨w.heap.size + 1 + 1, 0, none⟩) (by simp; omega) _⟩
        | true =>
          have HF : Hid (Pl.walkP R (vals (pre ++ [x])) = (D ++ [p], 0)) := by unfold Hid; rw [HS'.out]; simp [Pl.stepW, c1, c2, hpp]
          have hip := isPlain_any q
          rw [hqd, hpp] at hip
          have HQ : Hid (Value.string q = strV p) := hqv
          clear hql' hqd c1 c2 hqv hp hpp
          gi_wp2_with (first | (refine ⟨trivial, ?_⟩; gi_at_call 93; refine (CallsIn.inRound l (callsIn_wide.2 (hip _ (by unfold maxLen; omega)))).mono ?_; rintro e w' ⟨rfl, rfl⟩) | (gi_at_builtin; refine wpListIn_append_own _ rfl _ _ 22 rfl n₀ 9 i0 (.string ByteArray.empty) 1 16 Tryz.underlying22 hi hz0 hz1 hz2 rfl (by decide) _ _ _ rfl (hrw.alloc _) ⟨_, 0, none⟩ 1 1 [.string q] rfl rfl (cell_one_new _ _ _) (by simp [Value.oneCell']) (by unfold maxLen; omega) (by omega) (by simp; omega) ?_; intro v' w1 hown' hgrow _; obtain ⟨g', cap', rfl⟩ := ownsRow_succ hown'; obtain ⟨hv1, hv2, hr2, hk2, hb2⟩ := hv.appended (by decide) hrw (by omega) hn₀ hown' hgrow; have hc3 := hv1.cell; have hf3 := hv1.frozen))
          refine ⟨hk2.from _, trivial, ⟨_, hv2, ?_, by rw [HF.out]⟩, ((h1.alloc _).kept hgrow (h1.not_row (by decide) hrw)).other (by omega) _, ((h2.alloc _).kept hgrow (h2.not_row (by decide) hrw)).other (by omega) _, hB.trans hb2⟩
          rw [HF.out]; rw [HQ.out] at hr2; simpa using hr2
  case done =>
    rintro D ys W hD hS ⟨⟨v, hv, hrw, hz⟩, h1, h2, hB⟩ hK
    rw [hS] at hrw hz
    have hsz := hB.size
    have hform := formOf_any n₀ v _ W hrw (by
      have g1 := Pl.total_walkP R (Pl.split s.data.toList)
      have g2 := Pl.total_split s.data.toList
      rw [← size_data] at g2
      omega)
    rw [show ((Pl.walkP R (Pl.split s.data.toList)).1, (0 : Int)) = Pl.walkP R (Pl.split s.data.toList) by rw [← hz], HFV.out] at hform
    obtain ⟨a6, cap6, rfl, _, _, _⟩ := row_shape hrw
    have hc0 := hv.cell
    clear hz hrw
    gi_wp2_with (refine ⟨trivial, ?_⟩; gi_at_call 94; refine (callsIn_wide.2 hform).mono ?_; rintro e w2 ⟨rfl, hb⟩; have g1 := Boxed.below h1 hb h1.lt; have g2 := Boxed.below h2 hb h2.lt; have gc1 := g1.cell; have gf1 := g1.frozen; have gc2 := g2.cell; have gf2 := g2.frozen)
    have hK2 : w2.heap[D]? = some (.deferred (some [])) := (hb.block D (Array.getElem?_eq_some_iff.1 hK).1).trans hK
    have hK3 := (KeepsOthers.setCell (w2.setCell ⟨w.heap.size + 1, 0, none⟩ (.string t)) ⟨w.heap.size + 1 + 1, 0, none⟩ (.int .i64 rc)).same D _ ((KeepsOthers.setCell w2 ⟨w.heap.size + 1, 0, none⟩ (.string t)).same D _ hK2 rfl) rfl
    have e1 : Boxed ((w2.setCell ⟨w.heap.size + 1, 0, none⟩ (.string t)).setCell ⟨w.heap.size + 1 + 1, 0, none⟩ (.int .i64 rc)) (w.heap.size + 1) 106 (.string t) := (g1.set _).other (by omega) _
    have e2 : Boxed ((w2.setCell ⟨w.heap.size + 1, 0, none⟩ (.string t)).setCell ⟨w.heap.size + 1 + 1, 0, none⟩ (.int .i64 rc)) (w.heap.size + 1 + 1) 3 (.int .i64 rc) := (g2.other (by omega) _).set _
    refine ⟨by simp, .inl ⟨_, _, rfl, run_takeDeferred hK3, ?_⟩⟩
    have f1 := cell_kept e1.cell (grownBy_putObj' _ D (.deferred none)) (fun r e => by cases e; exact ⟨_, hK3, rfl⟩)
    have f2 := cell_kept e2.cell (grownBy_putObj' _ D (.deferred none)) (fun r e => by cases e; exact ⟨_, hK3, rfl⟩)
    refine ⟨.tuple #[.agg #[.string t], .int .i64 rc], ?_, rfl, (((hB.trans (hb.mono (by omega))).setCell (p := ⟨w.heap.size + 1, 0, none⟩) (by simp; omega) _).setCell (p := ⟨w.heap.size + 1 + 1, 0, none⟩) (by simp; omega) _).trans (belowK_b (w := w) hn₀ _ D _ _ (by simp at hD; omega) hK3 rfl rfl)⟩
    simp [results, Tryz.results77, go_sem, f1, f2]
  case stop =>
    rintro D c pre W hD hpre ⟨⟨rfl, hne⟩, h1, h2, hB⟩ hK
    obtain ⟨rest, hrest⟩ := hpre
    have hw : Pl.walkP R (Pl.split s.data.toList) = Pl.walkP R (vals pre) := by rw [← hrest, Pl.walkP_append, if_neg hne]
    have hv : (Value.tuple #[.agg #[.string t], .int .i64 rc]) = .tuple #[.agg #[.string ⟨#[]⟩], .int .i64 (Pl.walkP R (vals pre)).2] := by
      rw [← HFV.out, hw]; unfold Pl.fin; rw [if_neg hne]; rfl
    have HV : Hid ((Value.tuple #[.agg #[.string t], .int .i64 rc]) = .tuple #[.agg #[.string ⟨#[]⟩], .int .i64 (Pl.walkP R (vals pre)).2]) := hv
    clear hv hw hrest hne
    gi_wp2
    refine ⟨by simp, .inl ⟨_, _, rfl, run_takeDeferred hK, ?_⟩⟩
    have f1 := cell_kept h1.cell (grownBy_putObj' _ D (.deferred none)) (fun r e => by cases e; exact ⟨_, hK, rfl⟩)
    have f2 := cell_kept h2.cell (grownBy_putObj' _ D (.deferred none)) (fun r e => by cases e; exact ⟨_, hK, rfl⟩)
    refine ⟨.tuple #[.agg #[.string ⟨#[]⟩], .int .i64 (Pl.walkP R (vals pre)).2], ?_, by rw [HV.out], hB.trans (belowK_b (w := w) hn₀ W D _ _ (by simp at hD; omega) hK rfl rfl)⟩
    simp [results, Tryz.results77, go_sem, f1, f2]

set_option maxRecDepth 100000 in
set_option maxHeartbeats 2000000 in
theorem walk_any (n₀ : Nat) (v0 : Value) (R : List (List UInt8)) (s : ByteArray) (w : World) (hrow : w.ownsRow n₀ 9 1 v0 R.length (R.map strV)) (hn₀ : n₀ ≤ w.heap.size) (hR : Pl.total R ≤ 1048576) :
    Calls Tryz.prog 77 #[v0, .string s] w fun e w' => e = .returned (formV (Pl.nm R s.data.toList)) ∧ Below n₀ w w' := by
  unfold Pl.nm
  by_cases h60 : 60 < s.data.toList.length
  · rw [if_pos h60]
    rw [← size_data] at h60
    obtain ⟨a0, cap0, rfl, hcap0, hmax0, _⟩ := row_shape hrow
    clear hrow
    go_enter Tryz.func77, Tryz.ntmps77
    go_wp2
    exact bodyPost_ret (v := formV (3, [])) (by simp [results, Tryz.results77, go_sem, formV, strV]) rfl ⟨rfl, (((Below.refl _ w).alloc hn₀ _).alloc (by simp; omega) _).alloc (by simp; omega) _⟩
  · rw [if_neg h60]
    exact walk_short n₀ v0 R s w hrow hn₀ hR (by rw [size_data]; omega)

end Go.Proofs.YtimgafblpmjajabGreat
namespace Go.Proofs.YtimgafblpmjajabGreat

open Go.RowKit

/-- What asWritten answers. -/
def writtenV (n : List UInt8) : Value := if isN n then .tuple #[.agg #[strV n], .bool true] else .tuple #[.agg #[strV []], .bool false]

set_option maxRecDepth 100000 in
set_option maxHeartbeats 2000000 in
theorem asWritten_any (s : ByteArray) (w : World) :
    Calls Tryz.prog 73 #[.string s] w fun e w' => e = .returned (writtenV s.data.toList) ∧ Below w.heap.size w w' := by
  obtain ⟨c, x, hn⟩ : ∃ c x, Pl.nm [] s.data.toList = (c, x) := ⟨_, _, rfl⟩
  have HN : Hid (Pl.nm [] s.data.toList = (c, x)) := hn
  have his : isN s.data.toList = (decide (c = 0) && decide (x = s.data.toList)) := by rw [isN, hn]
  obtain ⟨t, ht⟩ : ∃ t : ByteArray, t.data.toList = x := ⟨⟨x.toArray⟩, by simp⟩
  have htv : strV x = .string t := by rw [← ht, strV_data]
  obtain ⟨r, hr⟩ : ∃ r, r = writtenV s.data.toList := ⟨_, rfl⟩
  rw [← hr]
  have HR : Hid (r = writtenV s.data.toList) := hr
  have HIS : Hid (isN s.data.toList = (decide (c = 0) && decide (x = s.data.toList))) := his
  have HTX : Hid (t.data.toList = x) := ht
  have HTV : Hid (strV x = .string t) := htv
  clear hn his hr ht htv
  go_enter Tryz.func73, Tryz.ntmps73
  go_wp2_with fail
  refine (walk_any (w.heap.size + 1) (.slice none 0 0) [] s _ (World.ownsRow_nil _ _ _ _) (by simp) (by decide)).mono ?_
  rw [HN.out]
  unfold formV
  rw [HTV.out]
  rintro e w1 ⟨rfl, hb⟩
  have e0 : w1.cell? ⟨w.heap.size, 0, none⟩ = some (.string ⟨#[]⟩) := below_cell0 hb (by omega) (by simp [go_sem])
  have f0 : w1.frozen? ⟨w.heap.size, 0, none⟩ = false := below_frz hb (by omega) (by simp [go_sem])
  have hz : w.heap.size < w1.heap.size := by have := hb.size; simp at this; omega
  have hB : Below w.heap.size w w1 := ((Below.refl _ w).alloc (Nat.le_refl _) _).trans (hb.mono (by omega))
  clear hb
  by_cases hc : c = 0
  · subst hc
    by_cases hx : x = s.data.toList
    · obtain rfl : t = s := str_eq (HTX.out.trans hx) rfl
      have hrv : r = .tuple #[.agg #[.string t], .bool true] := by rw [HR.out, writtenV, HIS.out, if_pos (by simp [hx]), strV_data]
      subst hrv
      clear hx
      go_wp2
      exact bodyPost_ret (v := .tuple #[.agg #[.string t], .bool true]) (by simp [results, Tryz.results73, go_sem, *]) rfl ⟨rfl, (hB.setCell (p := ⟨w.heap.size, 0, none⟩) (Nat.le_refl _) _).alloc (by simp [World.setCell]; omega) _⟩
    · have hrv : r = .tuple #[.agg #[.string ⟨#[]⟩], .bool false] := by rw [HR.out, writtenV, HIS.out, if_neg (by simp [hx])]; rfl
      subst hrv
      have hne : (t.toList == s.toList) = false := by rw [str_beq HTX.out rfl]; simpa using hx
      clear hx
      go_wp2
      exact bodyPost_ret (v := .tuple #[.agg #[.string ⟨#[]⟩], .bool false]) (by simp [results, Tryz.results73, go_sem, *]) rfl ⟨rfl, (hB.setCell (p := ⟨w.heap.size, 0, none⟩) (Nat.le_refl _) _).alloc (by simp [World.setCell]; omega) _⟩
  · have hrv : r = .tuple #[.agg #[.string ⟨#[]⟩], .bool false] := by rw [HR.out, writtenV, HIS.out, if_neg (by simp [hc])]; rfl
    subst hrv
    have hcb : (c == 0) = false := by simpa using hc
    go_wp2
    exact bodyPost_ret (v := .tuple #[.agg #[.string ⟨#[]⟩], .bool false]) (by simp [results, Tryz.results73, go_sem, *]) rfl ⟨rfl, (hB.setCell (p := ⟨w.heap.size, 0, none⟩) (Nat.le_refl _) _).alloc (by simp [World.setCell]; omega) _⟩

theorem writtenV_shape (n : List UInt8) : ∃ t : ByteArray, writtenV n = .tuple #[.agg #[.string t], .bool (isN n)] := by
  unfold writtenV
  cases isN n
  · exact ⟨_, rfl⟩
  · exact ⟨_, rfl⟩

set_option maxRecDepth 100000 in
set_option maxHeartbeats 2000000 in
theorem isOddRoot_any (s : ByteArray) (w : World) :
    Calls Tryz.prog 70 #[.string s] w fun e w' => e = .returned (.bool (oddRoot s.data.toList)) ∧ Below w.heap.size w w' := by
  obtain ⟨t, hwv⟩ := writtenV_shape s.data.toList
  have HW : Hid (writtenV s.data.toList = .tuple #[.agg #[.string t], .bool (isN s.data.toList)]) := hwv
  have HO : Hid (oddRoot s.data.toList = (!s.toList.isEmpty && !isN s.data.toList)) := by
    unfold Hid oddRoot; rw [str_emp rfl]; simp
  rw [HO.out]
  obtain ⟨q, hq⟩ : ∃ q, q = isN s.data.toList := ⟨_, rfl⟩
  rw [← hq] at HW ⊢
  clear hwv hq
  go_enter Tryz.func70, Tryz.ntmps70
  go_wp2_with fail
  refine (asWritten_any s _).mono ?_
  rw [HW.out]
  rintro e w1 ⟨rfl, hb⟩
  go_wp2
  all_goals go_ret
  all_goals refine ⟨ret_bool ?_, hb.alloc hb.size _⟩
  all_goals first | rfl | (simp_all; done)

set_option maxRecDepth 100000 in
set_option maxHeartbeats 2000000 in
theorem indexFunc_any (v : Value) (L : List (List UInt8)) (w : World) (h : Strs w v L) (hL : L.length ≤ 1048576) :
    Calls Tryz.prog 87 #[v, .func (.func 70) #[] #[]] w fun e w' => ∃ i : Int, e = .returned (.int .i64 i) ∧ (decide (0 ≤ i) = L.any oddRoot) ∧ Below w.heap.size w w' := by
  obtain ⟨a, cap, rfl, hcap, hmax, hc⟩ := h
  have HC : Hid (∀ k, (hk : k < L.length) → ∃ b o, a = some ⟨b, o, none⟩ ∧ b < w.heap.size ∧ w.cell? ⟨b, o + k, none⟩ = some (strV L[k])) := hc
  clear hc hmax
  go_enter Tryz.func87, Tryz.ntmps87
  go_wp2
  go_loopw [8] (fun i wr => ∃ k : Nat, k ≤ L.length ∧ i = .int .i64 k ∧ (∀ j (hj : j < L.length), j < k → oddRoot L[j] = false) ∧ Below w.heap.size w wr) (fun i _ => L.length - (intOf i).toNat)
  case atStart => exact ⟨0, Nat.zero_le _, rfl, fun j _ h => absurd h (by omega), Below.refl _ _⟩
  case round =>
    obtain ⟨k, hk, rfl, hodd, hB⟩ := hrel
    have HODD : Hid (∀ j (hj : j < L.length), j < k → oddRoot L[j] = false) := hodd
    clear hodd
    by_cases hlt : k < L.length
    · obtain ⟨b, o, rfl, hb, h0⟩ := HC.out k hlt
      have c0 := (hB.cell (p := ⟨b, o + k, none⟩) hb).trans h0
      obtain ⟨s, hs⟩ : ∃ s : ByteArray, s.data.toList = L[k] := ⟨⟨L[k].toArray⟩, by simp⟩
      have hsv : strV L[k] = .string s := by rw [← hs, strV_data]
      rw [hsv] at c0
      clear h0 hsv
      go_wp2_with fail
      refine (isOddRoot_any s _).mono ?_
      rw [hs]
      obtain ⟨q, hq⟩ : ∃ q, q = oddRoot L[k] := ⟨_, rfl⟩
      rw [← hq]
      have HQ : Hid (q = oddRoot L[k]) := hq
      clear hq hs
      rintro e w1 ⟨rfl, hb1⟩
      have hB1 := hB.trans (hb1.mono hB.size)
      cases q with
      | true =>
        go_wp2
        go_ret
        exact ⟨k, rfl, by rw [show decide ((0 : Int) ≤ k) = true by simp]; exact (List.any_eq_true.2 ⟨_, List.getElem_mem hlt, HQ.out.symm⟩).symm, hB1⟩
      | false =>
        go_wp2
        go_roundw
        case rel => exact ⟨k + 1, by omega, by go_num, fun j hj hjk => by
          by_cases hjk' : j = k
          · subst hjk'; exact HQ.out.symm
          · exact HODD.out j hj (by omega), hB1⟩
        case measure => simp [intOf]; omega
    · have hroot : L.any oddRoot = false := by
        rw [List.any_eq_false]
        intro r hr
        obtain ⟨j, hj, rfl⟩ := List.getElem_of_mem hr
        rw [HODD.out j hj (by omega)]; decide
      have HROOT : Hid (L.any oddRoot = false) := hroot
      clear hroot
      go_wp2
      go_ret
      exact ⟨-1, rfl, by rw [HROOT.out]; decide, hB⟩

set_option maxRecDepth 100000 in
set_option maxHeartbeats 2000000 in
theorem containsFunc_any (v : Value) (L : List (List UInt8)) (w : World) (h : Strs w v L) (hL : L.length ≤ 1048576) :
    Calls Tryz.prog 69 #[v, .func (.func 70) #[] #[]] w fun e w' => e = .returned (.bool (L.any oddRoot)) ∧ Below w.heap.size w w' := by
  obtain ⟨a, cap, hv⟩ := h.slice
  subst hv
  go_enter Tryz.func69, Tryz.ntmps69
  go_wp2_with fail
  refine (indexFunc_any _ L w h hL).mono ?_
  rintro e w1 ⟨i, rfl, hi, hb⟩
  have HI : Hid (decide (0 ≤ i) = L.any oddRoot) := hi
  clear hi
  go_wp2
  all_goals go_ret
  all_goals exact ⟨ret_bool HI.out, hb⟩

set_option maxRecDepth 100000 in
set_option maxHeartbeats 2000000 in
theorem areReadings_any (v : Value) (L : List Int) (w : World) (h : Nums w v L) (hL : L.length ≤ 1048576) :
    Calls Tryz.prog 71 #[v] w fun e w' => e = .returned (.bool (asc (-1) L)) ∧ w' = w := by
  obtain ⟨a, cap, rfl, hcap, hmax, hc⟩ := h
  have HC : Hid (∀ k, (hk : k < L.length) → ∃ b o, a = some ⟨b, o, none⟩ ∧ b < w.heap.size ∧ w.cell? ⟨b, o + k, none⟩ = some (.int .i64 L[k])) := hc
  clear hc hmax
  go_enter Tryz.func71, Tryz.ntmps71
  go_wp2
  go_loop [3, 8] (fun l i => ∃ (k : Nat) (lst : Int), k ≤ L.length ∧ i = .int .i64 k ∧ l = .int .i64 (lst + 1) ∧ lst = (L.take k).getLastD (-1) ∧ asc (-1) (L.take k) = true ∧ -1 ≤ lst ∧ lst < 400) (fun _ i => L.length - (intOf i).toNat)
  case atStart => exact ⟨0, -1, Nat.zero_le _, rfl, rfl, rfl, rfl, by decide, by decide⟩
  case round =>
    obtain ⟨k, lst, hk, rfl, rfl, hlst, hasc, hlo, hhi⟩ := hrel
    by_cases hlt : k < L.length
    · obtain ⟨b, o, rfl, hb, c0⟩ := HC.out k hlt
      have hstep := asc_take L k hlt hasc
      rw [← hlst] at hstep
      have hlast := take_snoc_last L k hlt (-1)
      obtain ⟨f, hf⟩ : ∃ f, f = L[k] := ⟨_, rfl⟩
      rw [← hf] at c0 hstep hlast
      clear hf hlst hasc
      by_cases hx1 : f ≤ lst
      · have hA : asc (-1) L = false := asc_of_take _ (k + 1) (by rw [hstep, if_pos (.inl hx1)])
        have HA : Hid (asc (-1) L = false) := hA
        clear hA hstep hlast
        go_wp2
        go_ret
        exact ⟨ret_bool HA.out.symm, rfl⟩
      · by_cases hx2 : 400 ≤ f
        · have hA : asc (-1) L = false := asc_of_take _ (k + 1) (by rw [hstep, if_pos (.inr hx2)])
          have HA : Hid (asc (-1) L = false) := hA
          clear hA hstep hlast
          go_wp2
          go_ret
          exact ⟨ret_bool HA.out.symm, rfl⟩
        · rw [if_neg (by omega)] at hstep
          have HST : Hid (asc (-1) (L.take (k + 1)) = true ∧ (L.take (k + 1)).getLastD (-1) = f) := ⟨hstep, hlast⟩
          clear hstep hlast
          go_wp2
          go_round
          case rel => exact ⟨k + 1, f, by omega, by go_num, by go_num, HST.out.2.symm, HST.out.1, by omega, by omega⟩
          case measure => simp [intOf]; omega
    · have hA : asc (-1) L = true := by rwa [List.take_of_length_le (by omega)] at hasc
      have HA : Hid (asc (-1) L = true) := hA
      clear hA hasc hlst
      go_wp2
      go_ret
      exact ⟨ret_bool HA.out.symm, rfl⟩

set_option maxRecDepth 100000 in
set_option maxHeartbeats 2000000 in
theorem hasTooMany_any (a1 a2 a3 : Option Addr) (n1 n2 n3 k1 k2 k3 : Nat) (w : World) (h1 : n1 ≤ 1048576) (h2 : n2 ≤ 1048576) (h3 : n3 ≤ 1048576) :
    Calls Tryz.prog 68 #[.agg #[.slice a1 n1 k1, .slice a2 n2 k2, .slice a3 n3 k3]] w fun e w' => e = .returned (.bool (decide (60 < n2 ∨ 8 < n1 ∨ 400 < n3))) ∧ Below w.heap.size w w' := by
  go_enter Tryz.func68, Tryz.ntmps68
  go_wp2
  all_goals go_ret
  all_goals refine ⟨ret_bool ?_, (Below.refl _ _).alloc (Nat.le_refl _) _⟩
  all_goals (rw [Bool.eq_iff_iff]; simp_all <;> omega)

end Go.Proofs.YtimgafblpmjajabGreat
namespace Go.Proofs.YtimgafblpmjajabGreat

open Go.RowKit

/-- A line as a step. -/
def stepV (op : Int) (s : ByteArray) (num skip : Int) : Value :=
  if op = 1 then .iface 133 (.agg #[.int .i64 num]) else if op = 2 then .iface 134 (.agg #[.int .i64 num])
  else if op = 3 then .iface 130 (.agg #[.string s]) else if op = 4 then .iface 131 (.agg #[.string s]) else if op = 5 then .iface 135 (.agg #[.string s])
  else if op = 6 then .iface 136 (.agg #[.int .i64 num]) else if op = 7 then .iface 138 (.agg #[.string s, .int .i64 skip]) else .nilIface

set_option maxRecDepth 100000 in
set_option maxHeartbeats 4000000 in
theorem stepOf_any (op num skip : Int) (s : ByteArray) (w : World) :
    Calls Tryz.prog 53 #[.agg #[.int .i64 op, .string s, .int .i64 num, .int .i64 skip]] w fun e w' => e = .returned (stepV op s num skip) ∧ Below w.heap.size w w' := by
  unfold stepV
  by_cases h1 : op = 1
  · subst h1
    rw [if_pos rfl]
    go_enter Tryz.func53, Tryz.ntmps53
    go_wp2
    go_ret
    exact ⟨rfl, (Below.refl _ _).alloc (Nat.le_refl _) _⟩
  rw [if_neg h1]
  by_cases h2 : op = 2
  · subst h2
    rw [if_pos rfl]
    go_enter Tryz.func53, Tryz.ntmps53
    go_wp2
    go_ret
    exact ⟨rfl, (Below.refl _ _).alloc (Nat.le_refl _) _⟩
  rw [if_neg h2]
  by_cases h3 : op = 3
  · subst h3
    rw [if_pos rfl]
    go_enter Tryz.func53, Tryz.ntmps53
    go_wp2
    go_ret
    exact ⟨rfl, (Below.refl _ _).alloc (Nat.le_refl _) _⟩
  rw [if_neg h3]
  by_cases h4 : op = 4
  · subst h4
    rw [if_pos rfl]
    go_enter Tryz.func53, Tryz.ntmps53
    go_wp2
    go_ret
    exact ⟨rfl, (Below.refl _ _).alloc (Nat.le_refl _) _⟩
  rw [if_neg h4]
  by_cases h5 : op = 5
  · subst h5
    rw [if_pos rfl]
    go_enter Tryz.func53, Tryz.ntmps53
    go_wp2
    go_ret
    exact ⟨rfl, (Below.refl _ _).alloc (Nat.le_refl _) _⟩
  rw [if_neg h5]
  by_cases h6 : op = 6
  · subst h6
    rw [if_pos rfl]
    go_enter Tryz.func53, Tryz.ntmps53
    go_wp2
    go_ret
    exact ⟨rfl, (Below.refl _ _).alloc (Nat.le_refl _) _⟩
  rw [if_neg h6]
  by_cases h7 : op = 7
  · subst h7
    rw [if_pos rfl]
    go_enter Tryz.func53, Tryz.ntmps53
    go_wp2
    go_ret
    exact ⟨rfl, (Below.refl _ _).alloc (Nat.le_refl _) _⟩
  rw [if_neg h7]
  have n1 : (op == 1) = false := by simpa using h1
  have n2 : (op == 2) = false := by simpa using h2
  have n3 : (op == 3) = false := by simpa using h3
  have n4 : (op == 4) = false := by simpa using h4
  have n5 : (op == 5) = false := by simpa using h5
  have n6 : (op == 6) = false := by simpa using h6
  have n7 : (op == 7) = false := by simpa using h7
  go_enter Tryz.func53, Tryz.ntmps53
  go_wp2
  go_ret
  exact ⟨rfl, (Below.refl _ _).alloc (Nat.le_refl _) _⟩

set_option maxRecDepth 100000 in
set_option maxHeartbeats 4000000 in
theorem isShort_any (s : ByteArray) (w : World) (hs : s.size ≤ 1048576) :
    Calls Tryz.prog 100 #[.string s] w fun e w' => e = .returned (.bool (decide (s.size ≤ 120))) ∧ w' = w := by
  go_enter Tryz.func100, Tryz.ntmps100
  go_wp2
  go_ret
  exact ⟨ret_bool (by rw [Bool.eq_iff_iff]; simp; omega), rfl⟩

/-- Whether a step keeps within its limits. -/
def fitB (op : Int) (s : ByteArray) (skip b : Int) : Bool :=
  if op = 1 ∨ op = 2 ∨ op = 6 then true
  else if op = 3 ∨ op = 4 ∨ op = 5 then decide (s.size ≤ 120)
  else if op = 7 then decide (s.size ≤ 120) && (decide (0 ≤ skip) && decide (skip ≤ b)) else false

theorem as115_115 (v : Value) (W : World) : (Instr.typeAssert (.iface 133 v) 98 133 true).run Tryz.prog W = .ok (.tuple #[v, .bool true]) W := by kernel_rfl
theorem as115_116 (v : Value) (W : World) : (Instr.typeAssert (.iface 133 v) 98 134 true).run Tryz.prog W = .ok (.tuple #[.agg #[.int .i64 0], .bool false]) W := by kernel_rfl
theorem as115_121 (v : Value) (W : World) : (Instr.typeAssert (.iface 133 v) 98 136 true).run Tryz.prog W = .ok (.tuple #[.agg #[.int .i64 0], .bool false]) W := by kernel_rfl
theorem as116_115 (v : Value) (W : World) : (Instr.typeAssert (.iface 134 v) 98 133 true).run Tryz.prog W = .ok (.tuple #[.agg #[.int .i64 0], .bool false]) W := by kernel_rfl
theorem as116_116 (v : Value) (W : World) : (Instr.typeAssert (.iface 134 v) 98 134 true).run Tryz.prog W = .ok (.tuple #[v, .bool true]) W := by kernel_rfl
theorem as116_121 (v : Value) (W : World) : (Instr.typeAssert (.iface 134 v) 98 136 true).run Tryz.prog W = .ok (.tuple #[.agg #[.int .i64 0], .bool false]) W := by kernel_rfl
theorem as121_115 (v : Value) (W : World) : (Instr.typeAssert (.iface 136 v) 98 133 true).run Tryz.prog W = .ok (.tuple #[.agg #[.int .i64 0], .bool false]) W := by kernel_rfl
theorem as121_116 (v : Value) (W : World) : (Instr.typeAssert (.iface 136 v) 98 134 true).run Tryz.prog W = .ok (.tuple #[.agg #[.int .i64 0], .bool false]) W := by kernel_rfl
theorem as121_121 (v : Value) (W : World) : (Instr.typeAssert (.iface 136 v) 98 136 true).run Tryz.prog W = .ok (.tuple #[v, .bool true]) W := by kernel_rfl
theorem as118_115 (v : Value) (W : World) : (Instr.typeAssert (.iface 130 v) 98 133 true).run Tryz.prog W = .ok (.tuple #[.agg #[.int .i64 0], .bool false]) W := by kernel_rfl
theorem as118_116 (v : Value) (W : World) : (Instr.typeAssert (.iface 130 v) 98 134 true).run Tryz.prog W = .ok (.tuple #[.agg #[.int .i64 0], .bool false]) W := by kernel_rfl
theorem as118_121 (v : Value) (W : World) : (Instr.typeAssert (.iface 130 v) 98 136 true).run Tryz.prog W = .ok (.tuple #[.agg #[.int .i64 0], .bool false]) W := by kernel_rfl
theorem as118_118 (v : Value) (W : World) : (Instr.typeAssert (.iface 130 v) 98 130 true).run Tryz.prog W = .ok (.tuple #[v, .bool true]) W := by kernel_rfl
theorem as119_115 (v : Value) (W : World) : (Instr.typeAssert (.iface 131 v) 98 133 true).run Tryz.prog W = .ok (.tuple #[.agg #[.int .i64 0], .bool false]) W := by kernel_rfl
theorem as119_116 (v : Value) (W : World) : (Instr.typeAssert (.iface 131 v) 98 134 true).run Tryz.prog W = .ok (.tuple #[.agg #[.int .i64 0], .bool false]) W := by kernel_rfl
theorem as119_121 (v : Value) (W : World) : (Instr.typeAssert (.iface 131 v) 98 136 true).run Tryz.prog W = .ok (.tuple #[.agg #[.int .i64 0], .bool false]) W := by kernel_rfl
theorem as119_118 (v : Value) (W : World) : (Instr.typeAssert (.iface 131 v) 98 130 true).run Tryz.prog W = .ok (.tuple #[.agg #[.string ⟨#[]⟩], .bool false]) W := by kernel_rfl
theorem as119_119 (v : Value) (W : World) : (Instr.typeAssert (.iface 131 v) 98 131 true).run Tryz.prog W = .ok (.tuple #[v, .bool true]) W := by kernel_rfl
theorem as120_115 (v : Value) (W : World) : (Instr.typeAssert (.iface 135 v) 98 133 true).run Tryz.prog W = .ok (.tuple #[.agg #[.int .i64 0], .bool false]) W := by kernel_rfl
theorem as120_116 (v : Value) (W : World) : (Instr.typeAssert (.iface 135 v) 98 134 true).run Tryz.prog W = .ok (.tuple #[.agg #[.int .i64 0], .bool false]) W := by kernel_rfl
theorem as120_121 (v : Value) (W : World) : (Instr.typeAssert (.iface 135 v) 98 136 true).run Tryz.prog W = .ok (.tuple #[.agg #[.int .i64 0], .bool false]) W := by kernel_rfl
theorem as120_118 (v : Value) (W : World) : (Instr.typeAssert (.iface 135 v) 98 130 true).run Tryz.prog W = .ok (.tuple #[.agg #[.string ⟨#[]⟩], .bool false]) W := by kernel_rfl
theorem as120_119 (v : Value) (W : World) : (Instr.typeAssert (.iface 135 v) 98 131 true).run Tryz.prog W = .ok (.tuple #[.agg #[.string ⟨#[]⟩], .bool false]) W := by kernel_rfl
theorem as120_120 (v : Value) (W : World) : (Instr.typeAssert (.iface 135 v) 98 135 true).run Tryz.prog W = .ok (.tuple #[v, .bool true]) W := by kernel_rfl
theorem as123_115 (v : Value) (W : World) : (Instr.typeAssert (.iface 138 v) 98 133 true).run Tryz.prog W = .ok (.tuple #[.agg #[.int .i64 0], .bool false]) W := by kernel_rfl
theorem as123_116 (v : Value) (W : World) : (Instr.typeAssert (.iface 138 v) 98 134 true).run Tryz.prog W = .ok (.tuple #[.agg #[.int .i64 0], .bool false]) W := by kernel_rfl
theorem as123_121 (v : Value) (W : World) : (Instr.typeAssert (.iface 138 v) 98 136 true).run Tryz.prog W = .ok (.tuple #[.agg #[.int .i64 0], .bool false]) W := by kernel_rfl
theorem as123_118 (v : Value) (W : World) : (Instr.typeAssert (.iface 138 v) 98 130 true).run Tryz.prog W = .ok (.tuple #[.agg #[.string ⟨#[]⟩], .bool false]) W := by kernel_rfl
theorem as123_119 (v : Value) (W : World) : (Instr.typeAssert (.iface 138 v) 98 131 true).run Tryz.prog W = .ok (.tuple #[.agg #[.string ⟨#[]⟩], .bool false]) W := by kernel_rfl
theorem as123_120 (v : Value) (W : World) : (Instr.typeAssert (.iface 138 v) 98 135 true).run Tryz.prog W = .ok (.tuple #[.agg #[.string ⟨#[]⟩], .bool false]) W := by kernel_rfl
theorem as123_123 (v : Value) (W : World) : (Instr.typeAssert (.iface 138 v) 98 138 true).run Tryz.prog W = .ok (.tuple #[v, .bool true]) W := by kernel_rfl
theorem as0_115 (W : World) : (Instr.typeAssert .nilIface 98 133 true).run Tryz.prog W = .ok (.tuple #[.agg #[.int .i64 0], .bool false]) W := by kernel_rfl
theorem as0_116 (W : World) : (Instr.typeAssert .nilIface 98 134 true).run Tryz.prog W = .ok (.tuple #[.agg #[.int .i64 0], .bool false]) W := by kernel_rfl
theorem as0_121 (W : World) : (Instr.typeAssert .nilIface 98 136 true).run Tryz.prog W = .ok (.tuple #[.agg #[.int .i64 0], .bool false]) W := by kernel_rfl
theorem as0_118 (W : World) : (Instr.typeAssert .nilIface 98 130 true).run Tryz.prog W = .ok (.tuple #[.agg #[.string ⟨#[]⟩], .bool false]) W := by kernel_rfl
theorem as0_119 (W : World) : (Instr.typeAssert .nilIface 98 131 true).run Tryz.prog W = .ok (.tuple #[.agg #[.string ⟨#[]⟩], .bool false]) W := by kernel_rfl
theorem as0_120 (W : World) : (Instr.typeAssert .nilIface 98 135 true).run Tryz.prog W = .ok (.tuple #[.agg #[.string ⟨#[]⟩], .bool false]) W := by kernel_rfl
theorem as0_123 (W : World) : (Instr.typeAssert .nilIface 98 138 true).run Tryz.prog W = .ok (.tuple #[.agg #[.string ⟨#[]⟩, .int .i64 0], .bool false]) W := by kernel_rfl

set_option maxRecDepth 100000 in
set_option maxHeartbeats 4000000 in
theorem fits_any (op num skip b : Int) (s : ByteArray) (w : World) (hs : s.size ≤ 1048576) :
    Calls Tryz.prog 88 #[stepV op s num skip, .int .i64 b] w fun e w' => e = .returned (.bool (fitB op s skip b)) ∧ Below w.heap.size w w' := by
  have HSH : Hid (∀ W, Calls Tryz.prog 100 #[.string s] W fun e w' => e = .returned (.bool (decide (s.size ≤ 120))) ∧ w' = W) := fun W => isShort_any s W hs
  obtain ⟨r, hr⟩ : ∃ r, r = fitB op s skip b := ⟨_, rfl⟩
  rw [← hr]
  clear hs
  by_cases h1 : op = 1
  · subst h1
    have hrt : r = true := hr
    subst hrt
    simp (config := { decide := true }) only [stepV, if_true, if_false]
    clear hr
    have t115 := as115_115
    have t116 := as115_116
    have t121 := as115_121
    go_enter Tryz.func88, Tryz.ntmps88
    go_wp2
    go_ret
    exact ⟨rfl, Below.refl _ _⟩
  by_cases h2 : op = 2
  · subst h2
    have hrt : r = true := hr
    subst hrt
    simp (config := { decide := true }) only [stepV, if_true, if_false]
    clear hr
    have t115 := as116_115
    have t116 := as116_116
    have t121 := as116_121
    go_enter Tryz.func88, Tryz.ntmps88
    go_wp2
    go_ret
    exact ⟨rfl, Below.refl _ _⟩
  by_cases h6 : op = 6
  · subst h6
    have hrt : r = true := hr
    subst hrt
    simp (config := { decide := true }) only [stepV, if_true, if_false]
    clear hr
    have t115 := as121_115
    have t116 := as121_116
    have t121 := as121_121
    go_enter Tryz.func88, Tryz.ntmps88
    go_wp2
    go_ret
    exact ⟨rfl, Below.refl _ _⟩
  by_cases h3 : op = 3
  · subst h3
    have HR : Hid (r = decide (s.size ≤ 120)) := hr
    simp (config := { decide := true }) only [stepV, if_true, if_false]
    clear hr
    have t115 := as118_115
    have t116 := as118_116
    have t121 := as118_121
    have t118 := as118_118
    go_enter Tryz.func88, Tryz.ntmps88
    go_wp2_with (go_at_call 100; refine (HSH.out _).mono ?_; rintro e w1 ⟨rfl, rfl⟩)
    all_goals go_ret
    all_goals exact ⟨ret_bool HR.out.symm, (Below.refl _ _).alloc (Nat.le_refl _) _⟩
  by_cases h4 : op = 4
  · subst h4
    have HR : Hid (r = decide (s.size ≤ 120)) := hr
    simp (config := { decide := true }) only [stepV, if_true, if_false]
    clear hr
    have t115 := as119_115
    have t116 := as119_116
    have t121 := as119_121
    have t118 := as119_118
    have t119 := as119_119
    go_enter Tryz.func88, Tryz.ntmps88
    go_wp2_with (go_at_call 100; refine (HSH.out _).mono ?_; rintro e w1 ⟨rfl, rfl⟩)
    all_goals go_ret
    all_goals exact ⟨ret_bool HR.out.symm, (Below.refl _ _).alloc (Nat.le_refl _) _⟩
  by_cases h5 : op = 5
  · subst h5
    have HR : Hid (r = decide (s.size ≤ 120)) := hr
    simp (config := { decide := true }) only [stepV, if_true, if_false]
    clear hr
    have t115 := as120_115
    have t116 := as120_116
    have t121 := as120_121
    have t118 := as120_118
    have t119 := as120_119
    have t120 := as120_120
    go_enter Tryz.func88, Tryz.ntmps88
    go_wp2_with (go_at_call 100; refine (HSH.out _).mono ?_; rintro e w1 ⟨rfl, rfl⟩)
    all_goals go_ret
    all_goals exact ⟨ret_bool HR.out.symm, (Below.refl _ _).alloc (Nat.le_refl _) _⟩
  by_cases h7 : op = 7
  · subst h7
    have HR : Hid (r = (decide (s.size ≤ 120) && (decide (0 ≤ skip) && decide (skip ≤ b)))) := hr
    simp (config := { decide := true }) only [stepV, if_true, if_false]
    clear hr
    have t115 := as123_115
    have t116 := as123_116
    have t121 := as123_121
    have t118 := as123_118
    have t119 := as123_119
    have t120 := as123_120
    have t123 := as123_123
    go_enter Tryz.func88, Tryz.ntmps88
    go_wp2_with (go_at_call 100; refine (HSH.out _).mono ?_; rintro e w1 ⟨rfl, rfl⟩)
    all_goals go_ret
    all_goals refine ⟨ret_bool ?_, (Below.refl _ _).alloc (Nat.le_refl _) _⟩
    all_goals rw [HR.out]
    all_goals (simp_all)
    all_goals (intros; omega)
  have hrf : r = false := by rw [hr, fitB, if_neg (by omega), if_neg (by omega), if_neg (by omega)]
  subst hrf
  rw [stepV, if_neg h1, if_neg h2, if_neg h3, if_neg h4, if_neg h5, if_neg h6, if_neg h7]
  clear hr
  have t115 := as0_115
  have t116 := as0_116
  have t121 := as0_121
  have t118 := as0_118
  have t119 := as0_119
  have t120 := as0_120
  have t123 := as0_123
  go_enter Tryz.func88, Tryz.ntmps88
  go_wp2
  go_ret
  exact ⟨rfl, Below.refl _ _⟩

set_option maxRecDepth 100000 in
set_option maxHeartbeats 4000000 in
theorem line116_any (num : Int) (w : World) :
    Calls Tryz.prog 140 #[.agg #[.int .i64 num]] w fun e w' => e = .returned (.agg #[.int .i64 1, .string ⟨#[]⟩, .int .i64 num, .int .i64 0]) ∧ Below w.heap.size w w' := by
  go_enter Tryz.func140, Tryz.ntmps140
  go_wp2
  exact bodyPost_ret (v := .agg #[.int .i64 1, .string ⟨#[]⟩, .int .i64 num, .int .i64 0]) (by simp [results, Tryz.results140, go_sem]) rfl ⟨rfl, below_alloc2 _ _⟩

set_option maxRecDepth 100000 in
set_option maxHeartbeats 4000000 in
theorem line117_any (num : Int) (w : World) :
    Calls Tryz.prog 141 #[.agg #[.int .i64 num]] w fun e w' => e = .returned (.agg #[.int .i64 2, .string ⟨#[]⟩, .int .i64 num, .int .i64 0]) ∧ Below w.heap.size w w' := by
  go_enter Tryz.func141, Tryz.ntmps141
  go_wp2
  exact bodyPost_ret (v := .agg #[.int .i64 2, .string ⟨#[]⟩, .int .i64 num, .int .i64 0]) (by simp [results, Tryz.results141, go_sem]) rfl ⟨rfl, below_alloc2 _ _⟩

set_option maxRecDepth 100000 in
set_option maxHeartbeats 4000000 in
theorem line121_any (num : Int) (w : World) :
    Calls Tryz.prog 143 #[.agg #[.int .i64 num]] w fun e w' => e = .returned (.agg #[.int .i64 6, .string ⟨#[]⟩, .int .i64 num, .int .i64 0]) ∧ Below w.heap.size w w' := by
  go_enter Tryz.func143, Tryz.ntmps143
  go_wp2
  exact bodyPost_ret (v := .agg #[.int .i64 6, .string ⟨#[]⟩, .int .i64 num, .int .i64 0]) (by simp [results, Tryz.results143, go_sem]) rfl ⟨rfl, below_alloc2 _ _⟩

set_option maxRecDepth 100000 in
set_option maxHeartbeats 4000000 in
theorem line118_any (s : ByteArray) (w : World) :
    Calls Tryz.prog 138 #[.agg #[.string s]] w fun e w' => e = .returned (.agg #[.int .i64 3, .string s, .int .i64 0, .int .i64 0]) ∧ Below w.heap.size w w' := by
  go_enter Tryz.func138, Tryz.ntmps138
  go_wp2
  exact bodyPost_ret (v := .agg #[.int .i64 3, .string s, .int .i64 0, .int .i64 0]) (by simp [results, Tryz.results138, go_sem]) rfl ⟨rfl, below_alloc2 _ _⟩

set_option maxRecDepth 100000 in
set_option maxHeartbeats 4000000 in
theorem line119_any (s : ByteArray) (w : World) :
    Calls Tryz.prog 139 #[.agg #[.string s]] w fun e w' => e = .returned (.agg #[.int .i64 4, .string s, .int .i64 0, .int .i64 0]) ∧ Below w.heap.size w w' := by
  go_enter Tryz.func139, Tryz.ntmps139
  go_wp2
  exact bodyPost_ret (v := .agg #[.int .i64 4, .string s, .int .i64 0, .int .i64 0]) (by simp [results, Tryz.results139, go_sem]) rfl ⟨rfl, below_alloc2 _ _⟩

set_option maxRecDepth 100000 in
set_option maxHeartbeats 4000000 in
theorem line120_any (s : ByteArray) (w : World) :
    Calls Tryz.prog 142 #[.agg #[.string s]] w fun e w' => e = .returned (.agg #[.int .i64 5, .string s, .int .i64 0, .int .i64 0]) ∧ Below w.heap.size w w' := by
  go_enter Tryz.func142, Tryz.ntmps142
  go_wp2
  exact bodyPost_ret (v := .agg #[.int .i64 5, .string s, .int .i64 0, .int .i64 0]) (by simp [results, Tryz.results142, go_sem]) rfl ⟨rfl, below_alloc2 _ _⟩

set_option maxRecDepth 100000 in
set_option maxHeartbeats 4000000 in
theorem line122_any (s : ByteArray) (skip : Int) (w : World) :
    Calls Tryz.prog 144 #[.agg #[.string s, .int .i64 skip]] w fun e w' => e = .returned (.agg #[.int .i64 7, .string s, .int .i64 0, .int .i64 skip]) ∧ Below w.heap.size w w' := by
  go_enter Tryz.func144, Tryz.ntmps144
  go_wp2
  exact bodyPost_ret (v := .agg #[.int .i64 7, .string s, .int .i64 0, .int .i64 skip]) (by simp [results, Tryz.results144, go_sem]) rfl ⟨rfl, below_alloc2 _ _⟩

end Go.Proofs.YtimgafblpmjajabGreat
namespace Go.Proofs.YtimgafblpmjajabGreat

open Go.RowKit

theorem keep4 {B n : Nat} {W W' : World} {u0 u1 u2 u3 : Value} (hb : Below B W W') (hz : n < B) (m0 : W.cell? ⟨n, 0, none⟩ = some u0) (m1 : W.cell? ⟨n, 1, none⟩ = some u1) (m2 : W.cell? ⟨n, 2, none⟩ = some u2) (m3 : W.cell? ⟨n, 3, none⟩ = some u3) :
    W'.cell? ⟨n, 0, none⟩ = some u0 ∧ W'.cell? ⟨n, 1, none⟩ = some u1 ∧ W'.cell? ⟨n, 2, none⟩ = some u2 ∧ W'.cell? ⟨n, 3, none⟩ = some u3 ∧ W.heap.size ≤ W'.heap.size :=
  ⟨below_cell0 hb hz m0, below_cell0 hb hz m1, below_cell0 hb hz m2, below_cell0 hb hz m3, hb.size⟩

set_option maxRecDepth 100000 in
theorem step_ex (op num skip : Int) (s : ByteArray) (name : List UInt8) (hs : s.data.toList = name) (hop : 1 ≤ op ∧ op ≤ 7) :
    ∃ (T : TypeId) (P : Value) (fid : FuncId) (sA : ByteArray) (nA kA : Int), stepV op s num skip = .iface T P ∧ (∀ W : World, (method 315 T P "loop.example/bobbin/impl.line").run Tryz.prog W = .ok (fid, P) W) ∧ (∀ W : World, (callFunc fid #[P]).run Tryz.prog W = .ok (.enter fid #[P]) W) ∧
      (∀ W : World, Calls Tryz.prog fid #[P] W fun e w' => e = .returned (.agg #[.int .i64 op, .string sA, .int .i64 nA, .int .i64 kA]) ∧ Below W.heap.size W w') ∧
      ∀ (N k : Nat), okLn N k ⟨op, name, num, skip⟩ = (fitB op s skip ((N : Int) - k - 1) && ((sA.toList == s.toList) && ((nA == num) && (kA == skip)))) := by
  by_cases h1 : op = 1
  · subst h1
    refine ⟨133, .agg #[.int .i64 num], 140, ⟨#[]⟩, num, 0, rfl, fun _ => by kernel_rfl, fun _ => by kernel_rfl, line116_any num, fun N k => ?_⟩
    simp (config := { decide := true }) only [okLn, fitB, if_true, if_false]
    rw [str_beq (s := ⟨#[]⟩) (a := []) rfl hs]
    rw [Bool.eq_iff_iff]; simp; try omega
  by_cases h2 : op = 2
  · subst h2
    refine ⟨134, .agg #[.int .i64 num], 141, ⟨#[]⟩, num, 0, rfl, fun _ => by kernel_rfl, fun _ => by kernel_rfl, line117_any num, fun N k => ?_⟩
    simp (config := { decide := true }) only [okLn, fitB, if_true, if_false]
    rw [str_beq (s := ⟨#[]⟩) (a := []) rfl hs]
    rw [Bool.eq_iff_iff]; simp; try omega
  by_cases h3 : op = 3
  · subst h3
    refine ⟨130, .agg #[.string s], 138, s, 0, 0, rfl, fun _ => by kernel_rfl, fun _ => by kernel_rfl, line118_any s, fun N k => ?_⟩
    simp (config := { decide := true }) only [okLn, fitB, if_true, if_false]
    rw [size_data, hs]
    rw [Bool.eq_iff_iff]; simp; try omega
  by_cases h4 : op = 4
  · subst h4
    refine ⟨131, .agg #[.string s], 139, s, 0, 0, rfl, fun _ => by kernel_rfl, fun _ => by kernel_rfl, line119_any s, fun N k => ?_⟩
    simp (config := { decide := true }) only [okLn, fitB, if_true, if_false]
    rw [size_data, hs]
    rw [Bool.eq_iff_iff]; simp; try omega
  by_cases h5 : op = 5
  · subst h5
    refine ⟨135, .agg #[.string s], 142, s, 0, 0, rfl, fun _ => by kernel_rfl, fun _ => by kernel_rfl, line120_any s, fun N k => ?_⟩
    simp (config := { decide := true }) only [okLn, fitB, if_true, if_false]
    rw [size_data, hs]
    rw [Bool.eq_iff_iff]; simp; try omega
  by_cases h6 : op = 6
  · subst h6
    refine ⟨136, .agg #[.int .i64 num], 143, ⟨#[]⟩, num, 0, rfl, fun _ => by kernel_rfl, fun _ => by kernel_rfl, line121_any num, fun N k => ?_⟩
    simp (config := { decide := true }) only [okLn, fitB, if_true, if_false]
    rw [str_beq (s := ⟨#[]⟩) (a := []) rfl hs]
    rw [Bool.eq_iff_iff]; simp; try omega
  by_cases h7 : op = 7
  · subst h7
    refine ⟨138, .agg #[.string s, .int .i64 skip], 144, s, 0, skip, rfl, fun _ => by kernel_rfl, fun _ => by kernel_rfl, line122_any s skip, fun N k => ?_⟩
    simp (config := { decide := true }) only [okLn, fitB, if_true, if_false]
    rw [size_data, hs]
    rw [Bool.eq_iff_iff]; simp; try omega
  omega
theorem step_no (op num skip : Int) (s : ByteArray) (name : List UInt8) (N k : Nat) (b : Int) (hop : ¬ (1 ≤ op ∧ op ≤ 7)) : okLn N k ⟨op, name, num, skip⟩ = false ∧ fitB op s skip b = false := by
  constructor
  · rw [okLn, if_neg (by simp only []; omega), if_neg (by simp only []; omega), if_neg (by simp only []; omega)]
  · rw [fitB, if_neg (by omega), if_neg (by omega), if_neg (by omega)]

set_option maxRecDepth 100000 in
set_option maxHeartbeats 8000000 in
theorem firstOddLine_any (v : Value) (L : List Ln) (w : World) (h : Lns w v L) (hL : L.length ≤ 1048576) (hLL : ∀ l ∈ L, l.name.length ≤ 1048576) :
    Calls Tryz.prog 72 #[v] w fun e w' => e = .returned (.int .i64 (firstN (badLn L) L.length 0 : Nat)) ∧ Below w.heap.size w w' := by
  obtain ⟨a, cap, rfl, hcap, hmax, hc⟩ := h
  have HC : Hid (∀ k, (hk : k < L.length) → ∃ b o, a = some ⟨b, o, none⟩ ∧ b < w.heap.size ∧
    w.cell? ⟨b, o + k * 4, none⟩ = some (.int .i64 L[k].op) ∧ w.cell? ⟨b, o + k * 4 + 1, none⟩ = some (strV L[k].name) ∧ w.cell? ⟨b, o + k * 4 + 2, none⟩ = some (.int .i64 L[k].num) ∧ w.cell? ⟨b, o + k * 4 + 3, none⟩ = some (.int .i64 L[k].skip)) := hc
  have HLL : Hid (∀ l ∈ L, l.name.length ≤ 1048576) := hLL
  clear hc hmax hLL
  go_enter Tryz.func72, Tryz.ntmps72
  go_wp2
  go_loopw [9] (fun i wr => ∃ k : Nat, k ≤ L.length ∧ i = .int .i64 k ∧ (∀ j, j < k → badLn L j = false) ∧ Below w.heap.size w wr) (fun i _ => L.length - (intOf i).toNat)
  case atStart => exact ⟨0, Nat.zero_le _, rfl, fun j h => absurd h (by omega), Below.refl _ _⟩
  case round =>
    obtain ⟨k, hk, rfl, hbad, hB⟩ := hrel
    have HBAD : Hid (∀ j, j < k → badLn L j = false) := hbad
    clear hbad
    by_cases hlt : k < L.length
    · obtain ⟨b, o, rfl, hb, h0, h1, h2, h3⟩ := HC.out k hlt
      have c0 := (hB.cell (p := ⟨b, o + k * 4, none⟩) hb).trans h0
      have c1 := (hB.cell (p := ⟨b, o + k * 4 + 1, none⟩) hb).trans h1
      have c2 := (hB.cell (p := ⟨b, o + k * 4 + 2, none⟩) hb).trans h2
      have c3 := (hB.cell (p := ⟨b, o + k * 4 + 3, none⟩) hb).trans h3
      have hsz := HLL.out _ (List.getElem_mem hlt)
      have hbl := badLn_at hlt
      obtain ⟨l, hl⟩ : ∃ l, l = L[k] := ⟨_, rfl⟩
      rw [← hl] at c0 c1 c2 c3 hsz hbl
      obtain ⟨op, name, num, skip⟩ := l
      simp only [] at c0 c1 c2 c3 hsz
      obtain ⟨s, hs⟩ : ∃ s : ByteArray, s.data.toList = name := ⟨⟨name.toArray⟩, by simp⟩
      have hsv : strV name = .string s := by rw [← hs, strV_data]
      rw [hsv] at c1
      rw [← hs, ← size_data] at hsz
      have HBL : Hid (badLn L k = !okLn L.length k ⟨op, name, num, skip⟩) := hbl
      have HS : Hid (s.data.toList = name) := hs
      have HF : Hid (∀ (bb : Int) W, Calls Tryz.prog 88 #[stepV op s num skip, .int .i64 bb] W fun e w' => e = .returned (.bool (fitB op s skip bb)) ∧ Below W.heap.size W w') := fun bb W => fits_any op num skip bb s W hsz
      clear h0 h1 h2 h3 hbl hl hs hsv
      go_wp2_with fail
      refine (stepOf_any op num skip s _).mono ?_
      rintro e w1 ⟨rfl, hb1⟩
      have m0 : w1.cell? ⟨wr.heap.size, 0, none⟩ = some (.int .i64 op) := below_cell0 hb1 (by simp) (by simp [go_sem])
      have m1 : w1.cell? ⟨wr.heap.size, 1, none⟩ = some (.string s) := below_cell0 hb1 (by simp) (by simp [go_sem])
      have m2 : w1.cell? ⟨wr.heap.size, 2, none⟩ = some (.int .i64 num) := below_cell0 hb1 (by simp) (by simp [go_sem])
      have m3 : w1.cell? ⟨wr.heap.size, 3, none⟩ = some (.int .i64 skip) := below_cell0 hb1 (by simp) (by simp [go_sem])
      have hB1 : Below w.heap.size w w1 := (hB.alloc hB.size _).trans (hb1.mono (by have := hB.size; simp; omega))
      have hz1 : wr.heap.size < w1.heap.size := by have := hb1.size; simp at this; omega
      clear c0 c1 c2 c3 hb1
      obtain ⟨f, hf⟩ : ∃ f, f = fitB op s skip ((L.length : Int) - k - 1) := ⟨_, rfl⟩
      have HF1 : Hid (∀ W, Calls Tryz.prog 88 #[stepV op s num skip, .int .i64 ((L.length : Int) - k - 1)] W fun e w' => e = .returned (.bool f) ∧ Below W.heap.size W w') := fun W => by rw [hf]; exact HF.out _ W
      have HFF : Hid (f = fitB op s skip ((L.length : Int) - k - 1)) := hf
      clear hf
      cases f with
      | false =>
        have HODD : Hid (badLn L k = true) := by
          unfold Hid
          rw [HBL.out]
          by_cases hop : 1 ≤ op ∧ op ≤ 7
          · obtain ⟨T, P, fid, sA, nA, kA, _, _, _, _, hok⟩ := step_ex op num skip s name HS.out hop
            rw [hok, ← HFF.out]; rfl
          · rw [(step_no op num skip s name L.length k 0 hop).1]; rfl
        obtain ⟨V, hV⟩ : ∃ V, V = stepV op s num skip := ⟨_, rfl⟩
        rw [← hV] at HF1 ⊢
        clear hV
        go_wp2
        first | (go_region_with (first | (go_at_call 88; refine (HF1.out _).mono ?_; rintro e w2 ⟨rfl, hb2⟩; obtain ⟨x0, x1, x2, x3, xz⟩ := keep4 (W := w1.drew) hb2 hz1 m0 m1 m2 m3))) | fail
        all_goals
          go_wp2
          go_ret
          exact ⟨ret_int (by rw [firstN_hit hlt HBAD.out HODD.out]), hB1.drew.trans (hb2.mono hB1.size)⟩
      | true =>
        have hop : 1 ≤ op ∧ op ≤ 7 := by
          by_cases hop : 1 ≤ op ∧ op ≤ 7
          · exact hop
          · have := (step_no op num skip s name L.length k ((L.length : Int) - k - 1) hop).2
            rw [← HFF.out] at this; cases this
        obtain ⟨T, P, fid, sA, nA, kA, hst, hm, hcf, hln, hok⟩ := step_ex op num skip s name HS.out hop
        rw [hst] at HF1 ⊢
        have HLN : Hid (∀ W : World, Calls Tryz.prog fid #[P] W fun e w' => e = .returned (.agg #[.int .i64 op, .string sA, .int .i64 nA, .int .i64 kA]) ∧ Below W.heap.size W w') := hln
        have HOK : Hid (badLn L k = !((sA.toList == s.toList) && ((nA == num) && (kA == skip)))) := by unfold Hid; rw [HBL.out, hok, ← HFF.out, Bool.true_and]
        clear hst hln hok hop
        by_cases q1 : (sA.toList == s.toList) = true
        · by_cases q2 : nA = num
          · by_cases q3 : kA = skip
            · have HGOOD : Hid (badLn L k = false) := by unfold Hid; rw [HOK.out, q1, q2, q3]; simp
              subst q2 q3
              go_wp2
              go_region_with (first | (go_at_call 88; refine (HF1.out _).mono ?_; rintro e w2 ⟨rfl, hb2⟩; obtain ⟨x0, x1, x2, x3, xz⟩ := keep4 (W := w1.drew) hb2 hz1 m0 m1 m2 m3) | (refine (HLN.out _).mono ?_; rintro e w3 ⟨rfl, hb3⟩; obtain ⟨y0, y1, y2, y3, yz⟩ := keep4 hb3 (Nat.lt_of_lt_of_le hz1 xz) x0 x1 x2 x3))
              all_goals
                go_wp2
                go_roundw
                case rel => exact ⟨k + 1, by omega, by go_num, fun j hjk => by
                  by_cases hjk' : j = k
                  · subst hjk'; exact HGOOD.out
                  · exact HBAD.out j (by omega), hB1.drew.trans ((hb2.trans (hb3.mono hb2.size)).mono hB1.size)⟩
                case measure => simp [intOf]; omega
            · have q3' : (kA == skip) = false := by simpa using q3
              have HODD : Hid (badLn L k = true) := by unfold Hid; rw [HOK.out]; rw [q3']; simp
              go_wp2
              go_region_with (first | (go_at_call 88; refine (HF1.out _).mono ?_; rintro e w2 ⟨rfl, hb2⟩; obtain ⟨x0, x1, x2, x3, xz⟩ := keep4 (W := w1.drew) hb2 hz1 m0 m1 m2 m3) | (refine (HLN.out _).mono ?_; rintro e w3 ⟨rfl, hb3⟩; obtain ⟨y0, y1, y2, y3, yz⟩ := keep4 hb3 (Nat.lt_of_lt_of_le hz1 xz) x0 x1 x2 x3))
              all_goals
                go_wp2
                go_ret
                exact ⟨ret_int (by rw [firstN_hit hlt HBAD.out HODD.out]), hB1.drew.trans ((hb2.trans (hb3.mono hb2.size)).mono hB1.size)⟩
          · have q2' : (nA == num) = false := by simpa using q2
            have HODD : Hid (badLn L k = true) := by unfold Hid; rw [HOK.out]; rw [q2']; simp
            go_wp2
            go_region_with (first | (go_at_call 88; refine (HF1.out _).mono ?_; rintro e w2 ⟨rfl, hb2⟩; obtain ⟨x0, x1, x2, x3, xz⟩ := keep4 (W := w1.drew) hb2 hz1 m0 m1 m2 m3) | (refine (HLN.out _).mono ?_; rintro e w3 ⟨rfl, hb3⟩; obtain ⟨y0, y1, y2, y3, yz⟩ := keep4 hb3 (Nat.lt_of_lt_of_le hz1 xz) x0 x1 x2 x3))
            all_goals
              go_wp2
              go_ret
              exact ⟨ret_int (by rw [firstN_hit hlt HBAD.out HODD.out]), hB1.drew.trans ((hb2.trans (hb3.mono hb2.size)).mono hB1.size)⟩
        · have q1' : (sA.toList == s.toList) = false := by simpa using q1
          clear q1
          have HODD : Hid (badLn L k = true) := by unfold Hid; rw [HOK.out]; rw [q1']; simp
          go_wp2
          go_region_with (first | (go_at_call 88; refine (HF1.out _).mono ?_; rintro e w2 ⟨rfl, hb2⟩; obtain ⟨x0, x1, x2, x3, xz⟩ := keep4 (W := w1.drew) hb2 hz1 m0 m1 m2 m3) | (refine (HLN.out _).mono ?_; rintro e w3 ⟨rfl, hb3⟩; obtain ⟨y0, y1, y2, y3, yz⟩ := keep4 hb3 (Nat.lt_of_lt_of_le hz1 xz) x0 x1 x2 x3))
          all_goals
            go_wp2
            go_ret
            exact ⟨ret_int (by rw [firstN_hit hlt HBAD.out HODD.out]), hB1.drew.trans ((hb2.trans (hb3.mono hb2.size)).mono hB1.size)⟩
    · have HNONE : Hid (firstN (badLn L) L.length 0 = L.length) := firstN_none (fun j hj => HBAD.out j (by omega))
      go_wp2
      go_ret
      exact ⟨ret_int (by rw [HNONE.out]), hB⟩
end Go.Proofs.YtimgafblpmjajabGreat
