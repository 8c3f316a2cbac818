/- Merged texts. -/
import Derived.Shelf.SlSortCmp.WholeK
import Derived.Shelf.SlGeneric
import Derived.Ground.SlsfProg
import Derived.Test.YtcadiepghhnbeaaProg
import Derived.Test.YtcadiepghhnbeaaYW127
/- slices.SortFunc at nodes with weights: the contract laid, in plain words. -/
namespace Go.Proofs
open Go.Shelf
def Try.sortW_ren : Go.Shelf.Ren := ⟨fun | 6 => 84 | 15 => 100 | 14 => 99 | 28 => 117 | 29 => 118 | 20 => 109 | 21 => 110 | 22 => 111 | 23 => 112 | 24 => 113 | 25 => 114 | 26 => 115 | 27 => 116 | 46 => 125 | 47 => 126 | 48 => 127 | 49 => 128 | 50 => 129 | 57 => 133 | n => n, fun | 22 => 97 | 24 => 101 | 25 => 103 | 3 => 3 | 39 => 116 | 0 => 0 | 53 => 134 | 55 => 136 | 4 => 4 | 46 => 127 | 45 => 126 | 50 => 131 | 5 => 5 | 9 => 9 | 66 => 140 | 70 => 144 | 76 => 150 | 77 => 151 | n => n, fun | n => n⟩
theorem Try.sortW : Go.Proofs.SlLaysF0.n6 Try.prog Try.sortW_ren := {
  mixed := by kernel_rfl
  f6 := ⟨Try.f84.name, by decide, Try.func84.trans (congrArg some (by kernel_rfl))⟩
  f14 := ⟨Try.f99.name, by decide, Try.func99.trans (congrArg some (by kernel_rfl))⟩
  f15 := Try.func100.trans (congrArg some (by kernel_rfl))
  f20 := ⟨Try.f109.name, by decide, Try.func109.trans (congrArg some (by kernel_rfl))⟩
  f21 := ⟨Try.f110.name, by decide, Try.func110.trans (congrArg some (by kernel_rfl))⟩
  f22 := ⟨Try.f111.name, by decide, Try.func111.trans (congrArg some (by kernel_rfl))⟩
  f23 := ⟨Try.f112.name, by decide, Try.func112.trans (congrArg some (by kernel_rfl))⟩
  f24 := ⟨Try.f113.name, by decide, Try.func113.trans (congrArg some (by kernel_rfl))⟩
  f25 := ⟨Try.f114.name, by decide, Try.func114.trans (congrArg some (by kernel_rfl))⟩
  f26 := ⟨Try.f115.name, by decide, Try.func115.trans (congrArg some (by kernel_rfl))⟩
  f27 := ⟨Try.f116.name, by decide, Try.func116.trans (congrArg some (by kernel_rfl))⟩
  f28 := Try.func117.trans (congrArg some (by kernel_rfl))
  f29 := Try.func118.trans (congrArg some (by kernel_rfl))
  f46 := ⟨Try.f125.name, by decide, Try.func125.trans (congrArg some (by kernel_rfl))⟩
  f47 := Try.func126.trans (congrArg some (by kernel_rfl))
  f48 := Try.func127.trans (congrArg some (by kernel_rfl))
  f49 := ⟨Try.f128.name, by decide, Try.func128.trans (congrArg some (by kernel_rfl))⟩
  f50 := ⟨Try.f129.name, by decide, Try.func129.trans (congrArg some (by kernel_rfl))⟩
  f57 := ⟨Try.f133.name, by decide, Try.func133.trans (congrArg some (by kernel_rfl))⟩
  t0 := Try.underlying0
  a0 := Try.isAgg0
  z0 := Try.sizeOf0
  v0 := Try.zeroValue0
  t3 := Try.underlying3
  a3 := Try.isAgg3
  z3 := Try.sizeOf3
  v3 := Try.zeroValue3
  t4 := Try.underlying4
  a4 := Try.isAgg4
  z4 := Try.sizeOf4
  v4 := Try.zeroValue4
  t5 := Try.underlying5
  a5 := Try.isAgg5
  z5 := Try.sizeOf5
  v5 := Try.zeroValue5
  t9 := Try.underlying9
  a9 := Try.isAgg9
  z9 := Try.sizeOf9
  v9 := Try.zeroValue9
  t22 := Try.underlying97
  a22 := Try.isAgg97
  z22 := Try.sizeOf97
  v22 := Try.zeroValue97
  t25 := Try.underlying103
  a25 := Try.isAgg103
  z25 := Try.sizeOf103
  v25 := Try.zeroValue103
  t39 := Try.underlying116
  a39 := Try.isAgg116
  z39 := Try.sizeOf116
  v39 := Try.zeroValue116
  t45 := Try.underlying126
  a45 := Try.isAgg126
  z45 := Try.sizeOf126
  v45 := Try.zeroValue126
  t46 := Try.underlying127
  a46 := Try.isAgg127
  z46 := Try.sizeOf127
  v46 := Try.zeroValue127
  t50 := Try.underlying131
  a50 := Try.isAgg131
  z50 := Try.sizeOf131
  v50 := Try.zeroValue131
  t53 := Try.underlying134
  a53 := Try.isAgg134
  z53 := Try.sizeOf134
  v53 := Try.zeroValue134
  t55 := Try.underlying136
  a55 := Try.isAgg136
  z55 := Try.sizeOf136
  v55 := Try.zeroValue136
  t66 := Try.underlying140
  a66 := Try.isAgg140
  z66 := Try.sizeOf140
  v66 := Try.zeroValue140
  t70 := Try.underlying144
  a70 := Try.isAgg144
  z70 := Try.sizeOf144
  v70 := Try.zeroValue144
  t76 := Try.underlying150
  a76 := Try.isAgg150
  z76 := Try.sizeOf150
  v76 := Try.zeroValue150
  t77 := Try.underlying151
  a77 := Try.isAgg151
  z77 := Try.sizeOf151
  v77 := Try.zeroValue151 }
end Go.Proofs
/- Lists of nodes with weights: how they lie, how they are sorted (slices.SortFunc). -/
namespace Go.Proofs.Ytcadiepghhnbeaa
open Go.RowKit Go.Sort
set_option linter.unusedVariables false
set_option linter.unusedSimpArgs false

/-- The two cells of a node with its weight. -/
def encW (x : Int × Int) : List Value := [.int .i64 x.1, .int .i64 x.2]
/-- A list of nodes with weights in a block of its own. -/
structure PR (w : World) (g : Nat) (L : List (Int × Int)) : Prop where
  c0 : ∀ i, i < L.length → w.cell? ⟨g, i * 2, none⟩ = some (.int .i64 (L.getD i (0, 0)).1)
  c1 : ∀ i, i < L.length → w.cell? ⟨g, i * 2 + 1, none⟩ = some (.int .i64 (L.getD i (0, 0)).2)
  f0 : ∀ i, i < L.length → w.frozen? ⟨g, i * 2, none⟩ = false
  f1 : ∀ i, i < L.length → w.frozen? ⟨g, i * 2 + 1, none⟩ = false
  lt : g < w.heap.size
theorem PR.below {w w' : World} {g : Nat} {L : List (Int × Int)} (h : PR w g L) (hb : Below w.heap.size w w') : PR w' g L :=
  ⟨fun i hi => cell_be hb (h.c0 i hi), fun i hi => cell_be hb (h.c1 i hi), fun i hi => (hb.frozen h.lt).trans (h.f0 i hi), fun i hi => (hb.frozen h.lt).trans (h.f1 i hi), Nat.lt_of_lt_of_le h.lt hb.size⟩
theorem PR.holds {w : World} {g : Nat} {L : List (Int × Int)} (h : PR w g L) : HoldsK encW 2 w g 0 L.toArray := by
  intro j hj
  rw [size_flatK] at hj
  rw [get_flatK _ _ _ _ hj]
  have hs : j / 2 < L.length := by simp at hj; omega
  have e : (L.toArray[j / 2]! : Int × Int) = L.getD (j / 2) (0, 0) := by
    rw [getElem!_pos L.toArray (j / 2) (by simpa using hs), List.getD, List.getElem?_eq_getElem hs]
    simp
  rw [e]
  rcases Nat.mod_two_eq_zero_or_one j with hm | hm
  · rw [hm, show 0 + j = j / 2 * 2 by omega]
    exact ⟨h.c0 _ hs, h.f0 _ hs⟩
  · rw [hm, show 0 + j = j / 2 * 2 + 1 by omega]
    exact ⟨h.c1 _ hs, h.f1 _ hs⟩
theorem PR.of {w : World} {g : Nat} {d : Array (Int × Int)} (h : HoldsK encW 2 w g 0 d) (hl : g < w.heap.size) : PR w g d.toList := by
  have e : ∀ i, i < d.size → (d[i]! : Int × Int) = d.toList.getD i (0, 0) := fun i hi => by
    rw [getElem!_pos d i hi, List.getD, List.getElem?_eq_getElem (by simpa using hi)]
    simp
  have k := fun i (hi : i < d.toList.length) c (hc : c < 2) => HoldsK.cell h (i := i) (c := c) (by simpa using hi) hc
  refine ⟨fun i hi => ?_, fun i hi => ?_, fun i hi => ?_, fun i hi => ?_, hl⟩
  · have := (k i hi 0 (by omega)).1
    rw [e i (by simpa using hi), Nat.zero_add] at this
    exact this
  · have := (k i hi 1 (by omega)).1
    rw [e i (by simpa using hi), Nat.zero_add] at this
    exact this
  · have := (k i hi 0 (by omega)).2
    rw [Nat.zero_add] at this
    exact this
  · have := (k i hi 1 (by omega)).2
    rw [Nat.zero_add] at this
    exact this
theorem cmp_lt (x y : Int × Int) : ltOf (fun x y : Int × Int => Lib.compareInt x.1 y.1) x y = decide (x.1 < y.1) := by
  unfold ltOf Lib.compareInt
  by_cases h1 : x.1 < y.1
  · simp [h1]
  · by_cases h2 : y.1 < x.1 <;> simp [h1, h2]
theorem cmp_swo : SWO (ltOf fun x y : Int × Int => Lib.compareInt x.1 y.1) where
  irrefl x := by rw [cmp_lt]; simp
  trans x y z h1 h2 := by rw [cmp_lt] at *; simp at *; omega
  ntrans x y z h1 h2 := by rw [cmp_lt] at *; simp at *; omega
theorem sw_touch (w : World) (g n : Nat) (d : Array (Int × Int)) (os : Array Obj) (hg : g < w.heap.size) : Touch g (g + 1) w (sortWorldK encW 2 w g 0 n d os) := by
  refine ⟨rfl, rfl, rfl, ?_, fun k hk hd => ?_⟩
  · simp [sortWorldK, grow, putRowK, putRow, mapBlock, ahead]
  · show ((w.heap.modify g _) ++ os)[k]? = w.heap[k]?
    rw [Array.getElem?_append_left (by simpa using hk), Array.getElem?_modify, if_neg (by omega)]
set_option maxHeartbeats 800000 in
theorem compare_any (x y : Int) (w : World) : Calls Try.prog 86 #[.int .i64 x, .int .i64 y] w fun e w' => e = .returned (.int .i64 (Lib.compareInt x y)) ∧ w = w' := by
  by_cases h1 : x < y
  · have e := hide (show Lib.compareInt x y = -1 by unfold Lib.compareInt; simp [h1])
    go_enter Try.func86, Try.ntmps86
    go_wp2_with fail
    refine (isNaN_any _ _).mono ?_
    rintro e w1 ⟨rfl, rfl⟩
    go_wp2_with fail
    refine (isNaN_any _ _).mono ?_
    rintro e w1 ⟨rfl, rfl⟩
    go_wp2
    go_ret
    exact ⟨ret_int e.out.symm, rfl⟩
  · by_cases h2 : y < x
    · have e := hide (show Lib.compareInt x y = 1 by unfold Lib.compareInt; simp [h1, h2])
      go_enter Try.func86, Try.ntmps86
      go_wp2_with fail
      refine (isNaN_any _ _).mono ?_
      rintro e w1 ⟨rfl, rfl⟩
      go_wp2_with fail
      refine (isNaN_any _ _).mono ?_
      rintro e w1 ⟨rfl, rfl⟩
      go_wp2
      go_ret
      exact ⟨ret_int e.out.symm, rfl⟩
    · have e := hide (show Lib.compareInt x y = 0 by unfold Lib.compareInt; simp [h1, h2])
      go_enter Try.func86, Try.ntmps86
      go_wp2_with fail
      refine (isNaN_any _ _).mono ?_
      rintro e w1 ⟨rfl, rfl⟩
      go_wp2_with fail
      refine (isNaN_any _ _).mono ?_
      rintro e w1 ⟨rfl, rfl⟩
      go_wp2
      go_ret
      exact ⟨ret_int e.out.symm, rfl⟩
set_option maxHeartbeats 800000 in
theorem cmpW_any (x y : Int × Int) (W : World) : Calls Try.prog 85 #[.agg #[.int .i64 x.1, .int .i64 x.2], .agg #[.int .i64 y.1, .int .i64 y.2]] W fun e w' => e = .returned (.int .i64 (Lib.compareInt x.1 y.1)) ∧ ∃ q os', w' = grow (W.drewN q) os' := by
  have hcon := fun W' => compare_any x.1 y.1 W'
  generalize Lib.compareInt x.1 y.1 = r at hcon ⊢
  go_enter Try.func85, Try.ntmps85
  go_wp2_with (go_at_call 86; refine (hcon _).mono ?_; rintro e w' ⟨rfl, rfl⟩)
  go_ret
  exact ⟨rfl, 0, _, by rw [alloc_eq_grow, alloc_eq_grow, grow_grow]; rfl⟩
set_option maxHeartbeats 1600000 in
theorem sortW_any (g c : Nat) (L : List (Int × Int)) (w : World) (h : PR w g L) (hn : L.length ≤ 1000) :
    Calls Try.prog 84 #[.slice (some ⟨g, 0, none⟩) L.length c, .func (.func 85) #[] #[]] w fun e w' => e = .returned (.tuple #[]) ∧ ∃ L', PR w' g L' ∧ L'.Perm L ∧ L'.Pairwise (fun a b => a.1 ≤ b.1) ∧ Touch g (g + 1) w w' := by
  have eg : ∀ args w, (callFunc 85 args).run Try.prog w = .ok (.enter 85 args) w := enters_of Try.func85 (by kernel_rfl) rfl
  have hcon := AnyQ.slices_SortFunc Try.sortW 2 Try.isAgg101 Try.sizeOf101 encW (fun _ => rfl) (fun x v hv => by simp [encW] at hv; rcases hv with rfl | rfl <;> rfl) (fun x y => Lib.compareInt x.1 y.1) cmp_swo 85 #[] g 0 c L.toArray w eg (fun _ _ _ _ x y => cmpW_any x y _) h.holds h.lt (by simp; omega)
  change Calls Try.prog 84 _ _ _ at hcon
  rw [List.size_toArray] at hcon
  refine hcon.mono ?_
  rintro e w' ⟨rfl, d', n, os, hp, hs, rfl⟩
  obtain ⟨p1, p2, p3⟩ := hp
  have p1' : d'.size = L.length := by simpa using p1
  have hz : g < (sortWorldK encW 2 w g 0 n d' os).heap.size := Nat.lt_of_lt_of_le h.lt (sw_touch w g n d' os h.lt).size
  refine ⟨rfl, d'.toList, PR.of (holdsK_sortWorldK_c encW 2 w g 0 L.toArray d' n os h.holds h.lt (by simpa using p1)) hz, ?_, ?_, sw_touch w g n d' os h.lt⟩
  · have e1 : (d'.extract 0 L.length).toList = d'.toList := by rw [← p1']; simp
    have e2 : (L.toArray.extract 0 L.length).toList = L := by simp
    have p3' : (d'.extract 0 L.length).toList.Perm (L.toArray.extract 0 L.length).toList := by simpa using p3
    rw [e1, e2] at p3'
    exact p3'
  · rw [List.pairwise_iff_getElem]
    intro i j hi hj hij
    have := hs i j (Nat.zero_le _) hij (by simp at hj ⊢; omega)
    rw [cmp_lt] at this
    simp at this hi hj
    rw [getElem!_pos d' i hi, getElem!_pos d' j hj] at this
    simpa using this
end Go.Proofs.Ytcadiepghhnbeaa
