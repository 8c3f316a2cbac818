/- Merged texts. -/
import Derived.Test.YtdjifjlgllohmaaDoorYDS6
import Derived.Deep.QuietTactic
import Derived.BigQuiet
import Derived.Deep.RegionWith
import Derived.Deep.RegionHeld3
/- Contracts of the laws' helpers on moments: toMoments, szMoments, eqMoments, markMoments, heldMoments. -/
namespace Go.Proofs.YtdjifjlgllohmaaDoor
open Go.RowKit
set_option linter.unusedVariables false
set_option linter.unusedSimpArgs false

theorem row_len {w : World} {a : Option Addr} {len cap : Nat} {zs : List Int} (h : (a = none ∧ len = 0 ∧ cap = 0 ∧ zs = []) ∨
    ∃ x, a = some x ∧ len ≤ cap ∧ cap ≤ maxLen ∧ zs.length = cap ∧ (∀ i, i < zs.length → w.cell? (x.add i) = some (.int .i64 (zs.getD i 0))) ∧ ∀ n ∈ zs, (Lit.int .i64 n).wf = true) : len ≤ 9223372036854775807 := by
  rcases h with ⟨_, rfl, _⟩ | ⟨x, _, h1, h2, _⟩
  · omega
  · unfold maxLen at h2; omega
theorem cell_gr {w w' : World} {row : Option Nat} {lo hi b o : Nat} {v : Value} (hg : w.grownBy w' row) (hr : ∀ g, row = some g → lo ≤ g ∧ g < hi) (h : w.cell? ⟨b, o, none⟩ = some v) (hb : b < lo ∨ hi ≤ b) : w'.cell? ⟨b, o, none⟩ = some v :=
  (World.cell?_of_block (w := w) (hg.block b (World.block_lt_of_cell? w _ h) (fun e => by have := hr b e.symm; omega))).trans h
/-- Moments as a value. -/
abbrev mom (p : Int) (a : Option Addr) (n c : Nat) : Value := .agg #[.int .i64 p, .slice a n c]
theorem Own.setLow {B : Nat} {w : World} {a : Option Addr} {c : Nat} {ys : List Int} (h : Own B w a c ys) {x : Addr} (hx : x.block < B) (u : Value) : Own B (w.setCell x u) a c ys := ownsRow_setCell_below h hx u
set_option maxRecDepth 100000 in
set_option maxHeartbeats 800000 in
theorem toM (p : Int) (a : Option Addr) (n c : Nat) (xs : List Int) (w : World) (hs : SL w a n c xs) (hn : n ≤ 1048576) :
    Calls Tryd.prog 14 #[mom p a n c] w fun e w' => ∃ a', e = .returned (mom p a' n n) ∧ Own w.heap.size w' a' n xs ∧ Below w.heap.size w w' := by
  have hb0 := bl3 w (.cells #[.int .i64 p, .slice a n c] 24) (.cells #[.int .i64 0, .slice none 0 0] 30) (.cells #[.int .i64 p, .slice none 0 0] 30)
  have hs3 := hs.below hb0
  have hz0 := hb0.size
  go_enter Tryd.func14, Tryd.ntmps14
  go_wp2_with fail
  refine (toI _ _ _ _ _ hs3 hn).mono ?_
  rintro e w1 ⟨a', rfl, ho, hb1⟩
  have hz1 : w.heap.size + 2 < w1.heap.size := by have := hb1.size; simp at this; omega
  obtain ⟨hc1, hf1⟩ := bcell hb1
  have hB1 := bnext hb0 hb1
  go_wp2
  refine bodyPost_ret (v := mom p a' n n) (by simp [results, Tryd.results14, go_sem, hc1, hf1]) rfl ⟨a', rfl, ?_, ?_⟩
  · exact (((ho.setLow (by simp) _).setLow (by simp) _).setLow (by simp) _).mono hz0
  · exact ((hB1.setCell (by simp; omega) _).setCell (by simp) _).setCell (by simp) _
set_option maxHeartbeats 800000 in
theorem szI (a : Option Addr) (n c : Nat) (k : Int) (w : World) (hn : n ≤ 4000000) (hk0 : 0 ≤ k) (hk1 : k ≤ 4000000) :
    Calls Tryd.prog 41 #[.slice a n c, .int .i64 k] w fun e w' => e = .returned (.int .i64 (if k < n then -1 else k - n)) ∧ w = w' := by
  by_cases h : k < (n : Int)
  · have H : Hid ((if k < (n : Int) then (-1 : Int) else k - n) = -1) := Lib.hid (if_pos h)
    go_enter Tryd.func41, Tryd.ntmps41
    go_wp2
    go_ret
    exact ⟨rfl, rfl⟩
  · have H : Hid ((if k < (n : Int) then (-1 : Int) else k - n) = k - n) := Lib.hid (if_neg h)
    go_enter Tryd.func41, Tryd.ntmps41
    go_wp2
    go_ret
    exact ⟨rfl, rfl⟩
set_option maxRecDepth 100000 in
set_option maxHeartbeats 800000 in
theorem szM (p : Int) (a : Option Addr) (n c : Nat) (k : Int) (w : World) (hn : n ≤ 4000000) (hk0 : 0 ≤ k) (hk1 : k ≤ 4000000) (h : (n : Int) ≤ k) :
    Calls Tryd.prog 12 #[mom p a n c, .int .i64 k] w fun e w' => e = .returned (.int .i64 (k - n)) ∧ Below w.heap.size w w' := by
  have H : Hid ((if k < (n : Int) then (-1 : Int) else k - n) = k - n) := Lib.hid (if_neg (by omega))
  go_enter Tryd.func12, Tryd.ntmps12
  go_wp2_with fail
  refine (szI _ _ _ _ _ hn hk0 hk1).mono ?_
  rintro e w1 ⟨rfl, rfl⟩
  rw [H.out]
  go_wp2
  go_ret
  exact ⟨rfl, bl1 _ _⟩
set_option maxRecDepth 100000 in
set_option maxHeartbeats 800000 in
theorem szM_no (p : Int) (a : Option Addr) (n c : Nat) (k : Int) (w : World) (hn : n ≤ 9223372036854775807) (hk0 : 0 ≤ k) (hk1 : k ≤ 4000000) (h : k < (n : Int)) :
    Calls Tryd.prog 12 #[mom p a n c, .int .i64 k] w fun e w' => e = .returned (.int .i64 (-1)) ∧ Below w.heap.size w w' := by
  go_enter Tryd.func12, Tryd.ntmps12
  go_wp2_with (first | go_in)
  go_ret
  exact ⟨rfl, bl1 _ _⟩
set_option maxRecDepth 100000 in
set_option maxHeartbeats 800000 in
theorem eqM (p : Int) (a b : Option Addr) (n c d : Nat) (xs : List Int) (w : World) (h1 : SL w a n c xs) (h2 : SL w b n d xs) (hn : n ≤ 4000000) :
    Calls Tryd.prog 17 #[mom p a n c, mom p b n d] w fun e w' => e = .returned (.bool true) ∧ Below w.heap.size w w' := by
  have hb0 := bl2 w (.cells #[.int .i64 p, .slice a n c] 30) (.cells #[.int .i64 p, .slice b n d] 30)
  have g1 := h1.below hb0
  have g2 := h2.below hb0
  go_enter Tryd.func17, Tryd.ntmps17
  go_wp2_with fail
  refine (eqI _ _ _ _ _ _ _ g1 g2 hn).mono ?_
  rintro e w1 ⟨rfl, hb1⟩
  go_wp2
  go_ret
  exact ⟨rfl, bnext hb0 hb1⟩
set_option maxRecDepth 100000 in
set_option maxHeartbeats 800000 in
theorem markM (lo hi : Nat) (p : Int) (a : Option Addr) (n c : Nat) (ys : List Int) (k0 : Int) (w : World) (h1 : OZ lo hi w a n c ys) (hn : n ≤ 4000000) (hk0 : 0 ≤ k0) (hk1 : k0 ≤ 1000000000000) :
    Calls Tryd.prog 18 #[mom p a n c, .int .i64 k0] w fun e w' => e = .returned (.int .i64 (k0 + n)) ∧ OZ lo hi w' a n c (marks k0 n) ∧ ∃ row, w.grownBy w' row ∧ ∀ g, row = some g → lo ≤ g ∧ g < hi := by
  have hb0 := bl1 w (.cells #[.int .i64 p, .slice a n c] 30)
  have g1 := h1.below hb0
  have hg0 := World.grownBy_alloc w (.cells #[.int .i64 p, .slice a n c] 30)
  go_enter Tryd.func18, Tryd.ntmps18
  go_wp2_with fail
  refine (markZ _ _ _ _ _ _ _ _ g1 hn hk0 hk1).mono ?_
  rintro e w1 ⟨rfl, ho, row, gr, hr⟩
  go_wp2
  go_ret
  exact ⟨rfl, ho, row, grown_trans (hg0 _) gr, hr⟩
end Go.Proofs.YtdjifjlgllohmaaDoor
/- Contracts of the laws' helpers on Jacobi data: toJacobi, szJacobi, eqJacobi, markJacobi, heldJacobi; memory touched in a zone. -/
namespace Go.Proofs.YtdjifjlgllohmaaDoor
open Go.RowKit
set_option linter.unusedVariables false
set_option linter.unusedSimpArgs false

/-- Of the blocks that were there only those from lo up to hi may have turned. -/
structure Touch (lo hi : Nat) (w w' : World) : Prop where
  os : w'.os = w.os
  tape : w'.tape = w.tape
  output : w'.output = w.output
  size : w.heap.size ≤ w'.heap.size
  block : ∀ k, k < w.heap.size → (k < lo ∨ hi ≤ k) → w'.heap[k]? = w.heap[k]?
theorem Touch.of {lo hi : Nat} {w w' : World} {row : Option Nat} (hg : w.grownBy w' row) (hr : ∀ g, row = some g → lo ≤ g ∧ g < hi) : Touch lo hi w w' :=
  ⟨hg.os, hg.tape, hg.output, hg.size, fun k hk hd => hg.block k hk (fun e => by have := hr k e.symm; omega)⟩
theorem Touch.trans {lo hi : Nat} {a b c : World} (h : Touch lo hi a b) (k : Touch lo hi b c) : Touch lo hi a c :=
  ⟨k.os.trans h.os, k.tape.trans h.tape, k.output.trans h.output, Nat.le_trans h.size k.size, fun i hi hd => (k.block i (Nat.lt_of_lt_of_le hi h.size) hd).trans (h.block i hi hd)⟩
theorem Touch.mono {lo hi lo' hi' : Nat} {w w' : World} (h : Touch lo hi w w') (h1 : lo' ≤ lo) (h2 : hi ≤ hi') : Touch lo' hi' w w' :=
  ⟨h.os, h.tape, h.output, h.size, fun k hk hd => h.block k hk (by omega)⟩
theorem Touch.alloc (lo hi : Nat) (w : World) (o : Obj) : Touch lo hi w (w.alloc o) := ⟨rfl, rfl, rfl, by simp, fun k hk _ => Below.heap_alloc _ _ _ hk⟩
theorem Touch.cell {lo hi b o : Nat} {w w' : World} {v : Value} (t : Touch lo hi w w') (h : w.cell? ⟨b, o, none⟩ = some v) (hd : b < lo ∨ hi ≤ b) : w'.cell? ⟨b, o, none⟩ = some v :=
  (World.cell?_of_block (w := w) (t.block b (World.block_lt_of_cell? w _ h) hd)).trans h
theorem Own.touch {B lo hi : Nat} {w w' : World} {a : Option Addr} {cap : Nat} {ys : List Int} (h : Own B w a cap ys) (t : Touch lo hi w w') (hd : ∀ g, blk a = some g → g < lo ∨ hi ≤ g) : Own B w' a cap ys := by
  refine ⟨h.1, ?_⟩
  rcases h.2 with h' | ⟨g, c, cur, h1, h2, h3, h4⟩
  · exact .inl h'
  · refine .inr ⟨g, c, cur, h1, h2, ?_, h4⟩
    have ha : blk a = some g := by
      simp only [Value.slice.injEq] at h1
      rw [h1.1]; rfl
    rw [t.block g (lt_of_block h3) (hd g ha)]
    exact h3
theorem OZ.touch {lo hi lo' hi' : Nat} {w w' : World} {a : Option Addr} {n cap : Nat} {ys : List Int} (h : OZ lo hi w a n cap ys) (t : Touch lo' hi' w w') (hd : hi ≤ lo' ∨ hi' ≤ lo) : OZ lo hi w' a n cap ys := by
  rcases h.2 with h0 | ⟨ho, g, hbg, hl⟩
  · exact ⟨⟨h.1.1, h.1.2.1, .inl h0⟩, .inl h0⟩
  · have hlo : lo ≤ g := by
      rcases ho.shape with ⟨rfl, _, _⟩ | ⟨g', cur, rfl, hB, _⟩
      · cases hbg
      · cases hbg; exact hB
    have ho' := ho.touch t (fun g' hg' => by
      rw [hbg] at hg'
      cases hg'
      omega)
    refine ⟨?_, .inr ⟨ho', g, hbg, hl⟩⟩
    have := ho'.sl
    rwa [h.len] at this
theorem below_touch {B : Nat} {w w' w0 : World} {lo hi : Nat} (hb : Below B w0 w) (t : Touch lo hi w w') (h1 : B ≤ lo) (h2 : B ≤ w.heap.size) : Below B w0 w' :=
  hb.trans ⟨t.os, t.tape, t.output, t.size, fun k hk => t.block k (by omega) (.inl (by omega))⟩
theorem markZT (lo hi : Nat) (a : Option Addr) (n c : Nat) (ys : List Int) (k0 : Int) (w : World) (h1 : OZ lo hi w a n c ys) (hn : n ≤ 4000000) (hk0 : 0 ≤ k0) (hk1 : k0 ≤ 1000000000000) :
    Calls Tryd.prog 24 #[.slice a n c, .int .i64 k0] w fun e w' => e = .returned (.int .i64 (k0 + n)) ∧ OZ lo hi w' a n c (marks k0 n) ∧ Touch lo hi w w' :=
  (markZ lo hi a n c ys k0 w h1 hn hk0 hk1).mono fun e w' ⟨he, ho, row, gr, hr⟩ => ⟨he, ho, Touch.of gr hr⟩
theorem markMT (lo hi : Nat) (p : Int) (a : Option Addr) (n c : Nat) (ys : List Int) (k0 : Int) (w : World) (h1 : OZ lo hi w a n c ys) (hn : n ≤ 4000000) (hk0 : 0 ≤ k0) (hk1 : k0 ≤ 1000000000000) :
    Calls Tryd.prog 18 #[mom p a n c, .int .i64 k0] w fun e w' => e = .returned (.int .i64 (k0 + n)) ∧ OZ lo hi w' a n c (marks k0 n) ∧ Touch lo hi w w' :=
  (markM lo hi p a n c ys k0 w h1 hn hk0 hk1).mono fun e w' ⟨he, ho, row, gr, hr⟩ => ⟨he, ho, Touch.of gr hr⟩

/-- The piece of its zone in which a slice lies. -/
theorem OZ.fine {lo hi : Nat} {w : World} {a : Option Addr} {n cap : Nat} {ys : List Int} (h : OZ lo hi w a n cap ys) : (n = 0 ∧ OZ lo lo w a n cap ys) ∨ ∃ g, n ≠ 0 ∧ blk a = some g ∧ lo ≤ g ∧ g < hi ∧ OZ g (g + 1) w a n cap ys := by
  by_cases h0 : n = 0
  · exact .inl ⟨h0, h.1, .inl h0⟩
  · rcases h.2 with h' | ⟨ho, g, hbg, hl⟩
    · exact absurd h' h0
    · rcases ho.shape with ⟨rfl, _, _⟩ | ⟨g', cur, rfl, hB, hr⟩
      · cases hbg
      · cases hbg
        refine .inr ⟨g', h0, rfl, hB, hl, h.1, .inr ⟨?_, g', rfl, by omega⟩⟩
        refine ⟨ho.1, ?_⟩
        rcases ho.2 with h'' | ⟨g2, c2, cur2, e1, e2, e3⟩
        · cases h''.1
        · simp only [Value.slice.injEq, Option.some.injEq, Addr.mk.injEq, and_true, true_and] at e1
          obtain ⟨rfl, rfl⟩ := e1
          exact .inr ⟨g', cap, cur2, rfl, Nat.le_refl _, e3⟩
/-- Two slices of the call's own that share no memory. -/
def JZ (lo hi : Nat) (w : World) (a : Option Addr) (n c : Nat) (xs : List Int) (b : Option Addr) (m d : Nat) (ys : List Int) : Prop :=
  OZ lo hi w a n c xs ∧ OZ lo hi w b m d ys ∧ (n = 0 ∨ m = 0 ∨ blk a ≠ blk b)
section
variable {lo hi : Nat} {w w' : World} {a : Option Addr} {n c : Nat} {xs : List Int} {b : Option Addr} {m d : Nat} {ys : List Int}
theorem JZ.sl1 (h : JZ lo hi w a n c xs b m d ys) : SL w a n c xs := h.1.sl
theorem JZ.sl2 (h : JZ lo hi w a n c xs b m d ys) : SL w b m d ys := h.2.1.sl
theorem JZ.below (h : JZ lo hi w a n c xs b m d ys) (hb : Below w.heap.size w w') : JZ lo hi w' a n c xs b m d ys := ⟨h.1.below hb, h.2.1.below hb, h.2.2⟩
theorem JZ.mono {lo' hi' : Nat} (h : JZ lo hi w a n c xs b m d ys) (h1 : lo' ≤ lo) (h2 : hi ≤ hi') : JZ lo' hi' w a n c xs b m d ys := ⟨h.1.mono h1 h2, h.2.1.mono h1 h2, h.2.2⟩
theorem JZ.touch {lo' hi' : Nat} (h : JZ lo hi w a n c xs b m d ys) (t : Touch lo' hi' w w') (hd : hi ≤ lo' ∨ hi' ≤ lo) : JZ lo hi w' a n c xs b m d ys := ⟨h.1.touch t hd, h.2.1.touch t hd, h.2.2⟩
theorem JZ.fine (h : JZ lo hi w a n c xs b m d ys) (hlh : lo ≤ hi) : ∃ l1 h1 l2 h2, lo ≤ l1 ∧ h1 ≤ hi ∧ lo ≤ l2 ∧ h2 ≤ hi ∧ (h1 ≤ l2 ∨ h2 ≤ l1) ∧ OZ l1 h1 w a n c xs ∧ OZ l2 h2 w b m d ys := by
  rcases h.1.fine with ⟨e1, o1⟩ | ⟨g1, e1, k1, p1, q1, o1⟩ <;> rcases h.2.1.fine with ⟨e2, o2⟩ | ⟨g2, e2, k2, p2, q2, o2⟩
  · exact ⟨_, _, _, _, Nat.le_refl _, hlh, Nat.le_refl _, hlh, .inl (Nat.le_refl _), o1, o2⟩
  · exact ⟨_, _, _, _, Nat.le_refl _, hlh, p2, q2, .inl p2, o1, o2⟩
  · exact ⟨_, _, _, _, p1, q1, Nat.le_refl _, hlh, .inr p1, o1, o2⟩
  · have hne : g1 ≠ g2 := by
      rcases h.2.2 with h' | h' | h'
      · exact absurd h' e1
      · exact absurd h' e2
      · rw [k1, k2] at h'
        intro e
        exact h' (by rw [e])
    exact ⟨_, _, _, _, p1, q1, p2, q2, by omega, o1, o2⟩
theorem JZ.two {B mid : Nat} (h1 : OZ B mid w a n c xs) (h2 : OZ mid hi w b m d ys) (hB : B ≤ mid) (hm : mid ≤ hi) : JZ B hi w a n c xs b m d ys := by
  refine ⟨h1.mono (Nat.le_refl _) hm, h2.mono hB (Nat.le_refl _), ?_⟩
  rcases h1.fine with ⟨e1, _⟩ | ⟨g1, e1, k1, p1, q1, _⟩
  · exact .inl e1
  rcases h2.fine with ⟨e2, _⟩ | ⟨g2, e2, k2, p2, q2, _⟩
  · exact .inr (.inl e2)
  · refine .inr (.inr ?_)
    rw [k1, k2]
    intro e
    cases e
    omega
end
theorem cell_ne {w w' : World} {row : Option Nat} {b o : Nat} {v : Value} (hg : w.grownBy w' row) (h : w.cell? ⟨b, o, none⟩ = some v) (hne : row ≠ some b) : w'.cell? ⟨b, o, none⟩ = some v :=
  (World.cell?_of_block (w := w) (hg.block b (World.block_lt_of_cell? w _ h) (fun e => hne e.symm))).trans h
theorem frz_ne {w w' : World} {row : Option Nat} {b o : Nat} {v : Value} {x : Bool} (hg : w.grownBy w' row) (h : w.cell? ⟨b, o, none⟩ = some v) (hf : w.frozen? ⟨b, o, none⟩ = x) (hne : row ≠ some b) : w'.frozen? ⟨b, o, none⟩ = x :=
  (World.frozen?_of_block (w := w) (hg.block b (World.block_lt_of_cell? w _ h) (fun e => hne e.symm))).trans hf
theorem frz_al {w : World} {b o : Nat} {v : Value} {x : Bool} (h : w.cell? ⟨b, o, none⟩ = some v) (hf : w.frozen? ⟨b, o, none⟩ = x) (c : Obj) : (w.alloc c).frozen? ⟨b, o, none⟩ = x :=
  (World.frozen?_of_block (w := w) (Below.heap_alloc _ _ _ (World.block_lt_of_cell? w _ h))).trans hf
theorem tab_snoc (m : Nat) (h : Nat → Int) : tab m h ++ [h m] = tab (m + 1) h := by
  unfold tab
  rw [List.range_succ, List.map_append]; rfl
theorem cell_set2' {w : World} {b o o' : Nat} {v : Value} (h : w.cell? ⟨b, o, none⟩ = some v) (hne : o' ≠ o) (u : Value) : (w.setCell ⟨b, o', none⟩ u).cell? ⟨b, o, none⟩ = some v :=
  (World.cell?_setCell_other _ _ _ _ (fun e => hne (by simpa using congrArg Addr.off e))).trans h
theorem cell_set2 {w : World} {a b : Addr} {v : Value} (h : w.cell? b = some v) (hne : a.block ≠ b.block) (u : Value) : (w.setCell a u).cell? b = some v :=
  (World.cell?_setCell_other _ _ _ _ (fun e => hne (by rw [← e]))).trans h
/-- Data of a recurrence (or a rule) as a value. -/
abbrev jac (p : Int) (a : Option Addr) (n c : Nat) (b : Option Addr) (m d : Nat) : Value := .agg #[.int .i64 p, .slice a n c, .slice b m d]
theorem OZ.setLow {lo hi : Nat} {w : World} {a : Option Addr} {n c : Nat} {ys : List Int} (h : OZ lo hi w a n c ys) {x : Addr} (hx : x.block < lo) (u : Value) : OZ lo hi (w.setCell x u) a n c ys :=
  h.touch (lo' := x.block) (hi' := x.block + 1) ⟨rfl, rfl, rfl, by simp [World.setCell], fun k hk hd => Below.heap_setCell _ _ _ _ (by omega)⟩ (.inr (by omega))
theorem JZ.setLow {lo hi : Nat} {w : World} {a : Option Addr} {n c : Nat} {xs : List Int} {b : Option Addr} {m d : Nat} {ys : List Int} (h : JZ lo hi w a n c xs b m d ys) {x : Addr} (hx : x.block < lo) (u : Value) : JZ lo hi (w.setCell x u) a n c xs b m d ys :=
  ⟨h.1.setLow hx u, h.2.1.setLow hx u, h.2.2⟩
set_option maxRecDepth 100000 in
set_option maxHeartbeats 800000 in
theorem eqJ (p : Int) (a a' : Option Addr) (n c c' : Nat) (xs : List Int) (b b' : Option Addr) (m d d' : Nat) (ys : List Int) (w : World) (h1 : SL w a n c xs) (h2 : SL w a' n c' xs) (h3 : SL w b m d ys) (h4 : SL w b' m d' ys) (hn : n ≤ 4000000) (hm : m ≤ 4000000) :
    Calls Tryd.prog 16 #[jac p a n c b m d, jac p a' n c' b' m d'] w fun e w' => e = .returned (.bool true) ∧ Below w.heap.size w w' := by
  have hb0 := bl2 w (.cells #[.int .i64 p, .slice a n c, .slice b m d] 27) (.cells #[.int .i64 p, .slice a' n c', .slice b' m d'] 27)
  have g1 := h1.below hb0
  have g2 := h2.below hb0
  go_enter Tryd.func16, Tryd.ntmps16
  go_wp2_with fail
  refine (eqI _ _ _ _ _ _ _ g1 g2 hn).mono ?_
  rintro e w1 ⟨rfl, hb1⟩
  obtain ⟨hc1, hf1⟩ := bcell hb1
  have hB1 := bnext hb0 hb1
  have g3 := h3.below hB1
  have g4 := h4.below hB1
  go_wp2_with fail
  refine (eqI _ _ _ _ _ _ _ g3 g4 hm).mono ?_
  rintro e w2 ⟨rfl, hb2⟩
  go_wp2
  go_ret
  exact ⟨rfl, bnext hB1 hb2⟩
set_option maxRecDepth 100000 in
set_option maxHeartbeats 800000 in
theorem markJ (lo hi : Nat) (p : Int) (a : Option Addr) (n c : Nat) (xs : List Int) (b : Option Addr) (m d : Nat) (ys : List Int) (k0 : Int) (w : World) (h : JZ lo hi w a n c xs b m d ys) (hlh : lo ≤ hi) (hhi : hi ≤ w.heap.size) (hn : n ≤ 4000000) (hm : m ≤ 4000000) (hk0 : 0 ≤ k0) (hk1 : k0 ≤ 100000000000) :
    Calls Tryd.prog 19 #[jac p a n c b m d, .int .i64 k0] w fun e w' => e = .returned (.int .i64 (k0 + n + m)) ∧ JZ lo hi w' a n c (marks k0 n) b m d (marks (k0 + n) m) ∧ Touch lo hi w w' := by
  have hdis := h.2.2
  obtain ⟨l1, h1, l2, h2, z1, z2, z3, z4, z5, o1, o2⟩ := h.fine hlh
  have hb0 := bl1 w (.cells #[.int .i64 p, .slice a n c, .slice b m d] 27)
  replace o1 := o1.below hb0
  replace o2 := o2.below hb0
  go_enter Tryd.func19, Tryd.ntmps19
  go_wp2_with fail
  refine (markZT _ _ _ _ _ _ _ _ o1 hn hk0 (by omega)).mono ?_
  rintro e w1 ⟨rfl, o1', t1⟩
  have c0 : w1.cell? ⟨w.heap.size, 0, none⟩ = some (.int .i64 p) := t1.cell (by simp [go_sem]) (.inr (by omega))
  have c1 : w1.cell? ⟨w.heap.size, 1, none⟩ = some (.slice a n c) := t1.cell (by simp [go_sem]) (.inr (by omega))
  have c2 : w1.cell? ⟨w.heap.size, 2, none⟩ = some (.slice b m d) := t1.cell (by simp [go_sem]) (.inr (by omega))
  have o2' := o2.touch t1 z5.symm
  clear o1 o2
  go_wp2_with fail
  refine (markZT _ _ _ _ _ _ _ _ o2' hm (by omega) (by omega)).mono ?_
  rintro e w2 ⟨rfl, o2'', t2⟩
  have o1'' := o1'.touch t2 z5
  go_wp2
  go_ret
  exact ⟨rfl, ⟨o1''.mono z1 z2, o2''.mono z3 z4, hdis⟩, (Touch.alloc lo hi w _).trans ((t1.mono z1 z2).trans (t2.mono z3 z4))⟩
set_option maxRecDepth 100000 in
set_option maxHeartbeats 800000 in
theorem heldJ (p : Int) (a : Option Addr) (n c : Nat) (b : Option Addr) (m d : Nat) (k0 : Int) (w : World) (h1 : SL w a n c (marks k0 n)) (h2 : SL w b m d (marks (k0 + n) m)) (hn : n ≤ 4000000) (hm : m ≤ 4000000) (hk0 : 0 ≤ k0) (hk1 : k0 ≤ 100000000000) :
    Calls Tryd.prog 20 #[jac p a n c b m d, .int .i64 k0] w fun e w' => e = .returned (.int .i64 (k0 + n + m)) ∧ Below w.heap.size w w' := by
  have hb0 := bl1 w (.cells #[.int .i64 p, .slice a n c, .slice b m d] 27)
  have g1 := h1.below hb0
  have g2 := h2.below hb0
  have hpos : ¬ k0 + (n : Int) < 0 := by omega
  have hpos2 : ¬ k0 + (n : Int) + (m : Int) < 0 := by omega
  go_enter Tryd.func20, Tryd.ntmps20
  go_wp2_with fail
  refine (heldI _ _ _ _ _ g1 hn hk0 (by omega)).mono ?_
  rintro e w1 ⟨rfl, rfl⟩
  go_wp2_with fail
  refine (heldI _ _ _ _ _ g2 hm (by omega) (by omega)).mono ?_
  rintro e w1 ⟨rfl, rfl⟩
  go_wp2
  go_ret
  exact ⟨rfl, hb0⟩
end Go.Proofs.YtdjifjlgllohmaaDoor
