/- Merged texts. -/
import Derived.Test.YtcadiepghhnbeaaYW113
import Derived.Test.YtcadiepghhnbeaaYW12
import Derived.Test.YtcadiepghhnbeaaYW15
import Derived.Deep.QuietTactic
import Derived.BigQuiet
/- Contracts of the laws' helpers on Jacobi data: toJacobi, szJacobi, eqJacobi, markJacobi, heldJacobi; memory touched in a zone. -/
namespace Go.Proofs.Ytcadiepghhnbeaa
open Go.RowKit
set_option linter.unusedVariables false
set_option linter.unusedSimpArgs false

/-- Of the blocks that were there only those from lo up to hi may have turned. -/
structure Touch (lo hi : Nat) (w w' : World) : Prop where
  os : w'.os = w.os
  tape : w'.tape = w.tape
  output : w'.output = w.output
  size : w.heap.size ≤ w'.heap.size
  block : ∀ k, k < w.heap.size → (k < lo ∨ hi ≤ k) → w'.heap[k]? = w.heap[k]?
theorem Touch.of {lo hi : Nat} {w w' : World} {row : Option Nat} (hg : w.grownBy w' row) (hr : ∀ g, row = some g → lo ≤ g ∧ g < hi) : Touch lo hi w w' :=
  ⟨hg.os, hg.tape, hg.output, hg.size, fun k hk hd => hg.block k hk (fun e => by have := hr k e.symm; omega)⟩
theorem Touch.trans {lo hi : Nat} {a b c : World} (h : Touch lo hi a b) (k : Touch lo hi b c) : Touch lo hi a c :=
  ⟨k.os.trans h.os, k.tape.trans h.tape, k.output.trans h.output, Nat.le_trans h.size k.size, fun i hi hd => (k.block i (Nat.lt_of_lt_of_le hi h.size) hd).trans (h.block i hi hd)⟩
theorem Touch.mono {lo hi lo' hi' : Nat} {w w' : World} (h : Touch lo hi w w') (h1 : lo' ≤ lo) (h2 : hi ≤ hi') : Touch lo' hi' w w' :=
  ⟨h.os, h.tape, h.output, h.size, fun k hk hd => h.block k hk (by omega)⟩
theorem Touch.alloc (lo hi : Nat) (w : World) (o : Obj) : Touch lo hi w (w.alloc o) := ⟨rfl, rfl, rfl, by simp, fun k hk _ => Below.heap_alloc _ _ _ hk⟩
theorem Touch.cell {lo hi b o : Nat} {w w' : World} {v : Value} (t : Touch lo hi w w') (h : w.cell? ⟨b, o, none⟩ = some v) (hd : b < lo ∨ hi ≤ b) : w'.cell? ⟨b, o, none⟩ = some v :=
  (World.cell?_of_block (w := w) (t.block b (World.block_lt_of_cell? w _ h) hd)).trans h
theorem Own.touch {B lo hi : Nat} {w w' : World} {a : Option Addr} {cap : Nat} {ys : List Int} (h : Own B w a cap ys) (t : Touch lo hi w w') (hd : ∀ g, blk a = some g → g < lo ∨ hi ≤ g) : Own B w' a cap ys := by
  refine ⟨h.1, ?_⟩
  rcases h.2 with h' | ⟨g, c, cur, h1, h2, h3, h4⟩
  · exact .inl h'
  · refine .inr ⟨g, c, cur, h1, h2, ?_, h4⟩
    have ha : blk a = some g := by
      simp only [Value.slice.injEq] at h1
      rw [h1.1]; rfl
    rw [t.block g (lt_of_block h3) (hd g ha)]
    exact h3
theorem OZ.touch {lo hi lo' hi' : Nat} {w w' : World} {a : Option Addr} {n cap : Nat} {ys : List Int} (h : OZ lo hi w a n cap ys) (t : Touch lo' hi' w w') (hd : hi ≤ lo' ∨ hi' ≤ lo) : OZ lo hi w' a n cap ys := by
  rcases h.2 with h0 | ⟨ho, g, hbg, hl⟩
  · exact ⟨⟨h.1.1, h.1.2.1, .inl h0⟩, .inl h0⟩
  · have hlo : lo ≤ g := by
      rcases ho.shape with ⟨rfl, _, _⟩ | ⟨g', cur, rfl, hB, _⟩
      · cases hbg
      · cases hbg; exact hB
    have ho' := ho.touch t (fun g' hg' => by
      rw [hbg] at hg'
      cases hg'
      omega)
    refine ⟨?_, .inr ⟨ho', g, hbg, hl⟩⟩
    have := ho'.sl
    rwa [h.len] at this
theorem below_touch {B : Nat} {w w' w0 : World} {lo hi : Nat} (hb : Below B w0 w) (t : Touch lo hi w w') (h1 : B ≤ lo) (h2 : B ≤ w.heap.size) : Below B w0 w' :=
  hb.trans ⟨t.os, t.tape, t.output, t.size, fun k hk => t.block k (by omega) (.inl (by omega))⟩
theorem markZT (lo hi : Nat) (a : Option Addr) (n c : Nat) (ys : List Int) (k0 : Int) (w : World) (h1 : OZ lo hi w a n c ys) (hn : n ≤ 4000000) (hk0 : 0 ≤ k0) (hk1 : k0 ≤ 1000000000000) :
    Calls Try.prog 20 #[.slice a n c, .int .i64 k0] w fun e w' => e = .returned (.int .i64 (k0 + n)) ∧ OZ lo hi w' a n c (marks k0 n) ∧ Touch lo hi w w' :=
  (markZ lo hi a n c ys k0 w h1 hn hk0 hk1).mono fun e w' ⟨he, ho, row, gr, hr⟩ => ⟨he, ho, Touch.of gr hr⟩
theorem markMT (lo hi : Nat) (p : Int) (a : Option Addr) (n c : Nat) (ys : List Int) (k0 : Int) (w : World) (h1 : OZ lo hi w a n c ys) (hn : n ≤ 4000000) (hk0 : 0 ≤ k0) (hk1 : k0 ≤ 1000000000000) :
    Calls Try.prog 19 #[mom p a n c, .int .i64 k0] w fun e w' => e = .returned (.int .i64 (k0 + n)) ∧ OZ lo hi w' a n c (marks k0 n) ∧ Touch lo hi w w' :=
  (markM lo hi p a n c ys k0 w h1 hn hk0 hk1).mono fun e w' ⟨he, ho, row, gr, hr⟩ => ⟨he, ho, Touch.of gr hr⟩

/-- The piece of its zone in which a slice lies. -/
theorem OZ.fine {lo hi : Nat} {w : World} {a : Option Addr} {n cap : Nat} {ys : List Int} (h : OZ lo hi w a n cap ys) : (n = 0 ∧ OZ lo lo w a n cap ys) ∨ ∃ g, n ≠ 0 ∧ blk a = some g ∧ lo ≤ g ∧ g < hi ∧ OZ g (g + 1) w a n cap ys := by
  by_cases h0 : n = 0
  · exact .inl ⟨h0, h.1, .inl h0⟩
  · rcases h.2 with h' | ⟨ho, g, hbg, hl⟩
    · exact absurd h' h0
    · rcases ho.shape with ⟨rfl, _, _⟩ | ⟨g', cur, rfl, hB, hr⟩
      · cases hbg
      · cases hbg
        refine .inr ⟨g', h0, rfl, hB, hl, h.1, .inr ⟨?_, g', rfl, by omega⟩⟩
        refine ⟨ho.1, ?_⟩
        rcases ho.2 with h'' | ⟨g2, c2, cur2, e1, e2, e3⟩
        · cases h''.1
        · simp only [Value.slice.injEq, Option.some.injEq, Addr.mk.injEq, and_true, true_and] at e1
          obtain ⟨rfl, rfl⟩ := e1
          exact .inr ⟨g', cap, cur2, rfl, Nat.le_refl _, e3⟩
/-- Two slices of the call's own that share no memory. -/
def JZ (lo hi : Nat) (w : World) (a : Option Addr) (n c : Nat) (xs : List Int) (b : Option Addr) (m d : Nat) (ys : List Int) : Prop :=
  OZ lo hi w a n c xs ∧ OZ lo hi w b m d ys ∧ (n = 0 ∨ m = 0 ∨ blk a ≠ blk b)
section
variable {lo hi : Nat} {w w' : World} {a : Option Addr} {n c : Nat} {xs : List Int} {b : Option Addr} {m d : Nat} {ys : List Int}
theorem JZ.sl1 (h : JZ lo hi w a n c xs b m d ys) : SL w a n c xs := h.1.sl
theorem JZ.sl2 (h : JZ lo hi w a n c xs b m d ys) : SL w b m d ys := h.2.1.sl
theorem JZ.below (h : JZ lo hi w a n c xs b m d ys) (hb : Below w.heap.size w w') : JZ lo hi w' a n c xs b m d ys := ⟨h.1.below hb, h.2.1.below hb, h.2.2⟩
theorem JZ.mono {lo' hi' : Nat} (h : JZ lo hi w a n c xs b m d ys) (h1 : lo' ≤ lo) (h2 : hi ≤ hi') : JZ lo' hi' w a n c xs b m d ys := ⟨h.1.mono h1 h2, h.2.1.mono h1 h2, h.2.2⟩
theorem JZ.touch {lo' hi' : Nat} (h : JZ lo hi w a n c xs b m d ys) (t : Touch lo' hi' w w') (hd : hi ≤ lo' ∨ hi' ≤ lo) : JZ lo hi w' a n c xs b m d ys := ⟨h.1.touch t hd, h.2.1.touch t hd, h.2.2⟩
theorem JZ.fine (h : JZ lo hi w a n c xs b m d ys) (hlh : lo ≤ hi) : ∃ l1 h1 l2 h2, lo ≤ l1 ∧ h1 ≤ hi ∧ lo ≤ l2 ∧ h2 ≤ hi ∧ (h1 ≤ l2 ∨ h2 ≤ l1) ∧ OZ l1 h1 w a n c xs ∧ OZ l2 h2 w b m d ys := by
  rcases h.1.fine with ⟨e1, o1⟩ | ⟨g1, e1, k1, p1, q1, o1⟩ <;> rcases h.2.1.fine with ⟨e2, o2⟩ | ⟨g2, e2, k2, p2, q2, o2⟩
  · exact ⟨_, _, _, _, Nat.le_refl _, hlh, Nat.le_refl _, hlh, .inl (Nat.le_refl _), o1, o2⟩
  · exact ⟨_, _, _, _, Nat.le_refl _, hlh, p2, q2, .inl p2, o1, o2⟩
  · exact ⟨_, _, _, _, p1, q1, Nat.le_refl _, hlh, .inr p1, o1, o2⟩
  · have hne : g1 ≠ g2 := by
      rcases h.2.2 with h' | h' | h'
      · exact absurd h' e1
      · exact absurd h' e2
      · rw [k1, k2] at h'
        intro e
        exact h' (by rw [e])
    exact ⟨_, _, _, _, p1, q1, p2, q2, by omega, o1, o2⟩
theorem JZ.two {B mid : Nat} (h1 : OZ B mid w a n c xs) (h2 : OZ mid hi w b m d ys) (hB : B ≤ mid) (hm : mid ≤ hi) : JZ B hi w a n c xs b m d ys := by
  refine ⟨h1.mono (Nat.le_refl _) hm, h2.mono hB (Nat.le_refl _), ?_⟩
  rcases h1.fine with ⟨e1, _⟩ | ⟨g1, e1, k1, p1, q1, _⟩
  · exact .inl e1
  rcases h2.fine with ⟨e2, _⟩ | ⟨g2, e2, k2, p2, q2, _⟩
  · exact .inr (.inl e2)
  · refine .inr (.inr ?_)
    rw [k1, k2]
    intro e
    cases e
    omega
end
theorem cell_ne {w w' : World} {row : Option Nat} {b o : Nat} {v : Value} (hg : w.grownBy w' row) (h : w.cell? ⟨b, o, none⟩ = some v) (hne : row ≠ some b) : w'.cell? ⟨b, o, none⟩ = some v :=
  (World.cell?_of_block (w := w) (hg.block b (World.block_lt_of_cell? w _ h) (fun e => hne e.symm))).trans h
theorem frz_ne {w w' : World} {row : Option Nat} {b o : Nat} {v : Value} {x : Bool} (hg : w.grownBy w' row) (h : w.cell? ⟨b, o, none⟩ = some v) (hf : w.frozen? ⟨b, o, none⟩ = x) (hne : row ≠ some b) : w'.frozen? ⟨b, o, none⟩ = x :=
  (World.frozen?_of_block (w := w) (hg.block b (World.block_lt_of_cell? w _ h) (fun e => hne e.symm))).trans hf
theorem frz_al {w : World} {b o : Nat} {v : Value} {x : Bool} (h : w.cell? ⟨b, o, none⟩ = some v) (hf : w.frozen? ⟨b, o, none⟩ = x) (c : Obj) : (w.alloc c).frozen? ⟨b, o, none⟩ = x :=
  (World.frozen?_of_block (w := w) (Below.heap_alloc _ _ _ (World.block_lt_of_cell? w _ h))).trans hf
theorem tab_snoc (m : Nat) (h : Nat → Int) : tab m h ++ [h m] = tab (m + 1) h := by
  unfold tab
  rw [List.range_succ, List.map_append]; rfl
theorem cell_set2' {w : World} {b o o' : Nat} {v : Value} (h : w.cell? ⟨b, o, none⟩ = some v) (hne : o' ≠ o) (u : Value) : (w.setCell ⟨b, o', none⟩ u).cell? ⟨b, o, none⟩ = some v :=
  (World.cell?_setCell_other _ _ _ _ (fun e => hne (by simpa using congrArg Addr.off e))).trans h
theorem cell_set2 {w : World} {a b : Addr} {v : Value} (h : w.cell? b = some v) (hne : a.block ≠ b.block) (u : Value) : (w.setCell a u).cell? b = some v :=
  (World.cell?_setCell_other _ _ _ _ (fun e => hne (by rw [← e]))).trans h
/-- Data of a recurrence (or a rule) as a value. -/
abbrev jac (p : Int) (a : Option Addr) (n c : Nat) (b : Option Addr) (m d : Nat) : Value := .agg #[.int .i64 p, .slice a n c, .slice b m d]
theorem OZ.setLow {lo hi : Nat} {w : World} {a : Option Addr} {n c : Nat} {ys : List Int} (h : OZ lo hi w a n c ys) {x : Addr} (hx : x.block < lo) (u : Value) : OZ lo hi (w.setCell x u) a n c ys :=
  h.touch (lo' := x.block) (hi' := x.block + 1) ⟨rfl, rfl, rfl, by simp [World.setCell], fun k hk hd => Below.heap_setCell _ _ _ _ (by omega)⟩ (.inr (by omega))
theorem JZ.setLow {lo hi : Nat} {w : World} {a : Option Addr} {n c : Nat} {xs : List Int} {b : Option Addr} {m d : Nat} {ys : List Int} (h : JZ lo hi w a n c xs b m d ys) {x : Addr} (hx : x.block < lo) (u : Value) : JZ lo hi (w.setCell x u) a n c xs b m d ys :=
  ⟨h.1.setLow hx u, h.2.1.setLow hx u, h.2.2⟩
set_option maxRecDepth 100000 in
set_option maxHeartbeats 800000 in
theorem toJ (p : Int) (a : Option Addr) (n c : Nat) (xs : List Int) (b : Option Addr) (m d : Nat) (ys : List Int) (w : World) (hs : SL w a n c xs) (ht : SL w b m d ys) (hn : n ≤ 1048576) (hm : m ≤ 1048576) :
    Calls Try.prog 25 #[jac p a n c b m d] w fun e w' => ∃ a' b', e = .returned (jac p a' n n b' m m) ∧ JZ w.heap.size w'.heap.size w' a' n n xs b' m m ys ∧ Below w.heap.size w w' := by
  have hb0 := bl3 w (.cells #[.int .i64 p, .slice a n c, .slice b m d] 41) (.cells #[.int .i64 0, .slice none 0 0, .slice none 0 0] 45) (.cells #[.int .i64 p, .slice none 0 0, .slice none 0 0] 45)
  have hs3 := hs.below hb0
  have hz0 := hb0.size
  have ht3 := ht.below hb0
  go_enter Try.func25, Try.ntmps25
  go_wp2_with fail
  refine (toI _ _ _ _ _ hs3 hn).mono ?_
  rintro e w1 ⟨a', rfl, ho, hb1⟩
  have hz1 : w.heap.size + 2 < w1.heap.size := by have := hb1.size; simp at this; omega
  have hB1 := bnext hb0 hb1
  have f0 : w1.cell? ⟨w.heap.size, 0, none⟩ = some (.int .i64 p) := cell_be hb1 (by simp [go_sem])
  have f1 : w1.cell? ⟨w.heap.size, 1, none⟩ = some (.slice a n c) := cell_be hb1 (by simp [go_sem])
  have f2 : w1.cell? ⟨w.heap.size, 2, none⟩ = some (.slice b m d) := cell_be hb1 (by simp [go_sem])
  have r0 : w1.cell? ⟨w.heap.size + 1, 0, none⟩ = some (.int .i64 0) := cell_be hb1 (by simp [go_sem])
  have r1 : w1.cell? ⟨w.heap.size + 1, 1, none⟩ = some (.slice none 0 0) := cell_be hb1 (by simp [go_sem])
  have r2 : w1.cell? ⟨w.heap.size + 1, 2, none⟩ = some (.slice none 0 0) := cell_be hb1 (by simp [go_sem])
  have d0 : w1.cell? ⟨w.heap.size + 1 + 1, 0, none⟩ = some (.int .i64 p) := cell_be hb1 (by simp [go_sem])
  have d1 : w1.cell? ⟨w.heap.size + 1 + 1, 1, none⟩ = some (.slice none 0 0) := cell_be hb1 (by simp [go_sem])
  have d2 : w1.cell? ⟨w.heap.size + 1 + 1, 2, none⟩ = some (.slice none 0 0) := cell_be hb1 (by simp [go_sem])
  have y0 : w1.frozen? ⟨w.heap.size + 1, 0, none⟩ = false := (hb1.frozen (by simp)).trans (by simp [go_sem])
  have y1 : w1.frozen? ⟨w.heap.size + 1, 1, none⟩ = false := (hb1.frozen (by simp)).trans (by simp [go_sem])
  have y2 : w1.frozen? ⟨w.heap.size + 1, 2, none⟩ = false := (hb1.frozen (by simp)).trans (by simp [go_sem])
  have x1 : w1.frozen? ⟨w.heap.size + 1 + 1, 1, none⟩ = false := (hb1.frozen (by simp)).trans (by simp [go_sem])
  have x2 : w1.frozen? ⟨w.heap.size + 1 + 1, 2, none⟩ = false := (hb1.frozen (by simp)).trans (by simp [go_sem])
  go_wp2_with fail
  refine (toI _ _ _ _ _ (ht.below (hB1.setCell (p := ⟨w.heap.size + 1 + 1, 1, none⟩) (by simp; omega) (.slice a' n n))) hm).mono ?_
  rintro e w2 ⟨b', rfl, ho2, hb2⟩
  have hz2 := hb2.size
  simp at hz2
  have hB2 := (hB1.setCell (p := ⟨w.heap.size + 1 + 1, 1, none⟩) (by simp; omega) (.slice a' n n)).trans (hb2.mono (by simp; omega))
  have o1 := (OZ.of ho hs.len.symm).setLow (x := ⟨w.heap.size + 1 + 1, 1, none⟩) (by simp) (.slice a' n n)
  have o2 := OZ.of ho2 ht.len.symm
  replace o1 := o1.below hb2
  simp at o2
  replace r0 : w2.cell? ⟨w.heap.size + 1, 0, none⟩ = some (.int .i64 0) := cell_be hb2 (by simp [go_sem, r0])
  replace r1 : w2.cell? ⟨w.heap.size + 1, 1, none⟩ = some (.slice none 0 0) := cell_be hb2 (by simp [go_sem, r1])
  replace r2 : w2.cell? ⟨w.heap.size + 1, 2, none⟩ = some (.slice none 0 0) := cell_be hb2 (by simp [go_sem, r2])
  replace d0 : w2.cell? ⟨w.heap.size + 1 + 1, 0, none⟩ = some (.int .i64 p) := cell_be hb2 (by simp [go_sem, d0])
  replace d1 : w2.cell? ⟨w.heap.size + 1 + 1, 1, none⟩ = some (.slice a' n n) := cell_be hb2 (World.cell?_setCell_same _ _ _ d1)
  replace d2 : w2.cell? ⟨w.heap.size + 1 + 1, 2, none⟩ = some (.slice none 0 0) := cell_be hb2 (by simp [go_sem, d2])
  replace y0 : w2.frozen? ⟨w.heap.size + 1, 0, none⟩ = false := (hb2.frozen (by simp; omega)).trans (by simpa using y0)
  replace y1 : w2.frozen? ⟨w.heap.size + 1, 1, none⟩ = false := (hb2.frozen (by simp; omega)).trans (by simpa using y1)
  replace y2 : w2.frozen? ⟨w.heap.size + 1, 2, none⟩ = false := (hb2.frozen (by simp; omega)).trans (by simpa using y2)
  replace x2 : w2.frozen? ⟨w.heap.size + 1 + 1, 2, none⟩ = false := (hb2.frozen (by simp; omega)).trans (by simpa using x2)
  clear ho ho2 hb0 hb1 hb2 hs hs3 ht ht3 f0 f1 f2 x1
  go_wp2
  refine bodyPost_ret (v := jac p a' n n b' m m) (by simp [results, Try.results25, go_sem, r0, r1, r2]) rfl ⟨a', b', rfl, ?_, ?_⟩
  · have q1 := (((o1.setLow (x := ⟨w.heap.size + 1 + 1, 2, none⟩) (by simp) (.slice b' m m)).setLow (x := ⟨w.heap.size + 1, 0, none⟩) (by simp) (.int .i64 p)).setLow (x := ⟨w.heap.size + 1, 1, none⟩) (by simp) (.slice a' n n)).setLow (x := ⟨w.heap.size + 1, 2, none⟩) (by simp) (.slice b' m m)
    have q2 := (((o2.setLow (x := ⟨w.heap.size + 1 + 1, 2, none⟩) (by simp; omega) (.slice b' m m)).setLow (x := ⟨w.heap.size + 1, 0, none⟩) (by simp; omega) (.int .i64 p)).setLow (x := ⟨w.heap.size + 1, 1, none⟩) (by simp; omega) (.slice a' n n)).setLow (x := ⟨w.heap.size + 1, 2, none⟩) (by simp; omega) (.slice b' m m)
    simp at q1
    have := (JZ.two q1 q2 (by omega) hz2).mono (lo' := w.heap.size) (by omega) (Nat.le_refl _)
    simpa using this
  · exact (((hB2.setCell (by simp; omega) _).setCell (by simp) _).setCell (by simp) _).setCell (by simp) _
set_option maxRecDepth 100000 in
set_option maxHeartbeats 800000 in
theorem szJ (p : Int) (a : Option Addr) (n c : Nat) (b : Option Addr) (m d : Nat) (k : Int) (w : World) (hk0 : 0 ≤ k) (hk1 : k ≤ 4000000) (hn : n ≤ 4000000) (hm : m ≤ 4000000) (h : (n : Int) + m ≤ k) :
    Calls Try.prog 23 #[jac p a n c b m d, .int .i64 k] w fun e w' => e = .returned (.int .i64 (k - n - m)) ∧ Below w.heap.size w w' := by
  have H : Hid ((if k < (n : Int) then (-1 : Int) else k - n) = k - n) := Lib.hid (if_neg (by omega))
  have H2 : Hid ((if k - (n : Int) < (m : Int) then (-1 : Int) else k - n - m) = k - n - m) := Lib.hid (if_neg (by omega))
  go_enter Try.func23, Try.ntmps23
  go_wp2_with fail
  refine (szI _ _ _ _ _ hn hk0 hk1).mono ?_
  rintro e w1 ⟨rfl, rfl⟩
  rw [H.out]
  go_wp2_with fail
  refine (szI _ _ _ _ _ hm (by omega) (by omega)).mono ?_
  rintro e w1 ⟨rfl, rfl⟩
  rw [H2.out]
  go_wp2
  go_ret
  exact ⟨rfl, bl1 _ _⟩
set_option maxRecDepth 100000 in
set_option maxHeartbeats 800000 in
theorem szJ_no (p : Int) (a : Option Addr) (n c : Nat) (b : Option Addr) (m d : Nat) (k : Int) (w : World) (hn : n ≤ 9223372036854775807) (hm : m ≤ 9223372036854775807) (hk0 : 0 ≤ k) (hk1 : k ≤ 4000000) (h : k < (n : Int) + m) :
    Calls Try.prog 23 #[jac p a n c b m d, .int .i64 k] w fun e w' => e = .returned (.int .i64 (-1)) ∧ Below w.heap.size w w' := by
  by_cases h1 : k < (n : Int)
  · go_enter Try.func23, Try.ntmps23
    go_wp2_with (first | go_in)
    go_ret
    exact ⟨rfl, bl1 _ _⟩
  · have H : Hid ((if k < (n : Int) then (-1 : Int) else k - n) = k - n) := Lib.hid (if_neg h1)
    go_enter Try.func23, Try.ntmps23
    go_wp2_with fail
    refine (szI _ _ _ _ _ (by omega) hk0 hk1).mono ?_
    rintro e w1 ⟨rfl, rfl⟩
    rw [H.out]
    go_wp2_with (first | go_in)
    go_ret
    exact ⟨rfl, bl1 _ _⟩
set_option maxRecDepth 100000 in
set_option maxHeartbeats 800000 in
theorem eqJ (p : Int) (a a' : Option Addr) (n c c' : Nat) (xs : List Int) (b b' : Option Addr) (m d d' : Nat) (ys : List Int) (w : World) (h1 : SL w a n c xs) (h2 : SL w a' n c' xs) (h3 : SL w b m d ys) (h4 : SL w b' m d' ys) (hn : n ≤ 4000000) (hm : m ≤ 4000000) :
    Calls Try.prog 27 #[jac p a n c b m d, jac p a' n c' b' m d'] w fun e w' => e = .returned (.bool true) ∧ Below w.heap.size w w' := by
  have hb0 := bl2 w (.cells #[.int .i64 p, .slice a n c, .slice b m d] 45) (.cells #[.int .i64 p, .slice a' n c', .slice b' m d'] 45)
  have g1 := h1.below hb0
  have g2 := h2.below hb0
  go_enter Try.func27, Try.ntmps27
  go_wp2_with fail
  refine (eqI _ _ _ _ _ _ _ g1 g2 hn).mono ?_
  rintro e w1 ⟨rfl, hb1⟩
  obtain ⟨hc1, hf1⟩ := bcell hb1
  have hB1 := bnext hb0 hb1
  have g3 := h3.below hB1
  have g4 := h4.below hB1
  go_wp2_with fail
  refine (eqI _ _ _ _ _ _ _ g3 g4 hm).mono ?_
  rintro e w2 ⟨rfl, hb2⟩
  go_wp2
  go_ret
  exact ⟨rfl, bnext hB1 hb2⟩
set_option maxRecDepth 100000 in
set_option maxHeartbeats 800000 in
theorem markJ (lo hi : Nat) (p : Int) (a : Option Addr) (n c : Nat) (xs : List Int) (b : Option Addr) (m d : Nat) (ys : List Int) (k0 : Int) (w : World) (h : JZ lo hi w a n c xs b m d ys) (hlh : lo ≤ hi) (hhi : hi ≤ w.heap.size) (hn : n ≤ 4000000) (hm : m ≤ 4000000) (hk0 : 0 ≤ k0) (hk1 : k0 ≤ 100000000000) :
    Calls Try.prog 31 #[jac p a n c b m d, .int .i64 k0] w fun e w' => e = .returned (.int .i64 (k0 + n + m)) ∧ JZ lo hi w' a n c (marks k0 n) b m d (marks (k0 + n) m) ∧ Touch lo hi w w' := by
  have hdis := h.2.2
  obtain ⟨l1, h1, l2, h2, z1, z2, z3, z4, z5, o1, o2⟩ := h.fine hlh
  have hb0 := bl1 w (.cells #[.int .i64 p, .slice a n c, .slice b m d] 45)
  replace o1 := o1.below hb0
  replace o2 := o2.below hb0
  go_enter Try.func31, Try.ntmps31
  go_wp2_with fail
  refine (markZT _ _ _ _ _ _ _ _ o1 hn hk0 (by omega)).mono ?_
  rintro e w1 ⟨rfl, o1', t1⟩
  have c0 : w1.cell? ⟨w.heap.size, 0, none⟩ = some (.int .i64 p) := t1.cell (by simp [go_sem]) (.inr (by omega))
  have c1 : w1.cell? ⟨w.heap.size, 1, none⟩ = some (.slice a n c) := t1.cell (by simp [go_sem]) (.inr (by omega))
  have c2 : w1.cell? ⟨w.heap.size, 2, none⟩ = some (.slice b m d) := t1.cell (by simp [go_sem]) (.inr (by omega))
  have o2' := o2.touch t1 z5.symm
  clear o1 o2
  go_wp2_with fail
  refine (markZT _ _ _ _ _ _ _ _ o2' hm (by omega) (by omega)).mono ?_
  rintro e w2 ⟨rfl, o2'', t2⟩
  have o1'' := o1'.touch t2 z5
  go_wp2
  go_ret
  exact ⟨rfl, ⟨o1''.mono z1 z2, o2''.mono z3 z4, hdis⟩, (Touch.alloc lo hi w _).trans ((t1.mono z1 z2).trans (t2.mono z3 z4))⟩
end Go.Proofs.Ytcadiepghhnbeaa
/- Contracts: slices.Index, slices.Contains; l03Is, IsJacobi (program and model), l03Code, checkJacobi. -/
namespace Go.Proofs.Ytcadiepghhnbeaa
open Go.RowKit
set_option linter.unusedVariables false
set_option linter.unusedSimpArgs false

def okP (p x : Int) : Bool := decide (1 ≤ x ∧ x < p)
def posB (p : Int) (xs : List Int) : Bool := xs.all (okP p)
def hasB (v : Int) (xs : List Int) : Bool := xs.any (v == ·)
theorem posB_snoc (p : Int) (xs : List Int) (k : Nat) (h : k < xs.length) : posB p (xs.take (k + 1)) = (posB p (xs.take k) && okP p (xs.getD k 0)) := by
  rw [take_snocI xs k h]
  simp [posB]
theorem posB_false (p : Int) (xs : List Int) (k : Nat) (h : k < xs.length) (hx : okP p (xs.getD k 0) = false) : posB p xs = false := by
  unfold posB
  rw [Bool.eq_false_iff]
  intro hall
  rw [List.all_eq_true] at hall
  have := hall (xs.getD k 0) (by simp [h])
  rw [hx] at this
  cases this
theorem posB_at {p : Int} {xs : List Int} (h : posB p xs = true) (k : Nat) (hk : k < xs.length) : 1 ≤ xs.getD k 0 ∧ xs.getD k 0 < p := by
  unfold posB at h
  rw [List.all_eq_true] at h
  have := h (xs.getD k 0) (by simp [hk])
  simpa [okP] using this
theorem posB_eq (p : Int) (xs : List Int) : posB p xs = (areB p xs && !hasB 0 xs) := by
  induction xs with
  | nil => rfl
  | cons x l ih =>
    have e : posB p (x :: l) = (okP p x && posB p l) := rfl
    have e2 : areB p (x :: l) = (okN p x && areB p l) := rfl
    have e3 : hasB 0 (x :: l) = ((0 == x) || hasB 0 l) := rfl
    rw [e, e2, e3, ih]
    by_cases h0 : x = 0
    · subst h0; simp [okP]
    · have : okP p x = okN p x := by unfold okP okN; congr 1; apply propext; omega
      rw [this]
      have h1 : ((0 : Int) == x) = false := by simpa using fun h => h0 h.symm
      rw [h1]
      cases okN p x <;> cases areB p l <;> cases hasB 0 l <;> rfl
theorem hasB_snoc (v : Int) (xs : List Int) (k : Nat) (h : k < xs.length) : hasB v (xs.take (k + 1)) = (hasB v (xs.take k) || v == xs.getD k 0) := by
  rw [take_snocI xs k h]
  simp [hasB]
theorem hasB_true (v : Int) (xs : List Int) (k : Nat) (h : k < xs.length) (hx : v = xs.getD k 0) : hasB v xs = true := by
  unfold hasB
  rw [List.any_eq_true]
  exact ⟨xs.getD k 0, by simp [h], by simpa using hx⟩
def jacB (p : Int) (xs ys : List Int) : Bool := primeB p && decide (1 ≤ xs.length) && decide (xs.length ≤ 12) && decide (ys.length = xs.length) && areB p xs && posB p ys
theorem jacB_rng {p : Int} {xs ys : List Int} (h : jacB p xs ys = true) : primeB p = true ∧ 1 ≤ xs.length ∧ xs.length ≤ 12 ∧ ys.length = xs.length ∧ areB p xs = true ∧ posB p ys = true := by
  unfold jacB at h
  simp only [Bool.and_eq_true, decide_eq_true_eq] at h
  exact ⟨h.1.1.1.1.1, h.1.1.1.1.2, h.1.1.1.2, h.1.1.2, h.1.2, h.2⟩
theorem posB_are {p : Int} {xs : List Int} (h : posB p xs = true) : areB p xs = true := by
  rw [posB_eq] at h
  simp only [Bool.and_eq_true] at h
  exact h.1
set_option maxRecDepth 100000 in
set_option maxHeartbeats 800000 in
theorem index_any (a : Option Addr) (n c : Nat) (xs : List Int) (v : Int) (w : World) (hs : SL w a n c xs) (hn : n ≤ 4000000) :
    Calls Try.prog 102 #[.slice a n c, .int .i64 v] w fun e w' => (∃ r : Int, e = .returned (.int .i64 r) ∧ (decide (0 ≤ r) = hasB v xs)) ∧ w = w' := by
  have hl := hide hs.len
  by_cases h0 : n = 0
  · subst h0
    obtain rfl := hs.empty
    go_enter Try.func102, Try.ntmps102
    go_wp2
    refine wp_loop_rounds 1 ?_
    rw [rounds_succ]
    go_wp2
    go_ret
    exact ⟨⟨_, rfl, by simp [hasB]⟩, rfl⟩
  obtain ⟨b, off, rfl, hbw, hcell⟩ := hs.at (by omega)
  clear hs
  go_enter Try.func102, Try.ntmps102
  go_wp2
  go_loop [8] (fun i => ∃ k : Nat, k ≤ n ∧ i = .int .i64 k ∧ Hid (hasB v (xs.take k) = false)) (fun i => n - (intOf i).toNat)
  case atStart => exact ⟨0, by omega, rfl, by simp [Hid, hasB]⟩
  case round =>
    obtain ⟨k, hk, rfl, hR⟩ := hrel
    by_cases hlt : k < n
    · have e1 := hcell k hlt
      have hsn := Lib.hid (hasB_snoc v xs k (by rw [hl.out]; exact hlt))
      have hT := fun h => Lib.hid (hasB_true v xs k (by rw [hl.out]; exact hlt) h)
      obtain ⟨x, hx⟩ : ∃ x, x = xs.getD k 0 := ⟨_, rfl⟩
      rw [← hx] at e1
      have Hx := Lib.hid hx
      clear hx hcell
      by_cases hok : v = x
      · have hF := hT (by rw [hok, Hx.out])
        have ob : (v == x) = true := by simpa using hok
        clear hT hok
        go_wp2
        go_ret
        exact ⟨⟨_, rfl, by rw [hF.out]; simp⟩, rfl⟩
      · have ob : (v == x) = false := by simpa using hok
        have hF : Hid (hasB v (xs.take (k + 1)) = false) := hide (by rw [hsn.out, hR.out, ← Hx.out, ob]; rfl)
        clear hT hok hsn
        go_wp2
        go_round
        case rel => exact ⟨k + 1, by omega, by go_num, hF⟩
        case measure => simp [intOf]; omega
    · obtain rfl : k = n := by omega
      have hF : Hid (hasB v xs = false) := hide (by have := hR.out; rwa [List.take_of_length_le (by rw [hl.out]; omega)] at this)
      go_wp2
      go_ret
      exact ⟨⟨_, rfl, by rw [hF.out]; simp⟩, rfl⟩
set_option maxHeartbeats 800000 in
theorem contains_any (a : Option Addr) (n c : Nat) (xs : List Int) (v : Int) (w : World) (hs : SL w a n c xs) (hn : n ≤ 4000000) :
    Calls Try.prog 87 #[.slice a n c, .int .i64 v] w fun e w' => e = .returned (.bool (hasB v xs)) ∧ w = w' := by
  go_enter Try.func87, Try.ntmps87
  go_wp2_with fail
  refine (index_any _ _ _ _ _ _ hs hn).mono ?_
  rintro e w1 ⟨⟨r, rfl, hr⟩, rfl⟩
  have Hr := hide hr
  clear hr
  go_wp2
  go_ret
  exact ⟨ret_bool (by rw [← Hr.out]), rfl⟩
set_option maxRecDepth 100000 in
set_option maxHeartbeats 1600000 in
theorem l03Is_any (p : Int) (a : Option Addr) (n c : Nat) (xs : List Int) (b : Option Addr) (m d : Nat) (ys : List Int) (w : World) (hs : SL w a n c xs) (ht : SL w b m d ys) (hn : n ≤ 4000000) (hm : m ≤ 4000000) :
    Calls Try.prog 63 #[jac p a n c b m d] w fun e w' => e = .returned (.bool (jacB p xs ys)) ∧ Below w.heap.size w w' := by
  have hl := hide hs.len
  have ht2 := hide ht.len
  have hb0 := bl1 w (.cells #[.int .i64 p, .slice a n c, .slice b m d] 45)
  have g1 := hs.below hb0
  have g2 := ht.below hb0
  cases hp : primeB p
  · have H : Hid (jacB p xs ys = false) := hide (by simp [jacB, hp])
    have Hp := hide hp
    clear hp
    go_enter Try.func63, Try.ntmps63
    go_wp2_with fail
    refine (l01Prime_any _ _).mono ?_
    rintro e w1 ⟨rfl, rfl⟩
    rw [Hp.out]
    go_wp2
    go_ret
    exact ⟨ret_bool H.out.symm, hb0⟩
  have Hp := hide hp
  obtain ⟨hp1, hp2⟩ := primeB_lo hp
  clear hp
  by_cases hbad : (n : Int) < 1 ∨ 12 < (n : Int) ∨ (m : Int) ≠ (n : Int)
  · have H : Hid (jacB p xs ys = false) := hide (by
      cases hj : jacB p xs ys
      · rfl
      · have := jacB_rng hj
        rw [hl.out, ht2.out] at this
        omega)
    by_cases h1 : (n : Int) < 1
    · go_enter Try.func63, Try.ntmps63
      go_wp2_with fail
      refine (l01Prime_any _ _).mono ?_
      rintro e w1 ⟨rfl, rfl⟩
      rw [Hp.out]
      go_wp2
      go_ret
      exact ⟨ret_bool H.out.symm, hb0⟩
    · by_cases h2 : 12 < (n : Int)
      · go_enter Try.func63, Try.ntmps63
        go_wp2_with fail
        refine (l01Prime_any _ _).mono ?_
        rintro e w1 ⟨rfl, rfl⟩
        rw [Hp.out]
        go_wp2
        go_ret
        exact ⟨ret_bool H.out.symm, hb0⟩
      · have ob : ((m : Int) != (n : Int)) = true := by simp; omega
        go_enter Try.func63, Try.ntmps63
        go_wp2_with fail
        refine (l01Prime_any _ _).mono ?_
        rintro e w1 ⟨rfl, rfl⟩
        rw [Hp.out]
        go_wp2
        go_ret
        exact ⟨ret_bool H.out.symm, hb0⟩
  · obtain ⟨h1, h2, h3⟩ : ¬ (n : Int) < 1 ∧ ¬ 12 < (n : Int) ∧ m = n := by omega
    clear hbad
    subst h3
    have H : Hid (jacB p xs ys = (areB p xs && posB p ys)) := hide (by
      unfold jacB
      rw [Hp.out, hl.out, ht2.out]
      simp [show 1 ≤ m by omega, show m ≤ 12 by omega])
    obtain ⟨b1, o1, rfl, hbw1, hc1⟩ := g1.at (by omega)
    obtain ⟨b2, o2, rfl, hbw2, hc2⟩ := g2.at (by omega)
    clear hs ht g1 g2
    go_enter Try.func63, Try.ntmps63
    go_wp2_with fail
    refine (l01Prime_any _ _).mono ?_
    rintro e w1 ⟨rfl, rfl⟩
    rw [Hp.out]
    go_wp2
    go_loopw [3] (fun i wr => ∃ k : Nat, k ≤ m ∧ i = .int .i64 k ∧ Hid (areB p (xs.take k) = true) ∧ Hid (posB p (ys.take k) = true) ∧ Below (w.heap.size + 1) (w.alloc (.cells #[.int .i64 p, .slice (some ⟨b1, o1, none⟩) m c, .slice (some ⟨b2, o2, none⟩) m d] 45)) wr) (fun i _ => m - (intOf i).toNat)
    case atStart => exact ⟨0, by omega, rfl, by simp [Hid, areB], by simp [Hid, posB], Below.refl _ _⟩
    case round =>
      obtain ⟨k, hk, rfl, hR, hS, hbr⟩ := hrel
      have f0 : wr.cell? ⟨w.heap.size, 0, none⟩ = some (.int .i64 p) := (hbr.cell (by simp)).trans (by simp [go_sem])
      have f1 : wr.cell? ⟨w.heap.size, 1, none⟩ = some (.slice (some ⟨b1, o1, none⟩) m c) := (hbr.cell (by simp)).trans (by simp [go_sem])
      have f2 : wr.cell? ⟨w.heap.size, 2, none⟩ = some (.slice (some ⟨b2, o2, none⟩) m d) := (hbr.cell (by simp)).trans (by simp [go_sem])
      have hB := hb0.trans (hbr.mono (Nat.le_succ _))
      by_cases hlt : k < m
      · have e1 : wr.cell? ⟨b1, o1 + k, none⟩ = some (.int .i64 (xs.getD k 0)) := (hbr.cell (by simpa using hbw1)).trans (hc1 k hlt)
        have e2 : wr.cell? ⟨b2, o2 + k, none⟩ = some (.int .i64 (ys.getD k 0)) := (hbr.cell (by simpa using hbw2)).trans (hc2 k hlt)
        have s1 := Lib.hid (areB_snoc p xs k (by rw [hl.out]; exact hlt))
        have s2 := Lib.hid (posB_snoc p ys k (by rw [ht2.out]; exact hlt))
        have x1 := fun h => Lib.hid (areB_false p xs k (by rw [hl.out]; exact hlt) h)
        have x2 := fun h => Lib.hid (posB_false p ys k (by rw [ht2.out]; exact hlt) h)
        obtain ⟨x, hx⟩ : ∃ x, xs.getD k 0 = x := ⟨_, rfl⟩
        obtain ⟨y, hy⟩ : ∃ y, ys.getD k 0 = y := ⟨_, rfl⟩
        rw [hx] at e1 s1 x1
        rw [hy] at e2 s2 x2
        clear hx hy hc1 hc2
        have hlt' : (k : Int) < (m : Int) := by omega
        by_cases hx : 0 ≤ x ∧ x ≤ p - 1
        · by_cases hy : 1 ≤ y ∧ y ≤ p - 1
          · have n1 : Hid (areB p (xs.take (k + 1)) = true) := hide (by rw [s1.out, hR.out]; simp [okN]; omega)
            have n2 : Hid (posB p (ys.take (k + 1)) = true) := hide (by rw [s2.out, hS.out]; simp [okP]; omega)
            have hbx := hide hx
            have hby := hide hy
            clear x1 x2 hx hy
            go_wp2
            go_quiet (first
              | (go_at_call 72; refine Calls.quiet_of_same (still_of (l01In_yes _ _ _ _ hbx.out.1 hbx.out.2)))
              | (go_at_call 72; refine Calls.quiet_of_same (still_of (l01In_yes _ _ _ _ hby.out.1 hby.out.2))))
            go_wp2
            go_roundw
            case rel => exact ⟨k + 1, by omega, by go_num, n1, n2, below_drewN hbr _⟩
            case measure => simp [intOf]; omega
          · have hF : Hid (jacB p xs ys = false) := hide (by rw [H.out, (x2 (by simp [okP]; omega)).out]; simp)
            have hbx := hide hx
            have hby := hide hy
            clear x1 x2 hx hy
            go_wp2
            go_quiet (first
              | (go_at_call 72; refine Calls.quiet_of_same (still_of (l01In_yes _ _ _ _ hbx.out.1 hbx.out.2)))
              | (go_at_call 72; refine Calls.quiet_of_same (still_of (l01In_no _ _ _ _ hby.out))))
            go_wp2
            go_ret
            exact ⟨ret_bool hF.out.symm, below_drewN hB _⟩
        · have hF : Hid (jacB p xs ys = false) := hide (by rw [H.out, (x1 (by simp [okN]; omega)).out]; simp)
          have hbx := hide hx
          clear x1 x2 hx
          go_wp2
          go_quiet (first
            | (go_at_call 72; refine Calls.quiet_of_same (still_of (l01In_no _ _ _ _ hbx.out))))
          go_wp2
          go_ret
          exact ⟨ret_bool hF.out.symm, below_drewN hB _⟩
      · obtain rfl : k = m := by omega
        have hF : Hid (jacB p xs ys = true) := hide (by
          have h1 := hR.out
          have h2 := hS.out
          rw [List.take_of_length_le (by rw [hl.out]; omega)] at h1
          rw [List.take_of_length_le (by rw [ht2.out]; omega)] at h2
          rw [H.out, h1, h2]; rfl)
        go_wp2
        go_ret
        exact ⟨ret_bool hF.out.symm, hB⟩
set_option maxRecDepth 100000 in
set_option maxHeartbeats 1600000 in
theorem implIsJacobi (p : Int) (a : Option Addr) (n c : Nat) (xs : List Int) (b : Option Addr) (m d : Nat) (ys : List Int) (w : World) (hs : SL w a n c xs) (ht : SL w b m d ys) (hn : n ≤ 4000000) (hm : m ≤ 4000000) :
    Calls Try.prog 64 #[jac p a n c b m d] w fun e w' => e = .returned (.bool (jacB p xs ys)) ∧ Below w.heap.size w w' := by
  have hl := hide hs.len
  have ht2 := hide ht.len
  have hb0 := bl1 w (.cells #[.int .i64 p, .slice a n c, .slice b m d] 45)
  have g1 := hs.below hb0
  have g2 := ht.below hb0
  cases hp : primeB p
  · have H : Hid (jacB p xs ys = false) := hide (by simp [jacB, hp])
    have Hp := hide hp
    clear hp
    go_enter Try.func64, Try.ntmps64
    go_wp2_with fail
    refine (isPrime_any _ _).mono ?_
    rintro e w1 ⟨rfl, rfl⟩
    rw [Hp.out]
    go_wp2
    go_ret
    exact ⟨ret_bool H.out.symm, hb0⟩
  have Hp := hide hp
  obtain ⟨hp1, hp2⟩ := primeB_lo hp
  clear hp
  by_cases hbad : (n : Int) < 1 ∨ 12 < (n : Int) ∨ (m : Int) ≠ (n : Int)
  · have H : Hid (jacB p xs ys = false) := hide (by
      cases hj : jacB p xs ys
      · rfl
      · have := jacB_rng hj
        rw [hl.out, ht2.out] at this
        omega)
    by_cases h1 : (n : Int) < 1
    · go_enter Try.func64, Try.ntmps64
      go_wp2_with fail
      refine (isPrime_any _ _).mono ?_
      rintro e w1 ⟨rfl, rfl⟩
      rw [Hp.out]
      go_wp2
      go_ret
      exact ⟨ret_bool H.out.symm, hb0⟩
    · by_cases h2 : 12 < (n : Int)
      · go_enter Try.func64, Try.ntmps64
        go_wp2_with fail
        refine (isPrime_any _ _).mono ?_
        rintro e w1 ⟨rfl, rfl⟩
        rw [Hp.out]
        go_wp2
        go_ret
        exact ⟨ret_bool H.out.symm, hb0⟩
      · have ob : ((m : Int) != (n : Int)) = true := by simp; omega
        go_enter Try.func64, Try.ntmps64
        go_wp2_with fail
        refine (isPrime_any _ _).mono ?_
        rintro e w1 ⟨rfl, rfl⟩
        rw [Hp.out]
        go_wp2
        go_ret
        exact ⟨ret_bool H.out.symm, hb0⟩
  · obtain ⟨h1, h2, h3⟩ : ¬ (n : Int) < 1 ∧ ¬ 12 < (n : Int) ∧ m = n := by omega
    clear hbad
    subst h3
    have H : Hid (jacB p xs ys = (areB p xs && areB p ys && !hasB 0 ys)) := hide (by
      unfold jacB
      rw [Hp.out, hl.out, ht2.out, posB_eq]
      simp [show 1 ≤ m by omega, show m ≤ 12 by omega, Bool.and_assoc])
    cases hx : areB p xs
    · have F := hide (show jacB p xs ys = false by rw [H.out, hx]; rfl)
      have Hx := hide hx
      clear hx
      go_enter Try.func64, Try.ntmps64
      go_wp2_with fail
      refine (isPrime_any _ _).mono ?_
      rintro e w1 ⟨rfl, rfl⟩
      rw [Hp.out]
      go_wp2_with fail
      refine (areNumbers_any _ _ _ _ _ _ g1 hn).mono ?_
      rintro e w1 ⟨rfl, rfl⟩
      rw [Hx.out]
      go_wp2
      go_ret
      exact ⟨ret_bool F.out.symm, hb0⟩
    cases hy : areB p ys
    · have F := hide (show jacB p xs ys = false by rw [H.out, hx, hy]; rfl)
      have Hx := hide hx
      have Hy := hide hy
      clear hx hy
      go_enter Try.func64, Try.ntmps64
      go_wp2_with fail
      refine (isPrime_any _ _).mono ?_
      rintro e w1 ⟨rfl, rfl⟩
      rw [Hp.out]
      go_wp2_with fail
      refine (areNumbers_any _ _ _ _ _ _ g1 hn).mono ?_
      rintro e w1 ⟨rfl, rfl⟩
      rw [Hx.out]
      go_wp2_with fail
      refine (areNumbers_any _ _ _ _ _ _ g2 hn).mono ?_
      rintro e w1 ⟨rfl, rfl⟩
      rw [Hy.out]
      go_wp2
      go_ret
      exact ⟨ret_bool F.out.symm, hb0⟩
    · have F := hide (show jacB p xs ys = !hasB 0 ys by rw [H.out, hx, hy]; rfl)
      have Hx := hide hx
      have Hy := hide hy
      clear hx hy
      go_enter Try.func64, Try.ntmps64
      go_wp2_with fail
      refine (isPrime_any _ _).mono ?_
      rintro e w1 ⟨rfl, rfl⟩
      rw [Hp.out]
      go_wp2_with fail
      refine (areNumbers_any _ _ _ _ _ _ g1 hn).mono ?_
      rintro e w1 ⟨rfl, rfl⟩
      rw [Hx.out]
      go_wp2_with fail
      refine (areNumbers_any _ _ _ _ _ _ g2 hn).mono ?_
      rintro e w1 ⟨rfl, rfl⟩
      rw [Hy.out]
      go_wp2_with fail
      refine (contains_any _ _ _ _ _ _ g2 hn).mono ?_
      rintro e w1 ⟨rfl, rfl⟩
      go_wp2
      go_ret
      exact ⟨ret_bool F.out.symm, hb0⟩
/-- The code for data and a number in lo..hi. -/
def jcd (p : Int) (xs ys : List Int) (k lo hi : Int) : Int := if jacB p xs ys then (if lo ≤ k ∧ k ≤ hi then 0 else 2) else 1
theorem jcd_cases (p : Int) (xs ys : List Int) (k lo hi : Int) : jcd p xs ys k lo hi = 1 ∨ jcd p xs ys k lo hi = 2 ∨ (jcd p xs ys k lo hi = 0 ∧ jacB p xs ys = true ∧ lo ≤ k ∧ k ≤ hi) := by
  unfold jcd
  cases jacB p xs ys
  · exact .inl rfl
  · by_cases h : lo ≤ k ∧ k ≤ hi
    · exact .inr (.inr ⟨by simp [h], rfl, h⟩)
    · exact .inr (.inl (by simp only [if_true]; rw [if_neg h]))
set_option maxRecDepth 100000 in
set_option maxHeartbeats 800000 in
theorem checkJacobi_any (p : Int) (a : Option Addr) (n c : Nat) (xs : List Int) (b : Option Addr) (m d : Nat) (ys : List Int) (k lo hi C : Int) (w : World) (hs : SL w a n c xs) (ht : SL w b m d ys) (hn : n ≤ 4000000) (hm : m ≤ 4000000) (hC : jcd p xs ys k lo hi = C) :
    Calls Try.prog 59 #[jac p a n c b m d, .int .i64 k, .int .i64 lo, .int .i64 hi] w fun e w' => e = .returned (.int .i64 C) ∧ Below w.heap.size w w' := by
  subst hC
  have hb0 := bl1 w (.cells #[.int .i64 p, .slice a n c, .slice b m d] 45)
  have g1 := hs.below hb0
  have g2 := ht.below hb0
  cases hj : jacB p xs ys
  · have H : Hid (jcd p xs ys k lo hi = 1) := hide (by simp [jcd, hj])
    have Hj := hide hj
    clear hj
    go_enter Try.func59, Try.ntmps59
    go_wp2_with fail
    refine (implIsJacobi _ _ _ _ _ _ _ _ _ _ g1 g2 hn hm).mono ?_
    rintro e w1 ⟨rfl, hb1⟩
    rw [Hj.out]
    go_wp2
    go_ret
    exact ⟨ret_int H.out.symm, bnext hb0 hb1⟩
  · have Hj := hide hj
    by_cases h1 : k < lo
    · have H : Hid (jcd p xs ys k lo hi = 2) := hide (by simp only [jcd, hj, if_true]; rw [if_neg (by omega)])
      clear hj
      go_enter Try.func59, Try.ntmps59
      go_wp2_with fail
      refine (implIsJacobi _ _ _ _ _ _ _ _ _ _ g1 g2 hn hm).mono ?_
      rintro e w1 ⟨rfl, hb1⟩
      rw [Hj.out]
      go_wp2
      go_ret
      exact ⟨ret_int H.out.symm, bnext hb0 hb1⟩
    · by_cases h2 : hi < k
      · have H : Hid (jcd p xs ys k lo hi = 2) := hide (by simp only [jcd, hj, if_true]; rw [if_neg (by omega)])
        clear hj
        go_enter Try.func59, Try.ntmps59
        go_wp2_with fail
        refine (implIsJacobi _ _ _ _ _ _ _ _ _ _ g1 g2 hn hm).mono ?_
        rintro e w1 ⟨rfl, hb1⟩
        rw [Hj.out]
        go_wp2
        go_ret
        exact ⟨ret_int H.out.symm, bnext hb0 hb1⟩
      · have H : Hid (jcd p xs ys k lo hi = 0) := hide (by simp only [jcd, hj, if_true]; rw [if_pos (by omega)])
        clear hj
        go_enter Try.func59, Try.ntmps59
        go_wp2_with fail
        refine (implIsJacobi _ _ _ _ _ _ _ _ _ _ g1 g2 hn hm).mono ?_
        rintro e w1 ⟨rfl, hb1⟩
        rw [Hj.out]
        go_wp2
        go_ret
        exact ⟨ret_int H.out.symm, bnext hb0 hb1⟩
theorem sizeOf_any (p : Int) (a : Option Addr) (n c : Nat) (b : Option Addr) (m d : Nat) (w : World) (hn : n ≤ 4000000) :
    Calls Try.prog 66 #[jac p a n c b m d] w fun e w' => e = .returned (.int .i64 n) ∧ Below w.heap.size w w' := by
  go_enter Try.func66, Try.ntmps66
  go_wp2
  go_ret
  exact ⟨rfl, bl1 _ _⟩
end Go.Proofs.Ytcadiepghhnbeaa
