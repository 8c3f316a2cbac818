/- Contracts of the laws' helpers on Jacobi data: toJacobi, szJacobi, eqJacobi, markJacobi, heldJacobi; memory touched in a zone. -/
import Derived.Test.YtiahaipaekeinaaMo
namespace Go.Proofs.Ytiahaipaekeinaa
open Go.RowKit
set_option linter.unusedVariables false
set_option linter.unusedSimpArgs false

/-- Of the blocks that were there only those from lo up to hi may have turned. -/
structure Touch (lo hi : Nat) (w w' : World) : Prop where
  os : w'.os = w.os
  tape : w'.tape = w.tape
  output : w'.output = w.output
  size : w.heap.size ≤ w'.heap.size
  block : ∀ k, k < w.heap.size → (k < lo ∨ hi ≤ k) → w'.heap[k]? = w.heap[k]?
theorem Touch.of {lo hi : Nat} {w w' : World} {row : Option Nat} (hg : w.grownBy w' row) (hr : ∀ g, row = some g → lo ≤ g ∧ g < hi) : Touch lo hi w w' :=
  ⟨hg.os, hg.tape, hg.output, hg.size, fun k hk hd => hg.block k hk (fun e => by have := hr k e.symm; omega)⟩
theorem Touch.trans {lo hi : Nat} {a b c : World} (h : Touch lo hi a b) (k : Touch lo hi b c) : Touch lo hi a c :=
  ⟨k.os.trans h.os, k.tape.trans h.tape, k.output.trans h.output, Nat.le_trans h.size k.size, fun i hi hd => (k.block i (Nat.lt_of_lt_of_le hi h.size) hd).trans (h.block i hi hd)⟩
theorem Touch.mono {lo hi lo' hi' : Nat} {w w' : World} (h : Touch lo hi w w') (h1 : lo' ≤ lo) (h2 : hi ≤ hi') : Touch lo' hi' w w' :=
  ⟨h.os, h.tape, h.output, h.size, fun k hk hd => h.block k hk (by omega)⟩
theorem Touch.alloc (lo hi : Nat) (w : World) (o : Obj) : Touch lo hi w (w.alloc o) := ⟨rfl, rfl, rfl, by simp, fun k hk _ => Below.heap_alloc _ _ _ hk⟩
theorem Touch.cell {lo hi b o : Nat} {w w' : World} {v : Value} (t : Touch lo hi w w') (h : w.cell? ⟨b, o, none⟩ = some v) (hd : b < lo ∨ hi ≤ b) : w'.cell? ⟨b, o, none⟩ = some v :=
  (World.cell?_of_block (w := w) (t.block b (World.block_lt_of_cell? w _ h) hd)).trans h
theorem Own.touch {B lo hi : Nat} {w w' : World} {a : Option Addr} {cap : Nat} {ys : List Int} (h : Own B w a cap ys) (t : Touch lo hi w w') (hd : ∀ g, blk a = some g → g < lo ∨ hi ≤ g) : Own B w' a cap ys := by
  refine ⟨h.1, ?_⟩
  rcases h.2 with h' | ⟨g, c, cur, h1, h2, h3, h4⟩
  · exact .inl h'
  · refine .inr ⟨g, c, cur, h1, h2, ?_, h4⟩
    have ha : blk a = some g := by
      simp only [Value.slice.injEq] at h1
      rw [h1.1]; rfl
    rw [t.block g (lt_of_block h3) (hd g ha)]
    exact h3
theorem OZ.touch {lo hi lo' hi' : Nat} {w w' : World} {a : Option Addr} {n cap : Nat} {ys : List Int} (h : OZ lo hi w a n cap ys) (t : Touch lo' hi' w w') (hd : hi ≤ lo' ∨ hi' ≤ lo) : OZ lo hi w' a n cap ys := by
  rcases h.2 with h0 | ⟨ho, g, hbg, hl⟩
  · exact ⟨⟨h.1.1, h.1.2.1, .inl h0⟩, .inl h0⟩
  · have hlo : lo ≤ g := by
      rcases ho.shape with ⟨rfl, _, _⟩ | ⟨g', cur, rfl, hB, _⟩
      · cases hbg
      · cases hbg; exact hB
    have ho' := ho.touch t (fun g' hg' => by
      rw [hbg] at hg'
      cases hg'
      omega)
    refine ⟨?_, .inr ⟨ho', g, hbg, hl⟩⟩
    have := ho'.sl
    rwa [h.len] at this
theorem below_touch {B : Nat} {w w' w0 : World} {lo hi : Nat} (hb : Below B w0 w) (t : Touch lo hi w w') (h1 : B ≤ lo) (h2 : B ≤ w.heap.size) : Below B w0 w' :=
  hb.trans ⟨t.os, t.tape, t.output, t.size, fun k hk => t.block k (by omega) (.inl (by omega))⟩
theorem markZT (lo hi : Nat) (a : Option Addr) (n c : Nat) (ys : List Int) (k0 : Int) (w : World) (h1 : OZ lo hi w a n c ys) (hn : n ≤ 4000000) (hk0 : 0 ≤ k0) (hk1 : k0 ≤ 1000000000000) :
    Calls Try.prog 17 #[.slice a n c, .int .i64 k0] w fun e w' => e = .returned (.int .i64 (k0 + n)) ∧ OZ lo hi w' a n c (marks k0 n) ∧ Touch lo hi w w' :=
  (markZ lo hi a n c ys k0 w h1 hn hk0 hk1).mono fun e w' ⟨he, ho, row, gr, hr⟩ => ⟨he, ho, Touch.of gr hr⟩
theorem markMT (lo hi : Nat) (p : Int) (a : Option Addr) (n c : Nat) (ys : List Int) (k0 : Int) (w : World) (h1 : OZ lo hi w a n c ys) (hn : n ≤ 4000000) (hk0 : 0 ≤ k0) (hk1 : k0 ≤ 1000000000000) :
    Calls Try.prog 7 #[mom p a n c, .int .i64 k0] w fun e w' => e = .returned (.int .i64 (k0 + n)) ∧ OZ lo hi w' a n c (marks k0 n) ∧ Touch lo hi w w' :=
  (markM lo hi p a n c ys k0 w h1 hn hk0 hk1).mono fun e w' ⟨he, ho, row, gr, hr⟩ => ⟨he, ho, Touch.of gr hr⟩

/-- The piece of its zone in which a slice lies. -/
theorem OZ.fine {lo hi : Nat} {w : World} {a : Option Addr} {n cap : Nat} {ys : List Int} (h : OZ lo hi w a n cap ys) : (n = 0 ∧ OZ lo lo w a n cap ys) ∨ ∃ g, n ≠ 0 ∧ blk a = some g ∧ lo ≤ g ∧ g < hi ∧ OZ g (g + 1) w a n cap ys := by
  by_cases h0 : n = 0
  · exact .inl ⟨h0, h.1, .inl h0⟩
  · rcases h.2 with h' | ⟨ho, g, hbg, hl⟩
    · exact absurd h' h0
    · rcases ho.shape with ⟨rfl, _, _⟩ | ⟨g', cur, rfl, hB, hr⟩
      · cases hbg
      · cases hbg
        refine .inr ⟨g', h0, rfl, hB, hl, h.1, .inr ⟨?_, g', rfl, by omega⟩⟩
        refine ⟨ho.1, ?_⟩
        rcases ho.2 with h'' | ⟨g2, c2, cur2, e1, e2, e3⟩
        · cases h''.1
        · simp only [Value.slice.injEq, Option.some.injEq, Addr.mk.injEq, and_true, true_and] at e1
          obtain ⟨rfl, rfl⟩ := e1
          exact .inr ⟨g', cap, cur2, rfl, Nat.le_refl _, e3⟩
/-- Two slices of the call's own that share no memory. -/
def JZ (lo hi : Nat) (w : World) (a : Option Addr) (n c : Nat) (xs : List Int) (b : Option Addr) (m d : Nat) (ys : List Int) : Prop :=
  OZ lo hi w a n c xs ∧ OZ lo hi w b m d ys ∧ (n = 0 ∨ m = 0 ∨ blk a ≠ blk b)
section
variable {lo hi : Nat} {w w' : World} {a : Option Addr} {n c : Nat} {xs : List Int} {b : Option Addr} {m d : Nat} {ys : List Int}
theorem JZ.sl1 (h : JZ lo hi w a n c xs b m d ys) : SL w a n c xs := h.1.sl
theorem JZ.sl2 (h : JZ lo hi w a n c xs b m d ys) : SL w b m d ys := h.2.1.sl
theorem JZ.below (h : JZ lo hi w a n c xs b m d ys) (hb : Below w.heap.size w w') : JZ lo hi w' a n c xs b m d ys := ⟨h.1.below hb, h.2.1.below hb, h.2.2⟩
theorem JZ.mono {lo' hi' : Nat} (h : JZ lo hi w a n c xs b m d ys) (h1 : lo' ≤ lo) (h2 : hi ≤ hi') : JZ lo' hi' w a n c xs b m d ys := ⟨h.1.mono h1 h2, h.2.1.mono h1 h2, h.2.2⟩
theorem JZ.touch {lo' hi' : Nat} (h : JZ lo hi w a n c xs b m d ys) (t : Touch lo' hi' w w') (hd : hi ≤ lo' ∨ hi' ≤ lo) : JZ lo hi w' a n c xs b m d ys := ⟨h.1.touch t hd, h.2.1.touch t hd, h.2.2⟩
theorem JZ.fine (h : JZ lo hi w a n c xs b m d ys) (hlh : lo ≤ hi) : ∃ l1 h1 l2 h2, lo ≤ l1 ∧ h1 ≤ hi ∧ lo ≤ l2 ∧ h2 ≤ hi ∧ (h1 ≤ l2 ∨ h2 ≤ l1) ∧ OZ l1 h1 w a n c xs ∧ OZ l2 h2 w b m d ys := by
  rcases h.1.fine with ⟨e1, o1⟩ | ⟨g1, e1, k1, p1, q1, o1⟩ <;> rcases h.2.1.fine with ⟨e2, o2⟩ | ⟨g2, e2, k2, p2, q2, o2⟩
  · exact ⟨_, _, _, _, Nat.le_refl _, hlh, Nat.le_refl _, hlh, .inl (Nat.le_refl _), o1, o2⟩
  · exact ⟨_, _, _, _, Nat.le_refl _, hlh, p2, q2, .inl p2, o1, o2⟩
  · exact ⟨_, _, _, _, p1, q1, Nat.le_refl _, hlh, .inr p1, o1, o2⟩
  · have hne : g1 ≠ g2 := by
      rcases h.2.2 with h' | h' | h'
      · exact absurd h' e1
      · exact absurd h' e2
      · rw [k1, k2] at h'
        intro e
        exact h' (by rw [e])
    exact ⟨_, _, _, _, p1, q1, p2, q2, by omega, o1, o2⟩
theorem JZ.two {B mid : Nat} (h1 : OZ B mid w a n c xs) (h2 : OZ mid hi w b m d ys) (hB : B ≤ mid) (hm : mid ≤ hi) : JZ B hi w a n c xs b m d ys := by
  refine ⟨h1.mono (Nat.le_refl _) hm, h2.mono hB (Nat.le_refl _), ?_⟩
  rcases h1.fine with ⟨e1, _⟩ | ⟨g1, e1, k1, p1, q1, _⟩
  · exact .inl e1
  rcases h2.fine with ⟨e2, _⟩ | ⟨g2, e2, k2, p2, q2, _⟩
  · exact .inr (.inl e2)
  · refine .inr (.inr ?_)
    rw [k1, k2]
    intro e
    cases e
    omega
end
theorem cell_ne {w w' : World} {row : Option Nat} {b o : Nat} {v : Value} (hg : w.grownBy w' row) (h : w.cell? ⟨b, o, none⟩ = some v) (hne : row ≠ some b) : w'.cell? ⟨b, o, none⟩ = some v :=
  (World.cell?_of_block (w := w) (hg.block b (World.block_lt_of_cell? w _ h) (fun e => hne e.symm))).trans h
theorem frz_ne {w w' : World} {row : Option Nat} {b o : Nat} {v : Value} {x : Bool} (hg : w.grownBy w' row) (h : w.cell? ⟨b, o, none⟩ = some v) (hf : w.frozen? ⟨b, o, none⟩ = x) (hne : row ≠ some b) : w'.frozen? ⟨b, o, none⟩ = x :=
  (World.frozen?_of_block (w := w) (hg.block b (World.block_lt_of_cell? w _ h) (fun e => hne e.symm))).trans hf
theorem frz_al {w : World} {b o : Nat} {v : Value} {x : Bool} (h : w.cell? ⟨b, o, none⟩ = some v) (hf : w.frozen? ⟨b, o, none⟩ = x) (c : Obj) : (w.alloc c).frozen? ⟨b, o, none⟩ = x :=
  (World.frozen?_of_block (w := w) (Below.heap_alloc _ _ _ (World.block_lt_of_cell? w _ h))).trans hf
theorem tab_snoc (m : Nat) (h : Nat → Int) : tab m h ++ [h m] = tab (m + 1) h := by
  unfold tab
  rw [List.range_succ, List.map_append]; rfl
theorem cell_set2' {w : World} {b o o' : Nat} {v : Value} (h : w.cell? ⟨b, o, none⟩ = some v) (hne : o' ≠ o) (u : Value) : (w.setCell ⟨b, o', none⟩ u).cell? ⟨b, o, none⟩ = some v :=
  (World.cell?_setCell_other _ _ _ _ (fun e => hne (by simpa using congrArg Addr.off e))).trans h
theorem cell_set2 {w : World} {a b : Addr} {v : Value} (h : w.cell? b = some v) (hne : a.block ≠ b.block) (u : Value) : (w.setCell a u).cell? b = some v :=
  (World.cell?_setCell_other _ _ _ _ (fun e => hne (by rw [← e]))).trans h
/-- Data of a recurrence (or a rule) as a value. -/
abbrev jac (p : Int) (a : Option Addr) (n c : Nat) (b : Option Addr) (m d : Nat) : Value := .agg #[.int .i64 p, .slice a n c, .slice b m d]
theorem OZ.setLow {lo hi : Nat} {w : World} {a : Option Addr} {n c : Nat} {ys : List Int} (h : OZ lo hi w a n c ys) {x : Addr} (hx : x.block < lo) (u : Value) : OZ lo hi (w.setCell x u) a n c ys :=
  h.touch (lo' := x.block) (hi' := x.block + 1) ⟨rfl, rfl, rfl, by simp [World.setCell], fun k hk hd => Below.heap_setCell _ _ _ _ (by omega)⟩ (.inr (by omega))
theorem JZ.setLow {lo hi : Nat} {w : World} {a : Option Addr} {n c : Nat} {xs : List Int} {b : Option Addr} {m d : Nat} {ys : List Int} (h : JZ lo hi w a n c xs b m d ys) {x : Addr} (hx : x.block < lo) (u : Value) : JZ lo hi (w.setCell x u) a n c xs b m d ys :=
  ⟨h.1.setLow hx u, h.2.1.setLow hx u, h.2.2⟩
end Go.Proofs.Ytiahaipaekeinaa
