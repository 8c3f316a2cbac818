/- Merged texts. -/
import Derived.Test.YtdjifjlgllohmaaDoorYDS1
import Derived.WalkSpells
/- Slices of the call's own with the zone of blocks that they lie in; marks; results of the laws' calls. -/
namespace Go.Proofs.YtdjifjlgllohmaaDoor
open Go.RowKit
set_option linter.unusedVariables false
set_option linter.unusedSimpArgs false

/-- (a, n, cap) reads as ys; where it holds anything it is a row of the call's own among the blocks from lo up to hi. -/
def OZ (lo hi : Nat) (w : World) (a : Option Addr) (n cap : Nat) (ys : List Int) : Prop :=
  SL w a n cap ys ∧ (n = 0 ∨ (Own lo w a cap ys ∧ ∃ g, blk a = some g ∧ g < hi))
theorem OZ.sl {lo hi : Nat} {w : World} {a : Option Addr} {n cap : Nat} {ys : List Int} (h : OZ lo hi w a n cap ys) : SL w a n cap ys := h.1
theorem OZ.len {lo hi : Nat} {w : World} {a : Option Addr} {n cap : Nat} {ys : List Int} (h : OZ lo hi w a n cap ys) : ys.length = n := h.1.len
theorem OZ.of {B : Nat} {w : World} {a : Option Addr} {n cap : Nat} {ys : List Int} (h : Own B w a cap ys) (hn : n = ys.length) : OZ B w.heap.size w a n cap ys := by
  subst hn
  refine ⟨h.sl, ?_⟩
  rcases h.shape with ⟨_, _, rfl⟩ | ⟨g, cur, rfl, _, hg, _⟩
  · exact .inl rfl
  · exact .inr ⟨h, g, rfl, lt_of_block hg⟩
theorem OZ.below {lo hi : Nat} {w w' : World} {a : Option Addr} {n cap : Nat} {ys : List Int} (h : OZ lo hi w a n cap ys) (hb : Below w.heap.size w w') : OZ lo hi w' a n cap ys := by
  refine ⟨h.1.below hb, ?_⟩
  rcases h.2 with h0 | ⟨ho, hg⟩
  · exact .inl h0
  · exact .inr ⟨ho.below hb, hg⟩
theorem OZ.mono {lo hi lo' hi' : Nat} {w : World} {a : Option Addr} {n cap : Nat} {ys : List Int} (h : OZ lo hi w a n cap ys) (h1 : lo' ≤ lo) (h2 : hi ≤ hi') : OZ lo' hi' w a n cap ys := by
  refine ⟨h.1, ?_⟩
  rcases h.2 with h0 | ⟨ho, g, hg, hl⟩
  · exact .inl h0
  · exact .inr ⟨ho.mono h1, g, hg, Nat.lt_of_lt_of_le hl h2⟩
theorem Own.keep {B : Nat} {w w' : World} {a : Option Addr} {cap : Nat} {ys : List Int} {row : Option Nat} (h : Own B w a cap ys) (hg : w.grownBy w' row) (hne : ∀ g, blk a = some g → row ≠ some g) : Own B w' a cap ys := by
  refine ⟨h.1, ?_⟩
  rcases h.2 with h' | ⟨g, c, cur, h1, h2, h3, h4⟩
  · exact .inl h'
  · refine .inr ⟨g, c, cur, h1, h2, ?_, h4⟩
    have ha : blk a = some g := by
      simp only [Value.slice.injEq] at h1
      rw [h1.1]; rfl
    rw [hg.block g (lt_of_block h3) (fun e => hne g ha e.symm)]
    exact h3
theorem OZ.keep {lo hi lo' hi' : Nat} {w w' : World} {a : Option Addr} {n cap : Nat} {ys : List Int} {row : Option Nat} (h : OZ lo hi w a n cap ys) (hg : w.grownBy w' row)
    (hr : ∀ g, row = some g → lo' ≤ g ∧ g < hi') (hd : hi ≤ lo' ∨ hi' ≤ lo) : OZ lo hi w' a n cap ys := by
  rcases h.2 with h0 | ⟨ho, g, hbg, hl⟩
  · exact ⟨⟨h.1.1, h.1.2.1, .inl h0⟩, .inl h0⟩
  · have hlo : lo ≤ g := by
      rcases ho.shape with ⟨rfl, _, _⟩ | ⟨g', cur, rfl, hB, _⟩
      · cases hbg
      · cases hbg; exact hB
    have ho' := ho.keep hg (fun g' hg' e => by
      have := hr g' e
      rw [hbg] at hg'
      cases hg'
      omega)
    refine ⟨?_, .inr ⟨ho', g, hbg, hl⟩⟩
    have := ho'.sl
    rwa [h.len] at this
theorem markZ (lo hi : Nat) (a : Option Addr) (n c : Nat) (ys : List Int) (k0 : Int) (w : World) (h1 : OZ lo hi w a n c ys) (hn : n ≤ 4000000) (hk0 : 0 ≤ k0) (hk1 : k0 ≤ 1000000000000) :
    Calls Tryd.prog 24 #[.slice a n c, .int .i64 k0] w fun e w' => e = .returned (.int .i64 (k0 + n)) ∧ OZ lo hi w' a n c (marks k0 n) ∧ ∃ row, w.grownBy w' row ∧ ∀ g, row = some g → lo ≤ g ∧ g < hi := by
  by_cases h0 : n = 0
  · subst h0
    have hz : OZ lo hi w a 0 c (marks k0 0) := ⟨⟨by simp [marks], h1.1.2.1, .inl rfl⟩, .inl rfl⟩
    clear h1
    go_enter Tryd.func24, Tryd.ntmps24
    go_wp2
    refine wp_loop_rounds 1 ?_
    rw [rounds_succ]
    go_wp2
    go_ret
    exact ⟨ret_int (by simp), hz, none, grown_refl _ _, fun g hg => by cases hg⟩
  · rcases h1.2 with h | ⟨ho, g, hbg, hl⟩
    · exact absurd h h0
    · refine (markI lo a n c ys k0 w ho h1.len.symm hn hk0 hk1).mono fun e w' h => ⟨h.1, ⟨?_, .inr ⟨h.2.1, g, hbg, hl⟩⟩, _, h.2.2, fun g' hg' => ?_⟩
      · have := h.2.1.sl
        rwa [marks_len] at this
      · rw [hbg] at hg'
        cases hg'
        rcases ho.shape with ⟨rfl, _, _⟩ | ⟨g'', cur, rfl, hB, _⟩
        · cases hbg
        · cases hbg; exact ⟨hB, hl⟩
theorem below_mark {B : Nat} {w w' w0 : World} {lo hi : Nat} {row : Option Nat} (hb : Below B w0 w) (hg : w.grownBy w' row) (hr : ∀ g, row = some g → lo ≤ g ∧ g < hi) (h1 : B ≤ lo) (h2 : B ≤ w.heap.size) : Below B w0 w' :=
  hb.grown hg h2 (fun k hk => by have := hr k hk; omega)

/-- The two results of a call: a list and a code. -/
def Res1 (w : World) (v : List Int) (c : Int) (e : Ending) (w' : World) : Prop :=
  ∃ a cap, e = .returned (.tuple #[.slice a v.length cap, .int .i64 c]) ∧ OZ w.heap.size w'.heap.size w' a v.length cap v ∧ v.length ≤ 100000 ∧ Below w.heap.size w w'
theorem Res1.nil {w w' : World} {v : List Int} {c c' : Int} (hv : v = []) (hc : c = c') (hb : Below w.heap.size w w') : Res1 w v c (.returned (.tuple #[.slice none 0 0, .int .i64 c'])) w' := by
  subst hv; subst hc
  exact ⟨none, 0, rfl, ⟨SL.nil _, .inl rfl⟩, by simp, hb⟩
theorem Res1.some {w w' : World} {v : List Int} {c c' : Int} {a : Option Addr} {n cap : Nat} (hc : c = c') (hn : n = v.length) (ho : OZ w.heap.size w'.heap.size w' a n cap v) (hl : v.length ≤ 100000) (hb : Below w.heap.size w w') : Res1 w v c (.returned (.tuple #[.slice a n cap, .int .i64 c'])) w' := by
  subst hc; subst hn
  exact ⟨a, cap, rfl, ho, hl, hb⟩
theorem Res1.own {w w' : World} {v : List Int} {c c' : Int} {a : Option Addr} {n cap : Nat} (hc : c = c') (hn : n = v.length) (ho : Own w.heap.size w' a cap v) (hl : v.length ≤ 100000) (hb : Below w.heap.size w w') : Res1 w v c (.returned (.tuple #[.slice a n cap, .int .i64 c'])) w' :=
  Res1.some hc hn (OZ.of ho hn) hl hb
/-- What the laws are told of a slice of integers that came in, as this text reads it. -/
theorem sl_of_row {w : World} {a : Option Addr} {len cap : Nat} {zs : List Int} (h : (a = none ∧ len = 0 ∧ cap = 0 ∧ zs = []) ∨
    ∃ x, a = some x ∧ len ≤ cap ∧ cap ≤ maxLen ∧ zs.length = cap ∧ (∀ i, i < zs.length → w.cell? (x.add i) = some (.int .i64 (zs.getD i 0))) ∧ ∀ n ∈ zs, (Lit.int .i64 n).wf = true) : SL w a len cap (zs.take len) := by
  rcases h with ⟨rfl, rfl, rfl, rfl⟩ | ⟨x, rfl, h1, _, h3, h4, _⟩
  · exact SL.nil w
  · refine ⟨by simp; omega, ⟨h1, fun h => by cases h⟩, ?_⟩
    by_cases h0 : len = 0
    · exact .inl h0
    · obtain ⟨b, off, spot⟩ := x
      have hc := h4 0 (by omega)
      have hs : spot = none := by simpa [Addr.add] using World.cell?_spot hc
      subst hs
      refine .inr ⟨b, off, rfl, fun j hj => ?_⟩
      have := h4 j (by omega)
      rw [Addr.add_lit] at this
      rw [this]
      simp [List.getElem?_take, hj]
end Go.Proofs.YtdjifjlgllohmaaDoor
/- Contract: slices.Clone at []int64; owned rows read and written. -/
namespace Go.Proofs.YtdjifjlgllohmaaDoor
open Go.RowKit
set_option linter.unusedVariables false
set_option linter.unusedSimpArgs false

theorem Own.blkG {B : Nat} {w : World} {a : Option Addr} {c : Nat} {ys : List Int} (h : Own B w a c ys) (h0 : ys.length ≠ 0) : ∃ g, a = some ⟨g, 0, none⟩ ∧ B ≤ g ∧ g < w.heap.size ∧ ys.length ≤ c := by
  rcases h.shape with ⟨_, _, rfl⟩ | ⟨g, cur, rfl, hB, hg, hl, _⟩
  · exact absurd rfl h0
  · exact ⟨g, rfl, hB, lt_of_block hg, hl⟩
theorem Own.cellG {B : Nat} {w : World} {g c : Nat} {ys : List Int} (h : Own B w (some ⟨g, 0, none⟩) c ys) (j : Nat) (hj : j < ys.length) : w.cell? ⟨g, j, none⟩ = some (.int .i64 (ys.getD j 0)) := by
  have := World.ownsRow.cellAt h j (by omega)
  rw [this]
  simp [hj]
theorem Own.freeG {B : Nat} {w : World} {g c : Nat} {ys : List Int} (h : Own B w (some ⟨g, 0, none⟩) c ys) (j : Nat) : w.frozen? ⟨g, j, none⟩ = false := World.ownsRow.frozenAt h j
theorem Own.setG {B : Nat} {w : World} {g c : Nat} {ys : List Int} (h : Own B w (some ⟨g, 0, none⟩) c ys) (j : Nat) (u : Int) : Own B (w.setCell ⟨g, j, none⟩ (.int .i64 u)) (some ⟨g, 0, none⟩) c (ys.set j u) := by
  have := (World.ownsRow.stored h j (.int .i64 u)).1
  unfold Own
  rw [List.map_set, List.length_set]
  exact this
theorem Own.otherG {B : Nat} {w : World} {a : Option Addr} {c g j : Nat} {ys : List Int} (h : Own B w a c ys) (hne : blk a ≠ some g) (u : Value) : Own B (w.setCell ⟨g, j, none⟩ u) a c ys := by
  refine h.keep (row := some g) ⟨rfl, rfl, rfl, by simp, fun k _ hk => Below.heap_setCell _ _ _ _ (fun e => hk (by rw [e]))⟩ (fun g' hg' e => ?_)
  rw [hg'] at hne
  exact hne e.symm
/-- A shorter beginning of an owned row. -/
theorem Own.takeG {B : Nat} {w : World} {a : Option Addr} {c : Nat} {ys : List Int} (h : Own B w a c ys) {m : Nat} (hm : m ≤ ys.length) : Own B w a c (ys.take m) := by
  rcases h.shape with ⟨rfl, rfl, rfl⟩ | ⟨g, cur, rfl, hB, hg, hl, hcm, hcs, ht⟩
  · simpa using Own.nil B w
  · have e : (ys.take m).length = m := by simp; omega
    unfold Own
    rw [e]
    refine ⟨by simp; omega, .inr ⟨g, c, cur, rfl, hB, hg, by omega, hcm, by omega, ?_⟩⟩
    rw [Nat.mul_one, List.map_take, ← ht, List.take_take, Nat.min_eq_left hm]
end Go.Proofs.YtdjifjlgllohmaaDoor
