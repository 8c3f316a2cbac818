/- Merged texts. -/
import Derived.Test.YtmdfgibpkfkceaaYMj30
import Derived.Test.YtmdfgibpkfkceaaYMj19
import Derived.Test.YtmdfgibpkfkceaaYMj20
import Derived.Test.YtmdfgibpkfkceaaYMj13
import Derived.Test.YtmdfgibpkfkceaaYMj12
import Derived.Test.YtmdfgibpkfkceaaYMj15
import Derived.BigRegion
import Derived.StillTailTactics
import Derived.IntWalk
/- Mathematics of FindJacobi: divisions of monic polynomials, one after the other. No program. -/
namespace Go.Proofs.Ytmdfgibpkfkceaa
open Go.RowKit
set_option linter.unusedVariables false
set_option linter.unusedSimpArgs false

/-- The two polynomials that are divided at the step s. -/
def fjG (p : Int) (f g : List Int) : Nat → List Int × List Int
  | 0 => (f, g)
  | s + 1 => ((fjG p f g s).2, monM p (remM p (fjG p f g s).1 (fjG p f g s).2))
def fjQ (p : Int) (f g : List Int) (s : Nat) : List Int := quoM p (fjG p f g s).1 (fjG p f g s).2
def fjR (p : Int) (f g : List Int) (s : Nat) : List Int := remM p (fjG p f g s).1 (fjG p f g s).2
theorem fjG_succ (p : Int) (f g : List Int) (s : Nat) : fjG p f g (s + 1) = ((fjG p f g s).2, monM p (fjR p f g s)) := rfl
/-- The rests have the degrees that they must have, up to the step s. -/
def fjOk (p : Int) (f g : List Int) (n s : Nat) : Prop := ∀ t, t < s → (fjR p f g t).length = n - 1 - t
def fjB (p : Int) (f g : List Int) (n : Nat) : Bool := (List.range (n - 1)).all (fun t => (fjR p f g t).length == n - 1 - t)
theorem fjB_true {p : Int} {f g : List Int} {n : Nat} (h : fjOk p f g n (n - 1)) : fjB p f g n = true := by
  unfold fjB
  rw [List.all_eq_true]
  intro t ht
  simpa using h t (by simpa using ht)
theorem fjB_false {p : Int} {f g : List Int} {n s : Nat} (hs : s < n - 1) (h : (fjR p f g s).length ≠ n - 1 - s) : fjB p f g n = false := by
  unfold fjB
  rw [Bool.eq_false_iff]
  intro h2
  rw [List.all_eq_true] at h2
  have := h2 s (by simpa using hs)
  simp at this
  exact h this
/-- What holds of the two polynomials at the step s. -/
structure FjS (p : Int) (f g : List Int) (n s : Nat) : Prop where
  p1 : polyB p (fjG p f g s).1 = true
  p2 : polyB p (fjG p f g s).2 = true
  l1 : (fjG p f g s).1.length = n + 1 - s
  l2 : (fjG p f g s).2.length = n - s
  t2 : cf (fjG p f g s).2 (n - s - 1) = 1
theorem fjS_all {p : Int} (hp : primeB p = true) {f g : List Int} {n : Nat} (hn : n ≤ 12) (hf : polyB p f = true) (hg : polyB p g = true) (h1 : f.length = n + 1) (h2 : g.length = n) (h3 : cf g (n - 1) = 1) : ∀ s, s ≤ n - 1 → fjOk p f g n s → FjS p f g n s := by
  intro s
  induction s with
  | zero => intro _ _; exact ⟨hf, hg, h1, h2, h3⟩
  | succ s ih =>
    intro hs hok
    have h := ih (by omega) (fun t ht => hok t (by omega))
    have hr := hok s (by omega)
    have hrp : polyB p (fjR p f g s) = true := remM_poly hp h.p1 h.p2
    obtain ⟨m1, m2⟩ := monM_top hp hrp (by omega)
    rw [hr] at m1 m2
    have e1 : (fjG p f g (s + 1)).1 = (fjG p f g s).2 := rfl
    have e2 : (fjG p f g (s + 1)).2 = monM p (fjR p f g s) := rfl
    have ha : areB p (monM p (fjR p f g s)) = true := by
      unfold monM
      split
      · rfl
      · exact addM_areB (primeB_lo hp).1 rfl _ _
    have hmp : polyB p (monM p (fjR p f g s)) = true := by
      refine polyB_mk (by rw [m1]; omega) ha (.inr ?_)
      rw [m1]
      unfold cf at m2
      rw [m2]
      omega
    exact ⟨by rw [e1]; exact h.p2, by rw [e2]; exact hmp, by rw [e1, h.l2]; omega, by rw [e2, m1]; omega, by rw [e2, show n - (s + 1) - 1 = n - 1 - s - 1 by omega]; exact m2⟩
/-- The quotient has two numbers at least. -/
theorem quo_two {p : Int} (hp : primeB p = true) {f g : List Int} (hf : polyB p f = true) (hg : polyB p g = true) (h : f.length = g.length + 1) (h0 : g.length ≠ 0) : 1 < (quoM p f g).length := by
  have hlt : ¬ (quoM p f g).length ≤ 1 := fun hle => by
    have hb := div_back hp hf hg h0 g.length
    rw [cv_far (by omega), cf_far (f := remM p f g) (by have := remM_lt hp hf hg h0; omega)] at hb
    rcases (polyB_rng hf).2.2 with e | e
    · rw [e] at h; simp at h
    · rw [h, Nat.add_sub_cancel] at e
      unfold cf at hb
      exact e (by rw [hb]; simp)
  omega
/-- The quotient by 1 is the polynomial itself. -/
theorem quo_one {p : Int} (hp : primeB p = true) {f g : List Int} (hf : polyB p f = true) (hg : polyB p g = true) (h1 : g.length = 1) (h2 : cf g 0 = 1) : quoM p f g = f := by
  have hl := (primeB_lo hp).1
  have hr := remM_lt hp hf hg (by omega)
  refine can_ext (can_poly (quoM_poly hp hf hg (by omega))) (can_poly hf) fun j => ?_
  have hb := div_back hp hf hg (by omega) j
  rw [cf_far (f := remM p f g) (by omega), Int.add_zero] at hb
  have e : cv (cf (quoM p f g)) (cf g) j = cf (quoM p f g) j := by
    rw [cv_comm]
    unfold cv
    rw [sm_head, h2, Int.one_mul, Nat.sub_zero]
    have : sm j (fun k => cf g (k + 1) * cf (quoM p f g) (j - (k + 1))) = 0 := by
      rw [show (0 : Int) = sm 0 (fun k => cf g (k + 1) * cf (quoM p f g) (j - (k + 1))) from rfl]
      apply sm_ext _ 0 _ (by omega)
      intro k _ _
      rw [cf_far (f := g) (by omega), Int.zero_mul]
    rw [this, Int.add_zero]
  rw [e] at hb
  have hq := cf_rng hl (polyB_rng (quoM_poly hp hf hg (by omega))).2.1 j
  rw [hb, Int.emod_eq_of_lt hq.1 hq.2]
/-- The numbers Alpha and Beta that are found. -/
def fjA (p : Int) (f g : List Int) (n j : Nat) : Int := opp p ((fjQ p f g (n - 1 - j)).getD 0 0)
def fjE (p : Int) (f g : List Int) (b : Int) (n j : Nat) : Int := if j = 0 then b else opp p ((fjR p f g (n - 1 - j)).getD (j - 1) 0)
/-- The rows when all from k on are found. -/
def fjX (p : Int) (f g : List Int) (n k : Nat) : Nat → Int := fun j => if k ≤ j then fjA p f g n j else 0
def fjY (p : Int) (f g : List Int) (b : Int) (n k : Nat) : Nat → Int := fun j => if j = 0 ∨ k ≤ j then fjE p f g b n j else 0
theorem fjX_set (p : Int) (f g : List Int) (n k : Nat) : (tab n (fjX p f g n (k + 1))).set k (fjA p f g n k) = tab n (fjX p f g n k) := by
  rw [tab_set]
  apply tab_congr
  intro j _
  unfold fjX
  by_cases e : j = k
  · subst e; rw [if_pos rfl, if_pos (Nat.le_refl _)]
  · rw [if_neg e]
    by_cases h : k + 1 ≤ j
    · rw [if_pos h, if_pos (by omega)]
    · rw [if_neg h, if_neg (by omega)]
theorem fjY_set (p : Int) (f g : List Int) (b : Int) (n k : Nat) : (tab n (fjY p f g b n (k + 1))).set k (fjE p f g b n k) = tab n (fjY p f g b n k) := by
  rw [tab_set]
  apply tab_congr
  intro j _
  unfold fjY
  by_cases e : j = k
  · subst e; rw [if_pos rfl, if_pos (.inr (Nat.le_refl _))]
  · rw [if_neg e]
    by_cases h : j = 0 ∨ k + 1 ≤ j
    · rw [if_pos h, if_pos (by omega)]
    · rw [if_neg h, if_neg (by omega)]
theorem fjX_all (p : Int) (f g : List Int) (n : Nat) : tab n (fjX p f g n n) = List.replicate n 0 := by
  rw [tab_zero]
  exact tab_congr fun j hj => by unfold fjX; rw [if_neg (by omega)]
theorem fjY_first (p : Int) (f g : List Int) (b : Int) (n : Nat) (hn : 1 ≤ n) : (List.replicate n 0).set 0 b = tab n (fjY p f g b n n) := by
  rw [tab_zero, tab_set]
  apply tab_congr
  intro j hj
  unfold fjY fjE
  by_cases e : j = 0
  · rw [if_pos e, if_pos (.inl e), if_pos e]
  · rw [if_neg e, if_neg (by omega)]
def fjT (p : Int) (f g : List Int) (b : Int) : Bool := decide (2 ≤ f.length ∧ f.length ≤ 13 ∧ g.length + 1 = f.length) && (decide (cf f (f.length - 1) = 1) && decide (cf g (g.length - 1) = 1)) && decide (1 ≤ b ∧ b < p)
def fjC (p : Int) (f g : List Int) (b : Int) : Int := if chk2 p f g = 0 then (if fjT p f g b = true then (if fjB p f g g.length = true then 0 else 5) else 2) else chk2 p f g
def fjP (p : Int) (f g : List Int) (b : Int) : Int := if fjC p f g b = 0 then p else 0
def fjV (p : Int) (f g : List Int) (b : Int) : List Int := if fjC p f g b = 0 then tab g.length (fjA p f g g.length) else []
def fjU (p : Int) (f g : List Int) (b : Int) : List Int := if fjC p f g b = 0 then tab g.length (fjE p f g b g.length) else []
end Go.Proofs.Ytmdfgibpkfkceaa
/- Contract: findData (program). -/
namespace Go.Proofs.Ytmdfgibpkfkceaa
open Go.RowKit
set_option linter.unusedVariables false
set_option linter.unusedSimpArgs false

theorem zrow_at (W : World) (n g : Nat) (h : g = W.heap.size) : RowI (W.alloc (.cells (zrow n) 2)) g (List.replicate n 0) := by
  subst h
  have := zrow_row W n
  rwa [← tab_zero] at this
theorem SL.other {w : World} {a : Option Addr} {n c g j : Nat} {xs : List Int} (h : SL w a n c xs) (hne : blk a ≠ some g) (u : Value) : SL (w.setCell ⟨g, j, none⟩ u) a n c xs := by
  obtain ⟨h1, h2, h3⟩ := h
  refine ⟨h1, h2, ?_⟩
  rcases h3 with h3 | ⟨b, off, rfl, hc⟩
  · exact .inl h3
  · exact .inr ⟨b, off, rfl, fun i hi => cell_set2 (hc i hi) (fun e => hne (by simp at e; simp [blk, e])) u⟩
theorem SL.blk_lt {w : World} {a : Option Addr} {n c : Nat} {xs : List Int} (h : SL w a n c xs) (hn : 0 < n) : ∀ g, blk a = some g → g < w.heap.size := fun g hg => by
  obtain ⟨b, off, rfl, hb, _⟩ := h.at hn
  cases hg
  exact hb
def fdC (p : Int) (f g : List Int) (n : Nat) : Int := if fjB p f g n = true then 0 else 5
def fdP (p : Int) (f g : List Int) (n : Nat) : Int := if fdC p f g n = 0 then p else 0
def fdV (p : Int) (f g : List Int) (n : Nat) : List Int := if fdC p f g n = 0 then tab n (fjA p f g n) else []
def fdU (p : Int) (f g : List Int) (b : Int) (n : Nat) : List Int := if fdC p f g n = 0 then tab n (fjE p f g b n) else []
set_option maxRecDepth 100000 in
set_option maxHeartbeats 6400000 in
theorem findData_any (p b : Int) (a1 : Option Addr) (n1 c1 : Nat) (f : List Int) (a2 : Option Addr) (n c2 : Nat) (g : List Int) (w : World) (h1 : SL w a1 n1 c1 f) (h2 : SL w a2 n c2 g) (hpr : primeB p = true) (hf : polyB p f = true) (hg : polyB p g = true)
    (hn1 : 1 ≤ n) (hn2 : n ≤ 12) (hl1 : n1 = n + 1) (h3 : cf g (n - 1) = 1) (hb0 : 1 ≤ b) (hb1 : b < p) :
    Calls Try.prog 171 #[.int .i64 p, .slice a1 n1 c1, .slice a2 n c2, .int .i64 b] w (ResJ w (fdP p f g n) (fdV p f g n) (fdU p f g b n) (fdC p f g n)) := by
  have hp := (primeB_lo hpr).1
  have hp2 := (primeB_lo hpr).2
  have hall := hide (fun s hs hok => fjS_all hpr hn2 hf hg (by rw [h1.len, hl1]) h2.len h3 s hs hok)
  have Hpr := hide hpr
  have hmk := run_mk n (by omega)
  have hbw := bl1 w (.cells #[.int .i64 0, .slice none 0 0, .slice none 0 0] 39)
  obtain ⟨w2, hw2⟩ : ∃ w2, w2 = w.alloc (.cells #[.int .i64 0, .slice none 0 0, .slice none 0 0] 39) := ⟨_, rfl⟩
  have r0 : w2.cell? ⟨w.heap.size, 0, none⟩ = some (.int .i64 0) := by rw [hw2]; simp [go_sem]
  have r1 : w2.cell? ⟨w.heap.size, 1, none⟩ = some (.slice none 0 0) := by rw [hw2]; simp [go_sem]
  have r2 : w2.cell? ⟨w.heap.size, 2, none⟩ = some (.slice none 0 0) := by rw [hw2]; simp [go_sem]
  have y0 : w2.frozen? ⟨w.heap.size, 0, none⟩ = false := by rw [hw2]; simp [go_sem]
  have y1 : w2.frozen? ⟨w.heap.size, 1, none⟩ = false := by rw [hw2]; simp [go_sem]
  have y2 : w2.frozen? ⟨w.heap.size, 2, none⟩ = false := by rw [hw2]; simp [go_sem]
  have hz2 : w.heap.size + 1 = w2.heap.size := by rw [hw2]; simp
  rw [← hw2] at hbw
  have G1 := h1.below hbw
  have G2 := h2.below hbw
  have hL1 : n1 = (fjG p f g 0).1.length := by show n1 = f.length; rw [h1.len]
  have hL2 : n = (fjG p f g 0).2.length := by show n = g.length; rw [h2.len]
  have HL1 := hide hL1
  have HL2 := hide hL2
  clear hf hg hpr h3 h1 h2 hL1 hL2
  go_enter Try.func171, Try.ntmps171
  go_upto_region 2 with fail
  rw [← hw2]
  clear hw2
  go_cut [11] (fun sq wx => ∃ (q ga gb : Nat), sq = .pointer (some ⟨q, 0, none⟩) ∧ Hid (wx.cell? ⟨q, 0, none⟩ = some (.int .i64 p) ∧ wx.cell? ⟨q, 1, none⟩ = some (.slice (some ⟨ga, 0, none⟩) n n) ∧ wx.cell? ⟨q, 2, none⟩ = some (.slice (some ⟨gb, 0, none⟩) n n)) ∧
      Hid (ga ≠ gb ∧ ga ≠ q ∧ gb ≠ q ∧ w2.heap.size ≤ ga ∧ w2.heap.size ≤ gb) ∧ Hid (w2.heap.size ≤ q ∧ q < wx.heap.size) ∧ Hid (RowI wx ga (List.replicate n 0)) ∧ Hid (RowI wx gb (List.replicate n 0)) ∧ Hid (Below w2.heap.size w2 wx))
  case first =>
    go_wp2_with fail
    go_region
    all_goals go_wp2_with fail
    all_goals go_meet
    all_goals first
      | exact ⟨w2.heap.size + 1 + 1, w2.heap.size, w2.heap.size + 1, rfl, hide ⟨(by first | (simp [go_sem]; done) | fail), (by first | (simp [go_sem]; done) | fail), (by first | (simp [go_sem]; done) | fail)⟩, hide ⟨by omega, by omega, by omega, by omega, by omega⟩, hide ⟨by omega, (by first | (simp; done) | (simp; omega))⟩, hide (((zrow_at _ n _ (by first | rfl | simp)).next (bl2 _ _ _)).next ((Below.refl _ _).drew)), hide (((zrow_at _ n _ (by first | rfl | simp)).next (bl1 _ _)).next ((Below.refl _ _).drew)), hide ((bl3 _ _ _ _).drew)⟩
      | exact ⟨w2.heap.size + 1, w2.heap.size, w2.heap.size + 1 + 1, rfl, hide ⟨(by first | (simp [go_sem]; done) | fail), (by first | (simp [go_sem]; done) | fail), (by first | (simp [go_sem]; done) | fail)⟩, hide ⟨by omega, by omega, by omega, by omega, by omega⟩, hide ⟨by omega, (by first | (simp; done) | (simp; omega))⟩, hide (((zrow_at _ n _ (by first | rfl | simp)).next (bl2 _ _ _)).next ((Below.refl _ _).drew)), hide (((zrow_at _ n _ (by first | rfl | simp))).next ((Below.refl _ _).drew)), hide ((bl3 _ _ _ _).drew)⟩
      | exact ⟨w2.heap.size + 1 + 1, w2.heap.size + 1, w2.heap.size, rfl, hide ⟨(by first | (simp [go_sem]; done) | fail), (by first | (simp [go_sem]; done) | fail), (by first | (simp [go_sem]; done) | fail)⟩, hide ⟨by omega, by omega, by omega, by omega, by omega⟩, hide ⟨by omega, (by first | (simp; done) | (simp; omega))⟩, hide (((zrow_at _ n _ (by first | rfl | simp)).next (bl1 _ _)).next ((Below.refl _ _).drew)), hide (((zrow_at _ n _ (by first | rfl | simp)).next (bl2 _ _ _)).next ((Below.refl _ _).drew)), hide ((bl3 _ _ _ _).drew)⟩
      | exact ⟨w2.heap.size, w2.heap.size + 1, w2.heap.size + 1 + 1, rfl, hide ⟨(by first | (simp [go_sem]; done) | fail), (by first | (simp [go_sem]; done) | fail), (by first | (simp [go_sem]; done) | fail)⟩, hide ⟨by omega, by omega, by omega, by omega, by omega⟩, hide ⟨by omega, (by first | (simp; done) | (simp; omega))⟩, hide (((zrow_at _ n _ (by first | rfl | simp)).next (bl1 _ _)).next ((Below.refl _ _).drew)), hide (((zrow_at _ n _ (by first | rfl | simp))).next ((Below.refl _ _).drew)), hide ((bl3 _ _ _ _).drew)⟩
      | exact ⟨w2.heap.size + 1, w2.heap.size + 1 + 1, w2.heap.size, rfl, hide ⟨(by first | (simp [go_sem]; done) | fail), (by first | (simp [go_sem]; done) | fail), (by first | (simp [go_sem]; done) | fail)⟩, hide ⟨by omega, by omega, by omega, by omega, by omega⟩, hide ⟨by omega, (by first | (simp; done) | (simp; omega))⟩, hide (((zrow_at _ n _ (by first | rfl | simp))).next ((Below.refl _ _).drew)), hide (((zrow_at _ n _ (by first | rfl | simp)).next (bl2 _ _ _)).next ((Below.refl _ _).drew)), hide ((bl3 _ _ _ _).drew)⟩
      | exact ⟨w2.heap.size, w2.heap.size + 1 + 1, w2.heap.size + 1, rfl, hide ⟨(by first | (simp [go_sem]; done) | fail), (by first | (simp [go_sem]; done) | fail), (by first | (simp [go_sem]; done) | fail)⟩, hide ⟨by omega, by omega, by omega, by omega, by omega⟩, hide ⟨by omega, (by first | (simp; done) | (simp; omega))⟩, hide (((zrow_at _ n _ (by first | rfl | simp))).next ((Below.refl _ _).drew)), hide (((zrow_at _ n _ (by first | rfl | simp)).next (bl1 _ _)).next ((Below.refl _ _).drew)), hide ((bl3 _ _ _ _).drew)⟩
  case rest =>
    obtain ⟨q, ga, gb, rfl, hq, hd, hge, rA, rB, hW⟩ := hcut
    obtain ⟨w5, hu⟩ : ∃ u, u = wc := ⟨wc, rfl⟩
    subst hu
    obtain ⟨q0, q1, q2⟩ := hq.out
    obtain ⟨d1, d2, d3, hga, hgb⟩ := hd.out
    obtain ⟨e1, e2⟩ := hge.out
    have hn0 : (0 : Int) < (n : Int) := by omega
    have hn0' : 0 < n := by omega
    have cB := rB.out.cell 0 (by simp; omega)
    have fB := rB.out.free 0
    have v0 : IntKind.i64.wrap ((n : Int) - 1) = (n : Int) - 1 := IntWalk.i64_in _ (by omega)
    obtain ⟨w6, hw6⟩ : ∃ w6, w6 = w5.setCell ⟨gb, 0, none⟩ (.int .i64 b) := ⟨_, rfl⟩
    have RB : Hid (RowI w6 gb (tab n (fjY p f g b n (n - 0)))) := hide (by rw [hw6, Nat.sub_zero, ← fjY_first p f g b n hn1]; exact rB.out.set 0 b)
    have RA : Hid (RowI w6 ga (tab n (fjX p f g n (n - 0)))) := hide (by rw [hw6, Nat.sub_zero, fjX_all]; exact rA.out.other (fun e => d1 e.symm) _)
    have hq6 : Hid (w6.cell? ⟨q, 0, none⟩ = some (.int .i64 p) ∧ w6.cell? ⟨q, 1, none⟩ = some (.slice (some ⟨ga, 0, none⟩) n n) ∧ w6.cell? ⟨q, 2, none⟩ = some (.slice (some ⟨gb, 0, none⟩) n n)) := hide (by rw [hw6]; exact ⟨cell_set2 q0 (by simpa using d3) _, cell_set2 q1 (by simpa using d3) _, cell_set2 q2 (by simpa using d3) _⟩)
    have hW6 : Hid (Below w2.heap.size w2 w6) := hide (by rw [hw6]; exact hW.out.setCell hgb _)
    have hS1 : Hid (SL w6 a1 n1 c1 (fjG p f g 0).1) := hide (G1.below hW6.out)
    have hS2 : Hid (SL w6 a2 n c2 (fjG p f g 0).2) := hide (G2.below hW6.out)
    have hok0 : Hid (fjOk p f g n 0) := hide (fun t ht => by omega)
    have hnb0 : Hid (blk a1 ≠ some ga ∧ blk a1 ≠ some gb ∧ blk a2 ≠ some ga ∧ blk a2 ≠ some gb) := hide ⟨fun h => by have := G1.blk_lt (by omega) _ h; omega, fun h => by have := G1.blk_lt (by omega) _ h; omega, fun h => by have := G2.blk_lt hn0' _ h; omega, fun h => by have := G2.blk_lt hn0' _ h; omega⟩
    have hq6s : q < w6.heap.size := World.block_lt_of_cell? _ _ hq6.out.1
    go_wp2_with fail
    rw [← hw6]
    clear hw6 rA rB cB fB q0 q1 q2 hq hW hge v0
    go_loopw [1, 2, 12] (fun fv gv kv wr => ∃ (s lf lg cf' cg : Nat) (af ag : Option Addr), s ≤ n - 1 ∧ kv = .int .i64 ((n : Int) - 1 - s) ∧ fv = .slice af lf cf' ∧ gv = .slice ag lg cg ∧ Hid (SL wr af lf cf' (fjG p f g s).1) ∧ Hid (SL wr ag lg cg (fjG p f g s).2) ∧ Hid (fjOk p f g n s) ∧ Hid (blk af ≠ some ga ∧ blk af ≠ some gb ∧ blk ag ≠ some ga ∧ blk ag ≠ some gb) ∧ Hid (RowI wr ga (tab n (fjX p f g n (n - s)))) ∧ Hid (RowI wr gb (tab n (fjY p f g b n (n - s)))) ∧
      Hid (wr.cell? ⟨q, 0, none⟩ = some (.int .i64 p) ∧ wr.cell? ⟨q, 1, none⟩ = some (.slice (some ⟨ga, 0, none⟩) n n) ∧ wr.cell? ⟨q, 2, none⟩ = some (.slice (some ⟨gb, 0, none⟩) n n)) ∧ Hid (Below w2.heap.size w2 wr)) (fun _ _ kv _ => (intOf kv).toNat)
    case atStart => exact ⟨0, _, _, _, _, _, _, by omega, by simp, rfl, rfl, hS1, hS2, hok0, hnb0, RA, RB, hq6, hW6⟩
    case round =>
      obtain ⟨s, lf, lg, cf', cg, af, ag, hs, rfl, rfl, rfl, sF, sG, hok, hnb, rA, rB, hq', hW'⟩ := hrel
      clear hS1 hS2 hok0 RA RB hq6 hW6 hq6s hnb0
      have hst := hall.out s hs hok.out
      have hlf : lf = n + 1 - s := by rw [← sF.out.len]; exact hst.l1
      have hlg : lg = n - s := by rw [← sG.out.len]; exact hst.l2
      subst hlf hlg
      have Hst := hide hst
      have zr := hW'.out.size
      clear hst
      by_cases hlt : s < n - 1
      · obtain ⟨K, hK⟩ : ∃ K : Nat, K = n - 1 - s := ⟨_, rfl⟩
        have hki : (n : Int) - 1 - s = (K : Int) := by omega
        rw [hki]
        have hK1 : 1 ≤ K := by omega
        have hKn : K < n := by omega
        have HK := hide hK
        have hKp : (0 : Int) < (K : Int) := by omega
        have hQ2 := quo_two Hpr.out Hst.out.p1 Hst.out.p2 (by rw [Hst.out.l1, Hst.out.l2]; omega) (by rw [Hst.out.l2]; omega)
        have hQp := quoM_poly Hpr.out Hst.out.p1 Hst.out.p2 (by rw [Hst.out.l2]; omega)
        have hRp := remM_poly Hpr.out Hst.out.p1 Hst.out.p2
        clear hK hki
        go_wp2_with fail
        refine (divide_any p _ _ _ _ _ _ _ _ _ sF.out sG.out (by omega) (by omega) (by omega) Hpr.out Hst.out.p1 Hst.out.p2).mono ?_
        rintro e w7 ⟨aq, cq, ar, cr, M, rfl, oq, oR, hM1, hM2, t7⟩
        obtain ⟨Q, hQ⟩ : ∃ Q, quoM p (fjG p f g s).1 (fjG p f g s).2 = Q := ⟨_, rfl⟩
        obtain ⟨R, hR⟩ : ∃ R, remM p (fjG p f g s).1 (fjG p f g s).2 = R := ⟨_, rfl⟩
        have HQ := hide (show fjQ p f g s = Q from hQ)
        have HR := hide (show fjR p f g s = R from hR)
        rw [hQ] at oq hQ2 hQp ⊢
        rw [hR] at oR hRp ⊢
        have hB7 := bthen hW'.out t7 (by omega)
        have z7 := hB7.size
        clear hQ hR
        by_cases hRl : R.length = K
        rotate_left
        · have hbF : fjB p f g n = false := fjB_false hlt (by rw [HR.out, ← HK.out]; exact hRl)
          have hC : fdC p f g n = 5 := by simp [fdC, hbF]
          have HC := hide hC
          have HV := hide (show fdV p f g n = [] by simp [fdV, hC])
          have HU := hide (show fdU p f g b n = [] by simp [fdU, hC])
          have HP := hide (show fdP p f g n = 0 by simp [fdP, hC])
          have ob : ((R.length : Int) != (K : Int)) = true := by simp; omega
          replace r0 := cell_be hB7 r0
          replace r1 := cell_be hB7 r1
          replace r2 := cell_be hB7 r2
          replace y0 := (hB7.frozen (p := ⟨w.heap.size, 0, none⟩) (by simp; omega)).trans y0
          replace y1 := (hB7.frozen (p := ⟨w.heap.size, 1, none⟩) (by simp; omega)).trans y1
          replace y2 := (hB7.frozen (p := ⟨w.heap.size, 2, none⟩) (by simp; omega)).trans y2
          have hBw := hbw.trans (hB7.mono (by omega))
          clear hbF hC hRl
          go_wp2
          refine bodyPost_ret (v := .tuple #[jac 0 none 0 0 none 0 0, .int .i64 5]) (by simp [results, Try.results171, go_sem, r0, r1, r2]) rfl ?_
          exact ResJ.nil HP.out HV.out HU.out HC.out (((hBw.setCell (by simp) _).setCell (by simp) _).setCell (by simp) _)
        have ob : ((R.length : Int) != (K : Int)) = false := by simp; omega
        have Hrl := hide hRl
        have hRl1 : R.length ≤ K := by omega
        have hRl2 : K ≤ R.length := by omega
        obtain ⟨bq, oq', rfl, hbq, hcq⟩ := oq.sl.at (by omega)
        have eQ := hcq 0 (by omega)
        rw [Nat.add_zero] at eQ
        have rQ := getD_rng (polyB_rng hQp).2.1 hp 0
        have hXA : Hid (fjA p f g n K = opp p (Q.getD 0 0)) := hide (by unfold fjA; rw [show n - 1 - K = s by have := HK.out; omega, HQ.out])
        obtain ⟨x, hx⟩ : ∃ x, Q.getD 0 0 = x := ⟨_, rfl⟩
        rw [hx] at eQ rQ hXA
        have u1 := cell_be t7 hq'.out.2.1
        have RA7 := hide (rA.out.next t7)
        have RB7 := hide (rB.out.next t7)
        have cA := RA7.out.cell K (by rw [tab_len]; omega)
        have fA := RA7.out.free K
        have hKlt : (K : Int) < (n : Int) := by omega
        have hQ1 : (0 : Int) < (Q.length : Int) := by omega
        have hQ1' : 0 < Q.length := by omega
        clear hx hcq hRl
        go_wp2
        refine wp_region_still_tail 9 (by kernel_rfl) (by kernel_rfl) ?_
        simp only [List.take_succ_cons, List.take_zero, List.drop_succ_cons, List.drop_zero]
        repeat still_step
        still_call (still_of (opposite_any p x _ hp hp2 rQ.1 rQ.2))
        repeat still_step
        refine wpStill_nil ?_
        go_upto_region 11 with fail
        obtain ⟨hoR, gR', hbgR, hlR⟩ : Own M w7 ar cr R ∧ ∃ g, blk ar = some g ∧ g < w7.heap.size := by
          rcases oR.2 with h | h
          · omega
          · exact h
        obtain ⟨gR, rfl, hgR, hgR2, _⟩ := hoR.blkG (by omega)
        have hgRa : gR ≠ ga := fun e => by have := RA7.out.lt; have := rA.out.lt; omega
        have hgRb : gR ≠ gb := fun e => by have := rB.out.lt; omega
        obtain ⟨w8, hw8⟩ : ∃ w8, w8 = (w7.setCell ⟨ga, K, none⟩ (.int .i64 (opp p x))).drew := ⟨_, rfl⟩
        have eR : w8.cell? ⟨gR, K - 1, none⟩ = some (.int .i64 (R.getD (K - 1) 0)) := by rw [hw8]; exact cell_set2 (hoR.cellG (K - 1) (by omega)) (by simp; omega) _
        have rR := getD_rng (polyB_rng hRp).2.1 hp (K - 1)
        have hXE : Hid (fjE p f g b n K = opp p (R.getD (K - 1) 0)) := hide (by unfold fjE; rw [if_neg (by omega), show n - 1 - K = s by have := HK.out; omega, HR.out])
        obtain ⟨y, hy⟩ : ∃ y, R.getD (K - 1) 0 = y := ⟨_, rfl⟩
        rw [hy] at eR rR hXE
        have u2 : w8.cell? ⟨q, 2, none⟩ = some (.slice (some ⟨gb, 0, none⟩) n n) := by rw [hw8]; exact cell_set2 (cell_be t7 hq'.out.2.2) (by simpa using d2) _
        have u2a : w8.cell? ⟨q, 1, none⟩ = some (.slice (some ⟨ga, 0, none⟩) n n) := by rw [hw8]; exact cell_set2 (cell_be t7 hq'.out.2.1) (by simpa using d2) _
        have u2b : w8.cell? ⟨q, 0, none⟩ = some (.int .i64 p) := by rw [hw8]; exact cell_set2 (cell_be t7 hq'.out.1) (by simpa using d2) _
        have RB8 : Hid (RowI w8 gb (tab n (fjY p f g b n (n - s)))) := hide (by rw [hw8]; exact RB7.out.other (b := ga) (j := K) d1 (.int .i64 (opp p x)))
        have RA8 : Hid (RowI w8 ga (tab n (fjX p f g n K))) := hide (by
          have := RA7.out.set K (opp p x)
          rw [show n - s = K + 1 by have := HK.out; omega, show (tab n (fjX p f g n (K + 1))).set K (opp p x) = tab n (fjX p f g n K) by rw [← hXA.out, fjX_set]] at this
          rw [hw8]
          exact this)
        have hSR : Hid (SL w8 (some ⟨gR, 0, none⟩) R.length cr R) := hide (by rw [hw8]; exact hoR.sl.other (by simpa [blk] using hgRa) _)
        have hSG : Hid (SL w8 ag (n - s) cg (fjG p f g s).2) := hide (by rw [hw8]; exact (sG.out.below t7).other hnb.out.2.2.1 _)
        have hB8 : Below w2.heap.size w2 w8 := by rw [hw8]; exact (hB7.setCell hga _).drew
        have hz8 : w7.heap.size = w8.heap.size := by rw [hw8]; simp
        have cB := RB8.out.cell K (by rw [tab_len]; omega)
        have fB := RB8.out.free K
        have vK : IntKind.i64.wrap ((K : Int) - 1) = (K : Int) - 1 := IntWalk.i64_in _ (by omega)
        have vK2 : ((K : Int) - 1).toNat = K - 1 := by omega
        have lR1 : (K : Int) - 1 < (R.length : Int) := by omega
        have lR2 : (0 : Int) ≤ (K : Int) - 1 := by omega
        have lR3 : (1 : Int) ≤ (K : Int) := by omega
        rw [← hw8]
        have Hz8 := hide hz8
        clear hy RA7 RB7 cA fA u1 eQ hw8 hz8
        refine wp_region_still_tail 11 (by kernel_rfl) (by kernel_rfl) ?_
        simp only [List.take_succ_cons, List.take_zero, List.drop_succ_cons, List.drop_zero]
        repeat still_step
        still_call (still_of (opposite_any p y _ hp hp2 rR.1 rR.2))
        repeat still_step
        refine wpStill_nil ?_
        obtain ⟨w9, hw9⟩ : ∃ w9, w9 = (w8.setCell ⟨gb, K, none⟩ (.int .i64 (opp p y))).drew := ⟨_, rfl⟩
        have hSR9 : Hid (SL w9 (some ⟨gR, 0, none⟩) R.length cr R) := hide (by rw [hw9]; exact hSR.out.other (by simpa [blk] using hgRb) _)
        have hSG9 : Hid (SL w9 ag (n - s) cg (fjG p f g s).2) := hide (by rw [hw9]; exact hSG.out.other hnb.out.2.2.2 _)
        have RA9 : Hid (RowI w9 ga (tab n (fjX p f g n K))) := hide (by rw [hw9]; exact RA8.out.other (b := gb) (j := K) (fun e => d1 e.symm) _)
        have RB9 : Hid (RowI w9 gb (tab n (fjY p f g b n K))) := hide (by
          have := RB8.out.set K (opp p y)
          rw [show n - s = K + 1 by have := HK.out; omega, show (tab n (fjY p f g b n (K + 1))).set K (opp p y) = tab n (fjY p f g b n K) by rw [← hXE.out, fjY_set]] at this
          rw [hw9]
          exact this)
        have hq9 : Hid (w9.cell? ⟨q, 0, none⟩ = some (.int .i64 p) ∧ w9.cell? ⟨q, 1, none⟩ = some (.slice (some ⟨ga, 0, none⟩) n n) ∧ w9.cell? ⟨q, 2, none⟩ = some (.slice (some ⟨gb, 0, none⟩) n n)) := hide (by rw [hw9]; exact ⟨cell_set2 u2b (by simpa using d3) _, cell_set2 u2a (by simpa using d3) _, cell_set2 u2 (by simpa using d3) _⟩)
        have hB9 : Below w2.heap.size w2 w9 := by rw [hw9]; exact (hB8.setCell hgb _).drew
        have hz9 : w8.heap.size = w9.heap.size := by rw [hw9]; simp
        have Hz9 := hide hz9
        have hRa := hide (polyB_rng hRp).2.1
        have hok2 : Hid (fjOk p f g n (s + 1)) := hide (fun t ht => by
          by_cases e : t < s
          · exact hok.out t e
          · rw [show t = s by omega, HR.out, Hrl.out, HK.out])
        have hG1 : Hid ((fjG p f g (s + 1)).1 = (fjG p f g s).2) := hide rfl
        have hG2 : Hid ((fjG p f g (s + 1)).2 = monM p R) := hide (by rw [fjG_succ, HR.out])
        clear hz9 vK vK2 eR u2a u2b RA8 RB8 hSR hSG hq' rA rB
        go_wp2_with fail
        rw [← hw9]
        clear hw9 cB fB u2
        refine (monic_any p _ _ _ R _ hSR9.out (by omega) hp hp2 hRa.out).mono ?_
        rintro e w10 ⟨am, cm, rfl, ho10, t10⟩
        have z9 := hB9.size
        have hB10 := bthen hB9 t10 (by omega)
        have hbm := own_blk_ge ho10
        have hga9 := RA9.out.lt
        have hgb9 := RB9.out.lt
        have hnb2 : Hid (blk ag ≠ some ga ∧ blk ag ≠ some gb ∧ blk am ≠ some ga ∧ blk am ≠ some gb) := hide ⟨hnb.out.2.2.1, hnb.out.2.2.2, fun h => by have := hbm _ h; omega, fun h => by have := hbm _ h; omega⟩
        have vK : IntKind.i64.wrap ((K : Int) - 1) = (K : Int) - 1 := IntWalk.i64_in _ (by omega)
        have sF2 : Hid (SL w10 ag (n - s) cg (fjG p f g (s + 1)).1) := hide (by rw [hG1.out]; exact hSG9.out.below t10)
        have sG2 : Hid (SL w10 am (monM p R).length cm (fjG p f g (s + 1)).2) := hide (by rw [hG2.out]; exact ho10.sl)
        have hKs : Hid (n - (s + 1) = K) := hide (by have := HK.out; omega)
        have RA10 : Hid (RowI w10 ga (tab n (fjX p f g n (n - (s + 1))))) := hide (by rw [hKs.out]; exact RA9.out.next t10)
        have RB10 : Hid (RowI w10 gb (tab n (fjY p f g b n (n - (s + 1))))) := hide (by rw [hKs.out]; exact RB9.out.next t10)
        have hq10 : Hid (w10.cell? ⟨q, 0, none⟩ = some (.int .i64 p) ∧ w10.cell? ⟨q, 1, none⟩ = some (.slice (some ⟨ga, 0, none⟩) n n) ∧ w10.cell? ⟨q, 2, none⟩ = some (.slice (some ⟨gb, 0, none⟩) n n)) := hide ⟨cell_be t10 hq9.out.1, cell_be t10 hq9.out.2.1, cell_be t10 hq9.out.2.2⟩
        have hW10 := hide hB10
        have hkk : Hid ((K : Int) - 1 = (n : Int) - 1 - ((s + 1 : Nat) : Int)) := hide (by have := HK.out; omega)
        clear ho10 hbm hnb
        go_wp2
        go_roundw
        case rel => exact ⟨s + 1, _, _, _, _, _, _, by omega, by rw [← hkk.out], rfl, rfl, sF2, sG2, hok2, hnb2, RA10, RB10, hq10, hW10⟩
        case measure => first | (simp [intOf]; done) | (simp [intOf]; omega)
      · have hse : s = n - 1 := by omega
        subst hse
        have hki : (n : Int) - 1 - ((n - 1 : Nat) : Int) = 0 := by omega
        rw [hki]
        have hl1 : n + 1 - (n - 1) = 2 := by omega
        have hl2 : n - (n - 1) = 1 := by omega
        have hbT : fjB p f g n = true := fjB_true hok.out
        have hC : fdC p f g n = 0 := by simp [fdC, hbT]
        have HC := hide hC
        have HV := hide (show fdV p f g n = tab n (fjA p f g n) by simp [fdV, hC])
        have HU := hide (show fdU p f g b n = tab n (fjE p f g b n) by simp [fdU, hC])
        have HP := hide (show fdP p f g n = p by simp [fdP, hC])
        obtain ⟨ba, oa, rfl, hba, hca⟩ := sF.out.at (by omega)
        have eF := hca 0 (by omega)
        rw [Nat.add_zero] at eF
        have rF := getD_rng (polyB_rng Hst.out.p1).2.1 hp 0
        obtain ⟨x, hx⟩ : ∃ x, (fjG p f g (n - 1)).1.getD 0 0 = x := ⟨_, rfl⟩
        have hQ1 := quo_one Hpr.out Hst.out.p1 Hst.out.p2 (by rw [Hst.out.l2]; omega) (by have := Hst.out.t2; rwa [show n - (n - 1) - 1 = 0 by omega] at this)
        have hX0 : Hid (fjA p f g n 0 = opp p x) := hide (by unfold fjA fjQ; rw [Nat.sub_zero, hQ1, hx])
        rw [hx] at eF rF
        rw [hl1, hl2]
        have u1 := hq'.out.2.1
        have u2 := hq'.out.2.2
        have u0 := hq'.out.1
        have cA := rA.out.cell 0 (by rw [tab_len]; omega)
        have fA := rA.out.free 0
        clear hl1 hl2 hbT hC hx hca hlt hki hQ1
        go_wp2
        refine wp_region_still_tail 8 (by kernel_rfl) (by kernel_rfl) ?_
        simp only [List.take_succ_cons, List.take_zero, List.drop_succ_cons, List.drop_zero]
        repeat still_step
        still_call (still_of (opposite_any p x _ hp hp2 rF.1 rF.2))
        repeat still_step
        refine wpStill_nil ?_
        obtain ⟨w9, hw9⟩ : ∃ w9, w9 = (wr.setCell ⟨ga, 0, none⟩ (.int .i64 (opp p x))).drew := ⟨_, rfl⟩
        have RA9 : Hid (RowI w9 ga (tab n (fjA p f g n))) := hide (by
          have := rA.out.set 0 (opp p x)
          rw [show n - (n - 1) = 0 + 1 by omega, show (tab n (fjX p f g n (0 + 1))).set 0 (opp p x) = tab n (fjA p f g n) by rw [← hX0.out, fjX_set]; exact tab_congr fun j _ => by unfold fjX; rw [if_pos (Nat.zero_le j)]] at this
          rw [hw9]
          exact this)
        have RB9 : Hid (RowI w9 gb (tab n (fjE p f g b n))) := hide (by
          have := rB.out.other (b := ga) (j := 0) d1 (.int .i64 (opp p x))
          rw [show tab n (fjY p f g b n (n - (n - 1))) = tab n (fjE p f g b n) from tab_congr fun j _ => by unfold fjY; rw [if_pos (by omega)]] at this
          rw [hw9]
          exact this)
        have hB9 : Below w2.heap.size w2 w9 := by rw [hw9]; exact (hW'.out.setCell hga _).drew
        have v0 : w9.cell? ⟨q, 0, none⟩ = some (.int .i64 p) := by rw [hw9]; exact cell_set2 u0 (by simpa using d2) _
        have v1 : w9.cell? ⟨q, 1, none⟩ = some (.slice (some ⟨ga, 0, none⟩) n n) := by rw [hw9]; exact cell_set2 u1 (by simpa using d2) _
        have v2 : w9.cell? ⟨q, 2, none⟩ = some (.slice (some ⟨gb, 0, none⟩) n n) := by rw [hw9]; exact cell_set2 u2 (by simpa using d2) _
        replace r0 := cell_be hB9 r0
        replace r1 := cell_be hB9 r1
        replace r2 := cell_be hB9 r2
        replace y0 := (hB9.frozen (p := ⟨w.heap.size, 0, none⟩) (by simp; omega)).trans y0
        replace y1 := (hB9.frozen (p := ⟨w.heap.size, 1, none⟩) (by simp; omega)).trans y1
        replace y2 := (hB9.frozen (p := ⟨w.heap.size, 2, none⟩) (by simp; omega)).trans y2
        have hBw := hbw.trans (hB9.mono (by omega))
        clear u2 u0 eF
        go_upto_region 14 with fail
        rw [← hw9]
        clear hw9 cA fA u1
        go_wp2
        obtain ⟨w10, hw10⟩ : ∃ w10, w10 = (((w9.setCell ⟨w.heap.size, 0, none⟩ (.int .i64 p)).setCell ⟨w.heap.size, 1, none⟩ (.slice (some ⟨ga, 0, none⟩) n n)).setCell ⟨w.heap.size, 2, none⟩ (.slice (some ⟨gb, 0, none⟩) n n)) := ⟨_, rfl⟩
        have hwa : w.heap.size ≠ ga := by omega
        have hwb : w.heap.size ≠ gb := by omega
        have RA10 : RowI w10 ga (tab n (fjA p f g n)) := by rw [hw10]; exact ((RA9.out.other hwa _).other hwa _).other hwa _
        have RB10 : RowI w10 gb (tab n (fjE p f g b n)) := by rw [hw10]; exact ((RB9.out.other hwb _).other hwb _).other hwb _
        have OA := OZ.of (n := n) (RA10.own' (B := w.heap.size) (by omega) (by rw [tab_len]; unfold maxLen; omega)) (by rw [tab_len])
        have OB := OZ.of (n := n) (RB10.own' (B := w.heap.size) (by omega) (by rw [tab_len]; unfold maxLen; omega)) (by rw [tab_len])
        rw [tab_len] at OA OB
        have hB10 : Below w.heap.size w w10 := by rw [hw10]; exact ((hBw.setCell (by simp) _).setCell (by simp) _).setCell (by simp) _
        refine bodyPost_ret (v := .tuple #[jac p (some ⟨ga, 0, none⟩) n n (some ⟨gb, 0, none⟩) n n, .int .i64 0]) (by simp [results, Try.results171, go_sem, r0, r1, r2]) rfl ?_
        rw [← hw10]
        refine ResJ.mk HP.out HC.out ?_ ?_ (b := some ⟨gb, 0, none⟩) (cap := n) (cap' := n) ⟨?_, ?_, ?_⟩ ?_ ?_ hB10
        · rw [HV.out, tab_len]
        · rw [HU.out, tab_len]
        · rw [HV.out]; exact OA
        · rw [HU.out]; exact OB
        · exact .inr (.inr (fun e => d1 (by simpa [blk] using e)))
        · rw [HV.out, tab_len]; omega
        · rw [HU.out, tab_len]; omega
end Go.Proofs.Ytmdfgibpkfkceaa
