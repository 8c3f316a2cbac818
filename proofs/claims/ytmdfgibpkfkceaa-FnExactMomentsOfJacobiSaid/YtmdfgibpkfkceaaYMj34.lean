/- Merged texts. -/
import Derived.Test.YtmdfgibpkfkceaaYMj31
import Derived.Test.YtmdfgibpkfkceaaYMj33
import Derived.Test.YtmdfgibpkfkceaaYMj7
import Derived.Test.YtmdfgibpkfkceaaYMj18
/- The determinant of the rows of two lists (model): l06Sylvester. -/
namespace Go.Proofs.Ytmdfgibpkfkceaa
open Go.RowKit
set_option linter.unusedVariables false
set_option linter.unusedSimpArgs false

/-- A row in which the first k numbers of A are laid from o on. -/
def rowT (A : List Int) (o k : Nat) : Nat → Int := fun j => if o ≤ j ∧ j < o + k then A.getD (j - o) 0 else 0
theorem rowT_zero (A : List Int) (o N : Nat) : tab N (fun _ => 0) = tab N (rowT A o 0) := tab_congr fun j _ => by
  unfold rowT
  rw [if_neg (by omega)]
theorem rowT_set (A : List Int) (o k N : Nat) : (tab N (rowT A o k)).set (o + k) (A.getD k 0) = tab N (rowT A o (k + 1)) := by
  rw [tab_set]
  apply tab_congr
  intro j _
  unfold rowT
  by_cases e : j = o + k
  · subst e
    rw [if_pos rfl, if_pos (by omega), Nat.add_sub_cancel_left]
  · rw [if_neg e]
    by_cases h : o ≤ j ∧ j < o + k
    · rw [if_pos h, if_pos (by omega)]
    · rw [if_neg h, if_neg (by omega)]
theorem rowT_first (n m : Nat) (A B : List Int) (i : Nat) (hi : i < m) : tab (n + m) (rowT A i (n + 1)) = sylX n m A B i := tab_congr fun j _ => by
  unfold sylR rowT
  rw [if_pos hi]
theorem rowT_second (n m : Nat) (A B : List Int) (k : Nat) : tab (n + m) (rowT B k (m + 1)) = sylX n m A B (m + k) := tab_congr fun j _ => by
  unfold sylR
  rw [if_neg (show ¬ m + k < m by omega), Nat.add_sub_cancel_left]
  rfl
theorem revL_at2 (f : List Int) (k : Nat) (h : k < f.length) : (revL f).getD k 0 = f.getD (f.length - 1 - k) 0 := by
  unfold revL
  rw [tab_at _ _ _ h]
theorem Coll.push {w3 wl w' : World} {a' ad' : Option Addr} {N i G : Nat} {vs : List Value} {X : Nat → List Int} (hC : Coll w3 a' N vs X i) (hvl : vs.length = i) (hG : G < w3.heap.size)
    (hs : SL w3 (some ⟨G, 0, none⟩) N N (X i)) (hne : ∀ b, blk a' = some b → b < w3.heap.size ∧ b ≠ G) (hba : Below w3.heap.size w3 wl) (hzl : w3.heap.size ≤ wl.heap.size) (hgr : wl.grownBy w' (blk a')) (hloc : blk ad' = blk a' ∨ blk ad' = some wl.heap.size) :
    Coll w' ad' N (vs ++ [Value.slice (some ⟨G, 0, none⟩) N N]) X (i + 1) := fun j hj => by
  have hsz := hgr.size
  by_cases e : j = i
  · subst e
    refine ⟨_, _, by rw [List.getElem?_append_right (by omega), hvl]; simp, (hs.below hba).grown hgr (fun b' hb' hr => ?_), fun b' hb' => ⟨fun hr => ?_, ?_⟩⟩
    · simp [blk] at hb'
      subst hb'
      exact (hne _ hr).2 rfl
    · simp [blk] at hb'
      subst hb'
      rcases hloc with h | h
      · rw [h] at hr
        exact (hne _ hr).2 rfl
      · rw [h] at hr
        simp at hr
        omega
    · simp [blk] at hb'
      omega
  · obtain ⟨a0, c0, h1, h2, h3⟩ := hC j (by omega)
    refine ⟨a0, c0, by rw [List.getElem?_append_left (by omega)]; exact h1, (h2.below hba).grown hgr (fun b' hb' => (h3 b' hb').1), fun b' hb' => ⟨fun hr => ?_, by have := (h3 b' hb').2; omega⟩⟩
    rcases hloc with h | h
    · rw [h] at hr
      exact (h3 b' hb').1 hr
    · rw [h] at hr
      simp at hr
      have := (h3 b' hb').2
      omega
theorem Coll.below {w w' : World} {r : Option Addr} {n i : Nat} {vs : List Value} {X : Nat → List Int} (h : Coll w r n vs X i) (hb : Below w.heap.size w w') : Coll w' r n vs X i := fun j hj => by
  obtain ⟨a0, c0, h1, h2, h3⟩ := h j hj
  exact ⟨a0, c0, h1, h2.below hb, fun b hbb => ⟨(h3 b hbb).1, Nat.lt_of_lt_of_le (h3 b hbb).2 hb.size⟩⟩
end Go.Proofs.Ytmdfgibpkfkceaa
/- Contracts: MatrixOf (program), l03Matrix, MatrixOf (model). -/
namespace Go.Proofs.Ytmdfgibpkfkceaa
open Go.RowKit
set_option linter.unusedVariables false
set_option linter.unusedSimpArgs false

/-- What a list of lists of the model's is known by: its rows, in blocks below hi. -/
def ZS (hi : Nat) (w : World) (a : Option Addr) (n : Nat) (X : Nat → List Int) : Prop :=
  n = 0 ∨ ∃ (g : Nat) (A : Nat → Option Addr) (C : Nat → Nat), a = some ⟨g, 0, none⟩ ∧ g < hi ∧ ∀ i, i < n → w.cell? ⟨g, i, none⟩ = some (.slice (A i) (X i).length (C i)) ∧ SL w (A i) (X i).length (C i) (X i) ∧ ∀ b, blk (A i) = some b → b < hi
theorem ZS.below {hi n : Nat} {w w' : World} {a : Option Addr} {X : Nat → List Int} (h : ZS hi w a n X) (hb : Below w.heap.size w w') : ZS hi w' a n X := by
  rcases h with h | ⟨g, A, C, ha, hg, h⟩
  · exact .inl h
  · exact .inr ⟨g, A, C, ha, hg, fun i hi => ⟨cell_be hb (h i hi).1, (h i hi).2.1.below hb, (h i hi).2.2⟩⟩
theorem ZS.touch {hi lo' hi' n : Nat} {w w' : World} {a : Option Addr} {X : Nat → List Int} (h : ZS hi w a n X) (t : Touch lo' hi' w w') (hd : hi ≤ lo') : ZS hi w' a n X := by
  rcases h with h | ⟨g, A, C, ha, hg, h⟩
  · exact .inl h
  · exact .inr ⟨g, A, C, ha, hg, fun i q => ⟨t.cell (h i q).1 (.inl (by omega)), (h i q).2.1.touchZ t (lo := 0) (hi := hi) (fun b hb => ⟨Nat.zero_le _, (h i q).2.2 b hb⟩) (.inl hd), (h i q).2.2⟩⟩
theorem eqZ2 {lo hi hi' : Nat} {a b : Option Addr} {n c d : Nat} {X : Nat → List Int} (w : World) (h1 : ZL lo hi w a n c X) (h2 : ZS hi' w b n X) (hn : n ≤ 1000) (hX : ∀ i, i < n → (X i).length ≤ 1000) :
    Calls Try.prog 16 #[.slice a n c, .slice b n d] w fun e w' => e = .returned (.bool true) ∧ Below w.heap.size w w' := by
  rcases h1 with h1 | ⟨g, A, C, rfl, h1⟩
  · subst h1
    exact eqSS_none a b c d w
  · rcases h2 with h2 | ⟨g', A', C', rfl, _, h2⟩
    · subst h2
      exact eqSS_none _ b c d w
    · exact eqSS g g' n c d A A' _ C C' X w (h1.lists hX) (fun i hi => ⟨(h2 i hi).1, (h2 i hi).2.1, Nat.le_trans (hX i hi) (by omega)⟩) (by omega)
/-- A list of lists of the model's, and a code. -/
def ResS (w : World) (X : Nat → List Int) (n : Nat) (c : Int) (e : Ending) (w' : World) : Prop :=
  ∃ a cap, e = .returned (.tuple #[.slice a n cap, .int .i64 c]) ∧ ZS w'.heap.size w' a n X ∧ Below w.heap.size w w'
theorem ResS.nil {w w' : World} {X : Nat → List Int} {n : Nat} {c c' : Int} (hn : n = 0) (hc : c = c') (hb : Below w.heap.size w w') : ResS w X n c (.returned (.tuple #[.slice none 0 0, .int .i64 c'])) w' := by
  subst hn; subst hc
  exact ⟨none, 0, rfl, .inl rfl, hb⟩
theorem MatW.zl {w : World} {L g n lo hi cap : Nat} {Y : List Int} {X : Nat → List Int} (h : MatW w L g n Y) (hX : ∀ i, i < n → X i = rowM n Y i) (h1 : lo ≤ L) (h2 : L < hi) (h3 : lo ≤ g) (h4 : g < hi) : ZL lo hi w (some ⟨g, 0, none⟩) n cap X := by
  have hl : ∀ i, i < n → (X i).length = n := fun i hi => by rw [hX i hi]; exact tab_len _ _
  refine .inr ⟨g, fun i => some ⟨L, i * n, none⟩, fun _ => n, rfl, ⟨fun i hi => by rw [hl i hi]; exact h.cell i hi, fun i hi => by rw [hX i hi]; have := h.slr i hi; rwa [show (rowM n Y i).length = n from tab_len _ _], fun i hi b o hA j hj => ?_, fun i hi b hb => ?_, fun i j hi hj hij b o o' hA hA' => ?_, h3, h4⟩⟩
  · simp only [Option.some.injEq, Addr.mk.injEq, and_true] at hA
    obtain ⟨rfl, rfl⟩ := hA
    exact h.free _
  · have : L = b := by simpa [blk] using hb
    subst this
    exact ⟨h1, h2, h.ne⟩
  · simp only [Option.some.injEq, Addr.mk.injEq, and_true] at hA hA'
    obtain ⟨rfl, rfl⟩ := hA
    obtain ⟨_, rfl⟩ := hA'
    rw [hl i hi, hl j hj]
    rcases Nat.lt_or_gt_of_ne hij with h5 | h5
    · have := Nat.mul_le_mul_right n (show i + 1 ≤ j by omega)
      rw [Nat.add_mul] at this
      omega
    · have := Nat.mul_le_mul_right n (show j + 1 ≤ i by omega)
      rw [Nat.add_mul] at this
      omega
/-- The numbers of the matrix of data. -/
def matR (xs ys : List Int) (i j : Nat) : Int := if j = i then xs.getD i 0 else if j + 1 = i then ys.getD i 0 else if j = i + 1 then 1 else 0
def mxX (xs ys : List Int) (i : Nat) : List Int := tab xs.length (matR xs ys i)
def mxC (p : Int) (xs ys : List Int) : Int := if jacB p xs ys then 0 else 1
def mxN (p : Int) (xs ys : List Int) : Nat := if jacB p xs ys then xs.length else 0
/-- The matrix when the first i rows and columns are laid. -/
def mwT (n : Nat) (R : Nat → Nat → Int) (i : Nat) : Nat → Int := fun t => if t / n < i ∧ t % n < i then R (t / n) (t % n) else 0
theorem idx_eq {n t a b : Nat} (hb : b < n) : t = a * n + b ↔ t / n = a ∧ t % n = b := by
  constructor
  · rintro rfl
    exact div_row hb
  · rintro ⟨h1, h2⟩
    have := Nat.div_add_mod t n
    rw [h1, h2, Nat.mul_comm] at this
    omega
theorem mw_zero (n : Nat) (R : Nat → Nat → Int) (M : Nat) : tab M (fun _ => 0) = tab M (mwT n R 0) := tab_congr fun t _ => by simp [mwT]
theorem mw_first (n : Nat) (R : Nat → Nat → Int) (hn : 0 < n) : (tab (n * n) (mwT n R 0)).set (0 * n + 0) (R 0 0) = tab (n * n) (mwT n R 1) := by
  rw [tab_set]
  apply tab_congr
  intro t _
  have e := idx_eq (t := t) (a := 0) hn
  simp only [e, mwT]
  generalize t / n = r
  generalize t % n = c
  by_cases h : r = 0 ∧ c = 0
  · obtain ⟨rfl, rfl⟩ := h
    simp
  · rw [if_neg h, if_neg (by omega), if_neg (by omega)]
theorem mw_step (n : Nat) (R : Nat → Nat → Int) (k : Nat) (hk : k + 1 < n) (h1 : ∀ c, c < k → R (k + 1) c = 0) (h2 : ∀ c, c < k → R c (k + 1) = 0) :
    (((tab (n * n) (mwT n R (k + 1))).set ((k + 1) * n + (k + 1)) (R (k + 1) (k + 1))).set (k * n + (k + 1)) (R k (k + 1))).set ((k + 1) * n + k) (R (k + 1) k) = tab (n * n) (mwT n R (k + 1 + 1)) := by
  rw [tab_set, tab_set, tab_set]
  apply tab_congr
  intro t _
  have e1 := idx_eq (t := t) (a := k + 1) (b := k + 1) hk
  have e2 := idx_eq (t := t) (a := k) (b := k + 1) hk
  have e3 := idx_eq (t := t) (a := k + 1) (b := k) (show k < n by omega)
  simp only [e1, e2, e3, mwT]
  generalize t / n = r
  generalize t % n = c
  by_cases c3 : r = k + 1 ∧ c = k
  · obtain ⟨rfl, rfl⟩ := c3
    rw [if_pos ⟨rfl, rfl⟩, if_pos ⟨by omega, by omega⟩]
  · rw [if_neg c3]
    by_cases c2 : r = k ∧ c = k + 1
    · obtain ⟨rfl, rfl⟩ := c2
      rw [if_pos ⟨rfl, rfl⟩, if_pos ⟨by omega, by omega⟩]
    · rw [if_neg c2]
      by_cases c1 : r = k + 1 ∧ c = k + 1
      · obtain ⟨rfl, rfl⟩ := c1
        rw [if_pos ⟨rfl, rfl⟩, if_pos ⟨by omega, by omega⟩]
      · rw [if_neg c1]
        by_cases c0 : r < k + 1 ∧ c < k + 1
        · rw [if_pos c0, if_pos ⟨by omega, by omega⟩]
        · rw [if_neg c0]
          by_cases c4 : r < k + 1 + 1 ∧ c < k + 1 + 1
          · rw [if_pos c4]
            rcases (show r = k + 1 ∨ r ≤ k by omega) with h | h
            · subst h
              exact (h1 c (by omega)).symm
            · have : c = k + 1 := by omega
              subst this
              exact (h2 r (by omega)).symm
          · rw [if_neg c4]
theorem mw_row (n : Nat) (R : Nat → Nat → Int) (i : Nat) (hi : i < n) : rowM n (tab (n * n) (mwT n R n)) i = tab n (R i) := by
  unfold rowM
  apply tab_congr
  intro j hj
  rw [tab_at _ _ _ (mat_lt hi hj)]
  unfold mwT
  rw [(div_row hj).1, (div_row hj).2, if_pos ⟨hi, hj⟩]
set_option maxRecDepth 100000 in
set_option maxHeartbeats 6400000 in
theorem implMatrixOf (p : Int) (a : Option Addr) (n c : Nat) (xs : List Int) (b : Option Addr) (m d : Nat) (ys : List Int) (w : World) (hs : SL w a n c xs) (ht : SL w b m d ys) (hn : n ≤ 4000000) (hm : m ≤ 4000000) :
    Calls Try.prog 61 #[jac p a n c b m d] w (ResL w (mxX xs ys) (mxN p xs ys) (mxC p xs ys)) := by
  have hl := hide hs.len
  have hl2 := hide ht.len
  have hb0 := bl1 w (.cells #[.int .i64 p, .slice a n c, .slice b m d] 39)
  have g1 := hs.below hb0
  have g2 := ht.below hb0
  cases hj : jacB p xs ys
  · have HJ := hide hj
    have HC := hide (show mxC p xs ys = 1 by simp [mxC, hj])
    have HN := hide (show mxN p xs ys = 0 by simp [mxN, hj])
    clear hj
    go_enter Try.func61, Try.ntmps61
    go_wp2_with fail
    refine (implIsJacobi _ _ _ _ _ _ _ _ _ _ g1 g2 hn hm).mono ?_
    rintro e w2 ⟨rfl, hm2⟩
    have hB2 := bnext hb0 hm2
    rw [HJ.out]
    go_wp2
    go_ret2
    exact ResL.nil HN.out HC.out hB2
  obtain ⟨hpr, n1, n2, n3, hx, hy⟩ := jacB_rng hj
  have HJ := hide hj
  have HC := hide (show mxC p xs ys = 0 by simp [mxC, hj])
  have HN := hide (show mxN p xs ys = n by simp only [mxN, hj, if_true]; exact hl.out)
  rw [hl.out] at n1 n2 n3
  rw [hl2.out] at n3
  subst n3
  obtain ⟨R, hR⟩ : ∃ R, matR xs ys = R := ⟨_, rfl⟩
  have HR0 := hide (fun i => show R i i = xs.getD i 0 by rw [← hR]; simp [matR])
  have HR1 := hide (fun k => show R k (k + 1) = 1 by rw [← hR]; unfold matR; rw [if_neg (by omega), if_neg (by omega), if_pos rfl])
  have HR2 := hide (fun k => show R (k + 1) k = ys.getD (k + 1) 0 by rw [← hR]; unfold matR; rw [if_neg (by omega), if_pos rfl])
  have HR3 := hide (fun k => show (∀ c, c < k → R (k + 1) c = 0) ∧ (∀ c, c < k → R c (k + 1) = 0) by
    rw [← hR]
    refine ⟨fun c hc => ?_, fun c hc => ?_⟩
    · unfold matR; rw [if_neg (by omega), if_neg (by omega), if_neg (by omega)]
    · unfold matR; rw [if_neg (by omega), if_neg (by omega), if_neg (by omega)])
  have HX := hide (fun i => show mxX xs ys i = tab m (R i) by unfold mxX; rw [hl.out, hR])
  obtain ⟨ba, oa, rfl, hba, hca⟩ := hs.at (by omega)
  obtain ⟨bb, ob, rfl, hbb, hcb⟩ := ht.at (by omega)
  have Hca := hide hca
  have Hcb := hide hcb
  clear hj hpr hx hy hR hca hcb
  go_enter Try.func61, Try.ntmps61
  go_wp2_with fail
  refine (implIsJacobi _ _ _ _ _ _ _ _ _ _ g1 g2 hn hm).mono ?_
  rintro e w2 ⟨rfl, hm2⟩
  have hB2 := bnext hb0 hm2
  have z2 := hm2.size
  simp at z2
  rw [HJ.out]
  have f1 : w2.cell? ⟨w.heap.size, 1, none⟩ = some (.slice (some ⟨ba, oa, none⟩) m c) := cell_be hm2 (by simp [go_sem])
  have f2 : w2.cell? ⟨w.heap.size, 2, none⟩ = some (.slice (some ⟨bb, ob, none⟩) m d) := cell_be hm2 (by simp [go_sem])
  clear hm2
  go_wp2_with fail
  refine (zeroMatrix_any m w2 (by omega)).mono ?_
  rintro e w3 ⟨rfl, hM, hb3⟩
  rw [mw_zero m R] at hM
  have HM := hide hM
  have f3 := cell_be hb3 f1
  have f4 := cell_be hb3 f2
  have hB3 := hB2.trans (hb3.mono hB2.size)
  have z3 := hb3.size
  clear hM
  go_wp2
  go_loopw [17] (fun iv wr => ∃ i : Nat, i ≤ m ∧ iv = .int .i64 i ∧ Hid (MatW wr w2.heap.size (w2.heap.size + 1) m (tab (m * m) (mwT m R i))) ∧ Below w2.heap.size w2 wr) (fun iv _ => m - (intOf iv).toNat)
  case atStart => exact ⟨0, by omega, rfl, HM, hb3⟩
  case round =>
    obtain ⟨i, hi, rfl, hM, hBr⟩ := hrel
    clear HM hb3 f3 f4 hB3
    by_cases hlt : i < m
    · have hlt' : (i : Int) < (m : Int) := by omega
      have ea := cell_be (hB2.trans (hBr.mono hB2.size)) (Hca.out i hlt)
      have r2 := cell_be hBr f2
      have cR := hM.out.cell i hlt
      have hset := hM.out.set (i * m + i) (R i i)
      have hcw := hM.out.num i i hlt hlt
      obtain ⟨P, hP⟩ : ∃ P, i * m = P := ⟨_, rfl⟩
      obtain ⟨x, hx⟩ : ∃ x, xs.getD i 0 = x := ⟨_, rfl⟩
      obtain ⟨o1, ho1⟩ : ∃ o1, (tab (m * m) (mwT m R i)).getD (i * m + i) 0 = o1 := ⟨_, rfl⟩
      rw [ho1, hP] at hcw
      rw [HR0.out i, hx, hP] at hset
      rw [hx] at ea
      rw [hP] at cR
      have HP := hide hP
      have Hx := hide hx
      have hfr := hM.out.free (P + i)
      have q2 : (0 : Int) ≤ (i : Int) := by omega
      have Hset := hide hset
      have hB1 := hBr.setCell (p := ⟨w2.heap.size, P + i, none⟩) (by simp) (.int .i64 x)
      clear ho1 hP hx hset
      by_cases h0 : i = 0
      · have hY : Hid (MatW (wr.setCell ⟨w2.heap.size, P + i, none⟩ (.int .i64 x)) w2.heap.size (w2.heap.size + 1) m (tab (m * m) (mwT m R (i + 1)))) := hide (by
          have t := Hset.out
          rw [← Hx.out, ← HR0.out i, ← HP.out] at t
          rw [← Hx.out, ← HR0.out i, ← HP.out]
          subst h0
          rw [mw_first m R (by omega)] at t
          exact t)
        have q1 : ¬ (0 : Int) < (i : Int) := by omega
        clear Hset hM h0
        go_wp2
        go_roundw
        case rel => exact ⟨i + 1, by omega, by go_num, hY, hB1⟩
        case measure => simp [intOf]; omega
      · obtain ⟨k, hk⟩ : ∃ k, i - 1 = k := ⟨_, rfl⟩
        have hk1 : k < m := by omega
        have Hk := hide (show i = k + 1 by omega)
        have q1 : (0 : Int) < (i : Int) := by omega
        have vk : IntKind.i64.wrap ((i : Int) - 1) = (k : Int) := by rw [show (i : Int) - 1 = (k : Int) by omega]; exact IntWalk.i64_in _ (by omega)
        have q3 : (k : Int) < (m : Int) := by omega
        have q4 : (0 : Int) ≤ (k : Int) := by omega
        obtain ⟨W1, hW1⟩ : ∃ W1, W1 = wr.setCell ⟨w2.heap.size, P + i, none⟩ (.int .i64 x) := ⟨_, rfl⟩
        rw [← hW1] at Hset hB1
        have cK := Hset.out.cell k hk1
        have cn1 := Hset.out.num k i hk1 hlt
        have set2 := Hset.out.set (k * m + i) 1
        obtain ⟨Q, hQ⟩ : ∃ Q, k * m = Q := ⟨_, rfl⟩
        obtain ⟨o2, ho2⟩ : ∃ o2, ((tab (m * m) (mwT m R i)).set (P + i) x).getD (k * m + i) 0 = o2 := ⟨_, rfl⟩
        rw [ho2, hQ] at cn1
        rw [hQ] at cK set2
        have HQ := hide hQ
        have fr2 := Hset.out.free (Q + i)
        have hB2' := hB1.setCell (p := ⟨w2.heap.size, Q + i, none⟩) (by simp) (.int .i64 1)
        obtain ⟨W2, hW2⟩ : ∃ W2, W2 = W1.setCell ⟨w2.heap.size, Q + i, none⟩ (.int .i64 1) := ⟨_, rfl⟩
        rw [← hW2] at set2 hB2'
        have Hset2 := hide set2
        have cI := Hset2.out.cell i hlt
        have cn2 := Hset2.out.num i k hlt hk1
        have eb := cell_be (hB2.trans (hB2'.mono hB2.size)) (Hcb.out i hlt)
        have r3 := cell_be hB2' f2
        obtain ⟨y, hy⟩ : ∃ y, ys.getD i 0 = y := ⟨_, rfl⟩
        rw [hy] at eb
        have Hy := hide hy
        have set3 := Hset2.out.set (i * m + k) y
        obtain ⟨o3, ho3⟩ : ∃ o3, (((tab (m * m) (mwT m R i)).set (P + i) x).set (Q + i) 1).getD (i * m + k) 0 = o3 := ⟨_, rfl⟩
        rw [ho3, HP.out] at cn2
        rw [HP.out] at cI set3
        have fr3 := Hset2.out.free (P + k)
        have hB3 := hB2'.setCell (p := ⟨w2.heap.size, P + k, none⟩) (by simp) (.int .i64 y)
        have hY : Hid (MatW (W2.setCell ⟨w2.heap.size, P + k, none⟩ (.int .i64 y)) w2.heap.size (w2.heap.size + 1) m (tab (m * m) (mwT m R (i + 1)))) := hide (by
          have t := set3
          have e := mw_step m R k (by have := Hk.out; omega) (HR3.out k).1 (HR3.out k).2
          rw [← Hk.out, HR0.out i, Hx.out, HP.out, HQ.out] at e
          rw [show R k i = 1 by rw [Hk.out]; exact HR1.out k, show R i k = y by rw [← Hy.out, Hk.out]; exact HR2.out k] at e
          rw [e] at t
          exact t)
        have HW1 := hide hW1
        have HW2 := hide hW2
        clear Hset hM h0 hk hQ ho2 ho3 hy Hset2 set2 set3
        go_upto_region 9 with fail
        rw [← HW1.out]
        clear hW1
        go_upto_region 10 with fail
        rw [← HW2.out]
        clear hW2
        refine wp_region_still_tail 12 (by kernel_rfl) (by kernel_rfl) ?_
        simp only [List.take_succ_cons, List.take_zero, List.drop_succ_cons, List.drop_zero]
        repeat still_step
        refine wpStill_nil ?_
        clear vk
        go_wp2
        go_roundw
        case rel => exact ⟨i + 1, by omega, by go_num, hide (hY.out.next (Below.refl _ _).drew), hB3.drew⟩
        case measure => simp [intOf]; omega
    · obtain rfl : i = m := by omega
      have hzl : ZL w.heap.size wr.heap.size wr (some ⟨w2.heap.size + 1, 0, none⟩) i i (mxX xs ys) := hM.out.zl (fun j hj => by rw [HX.out j, mw_row i R j hj]) (by omega) hM.out.row.lt (by omega) hM.out.sl.lt
      have Hzl := hide hzl
      have hBw := hB2.trans (hBr.mono hB2.size)
      have hlen : ∀ j, (mxX xs ys j).length = i := fun j => by rw [HX.out j]; exact tab_len _ _
      have Hlen := hide hlen
      clear hzl hM hlen
      go_wp2
      refine bodyPost_ret (v := .tuple #[.slice (some ⟨w2.heap.size + 1, 0, none⟩) i i, .int .i64 0]) (by simp [results, Try.results61]) rfl ?_
      rw [HN.out, HC.out]
      exact ⟨_, _, rfl, Hzl.out, ⟨by omega, fun j _ => by rw [Hlen.out]; omega⟩, hBw⟩
theorem SL.lit {w : World} {G n : Nat} {Y : List Int} (h : RowI w G Y) (hl : Y.length = n) : SL w (some ⟨G, 0, none⟩) n n Y := h.slN hl
def zA (vs : List Value) (i : Nat) : Option Addr := match vs[i]? with | some (.slice a _ _) => a | _ => none
def zC (vs : List Value) (i : Nat) : Nat := match vs[i]? with | some (.slice _ _ c) => c | _ => 0
set_option maxRecDepth 100000 in
set_option maxHeartbeats 6400000 in
theorem l03Matrix_any (p : Int) (a : Option Addr) (n c : Nat) (xs : List Int) (b : Option Addr) (d : Nat) (ys : List Int) (w : World) (hs : SL w a n c xs) (ht : SL w b n d ys) (hn1 : 1 ≤ n) (hn2 : n ≤ 12) :
    Calls Try.prog 162 #[jac p a n c b n d] w fun e w' => ∃ a' c', e = .returned (.slice a' n c') ∧ ZS w'.heap.size w' a' n (mxX xs ys) ∧ Below w.heap.size w w' := by
  have hl := hide hs.len
  have hl2 := hide ht.len
  obtain ⟨R, hR⟩ : ∃ R, matR xs ys = R := ⟨_, rfl⟩
  have HR0 := hide (fun i => show R i i = xs.getD i 0 by rw [← hR]; simp [matR])
  have HR1 := hide (fun k => show R k (k + 1) = 1 by rw [← hR]; unfold matR; rw [if_neg (by omega), if_neg (by omega), if_pos rfl])
  have HR2 := hide (fun k => show R (k + 1) k = ys.getD (k + 1) 0 by rw [← hR]; unfold matR; rw [if_neg (by omega), if_pos rfl])
  have HR3 := hide (fun i j => show j ≠ i → j + 1 ≠ i → j ≠ i + 1 → R i j = 0 from fun h1 h2 h3 => by rw [← hR]; unfold matR; rw [if_neg h1, if_neg h2, if_neg h3])
  obtain ⟨X, hX⟩ : ∃ X, mxX xs ys = X := ⟨_, rfl⟩
  have HX := hide (fun i => show X i = tab n (R i) by rw [← hX]; unfold mxX; rw [hl.out, hR])
  have HXX := hide hX
  obtain ⟨ba, oa, rfl, hba, hca⟩ := hs.at (by omega)
  obtain ⟨bb, ob, rfl, hbb, hcb⟩ := ht.at (by omega)
  have Hca := hide hca
  have Hcb := hide hcb
  have hmk := run_mk n (by omega)
  have hb0 := bl2 w (.cells #[.int .i64 p, .slice (some ⟨ba, oa, none⟩) n c, .slice (some ⟨bb, ob, none⟩) n d] 39) (.cells #[] 24)
  obtain ⟨w2, hw2⟩ : ∃ w2, w2 = (w.alloc (.cells #[.int .i64 p, .slice (some ⟨ba, oa, none⟩) n c, .slice (some ⟨bb, ob, none⟩) n d] 39)).alloc (.cells #[] 24) := ⟨_, rfl⟩
  have f1 : w2.cell? ⟨w.heap.size, 1, none⟩ = some (.slice (some ⟨ba, oa, none⟩) n c) := by rw [hw2]; simp [go_sem]
  have f2 : w2.cell? ⟨w.heap.size, 2, none⟩ = some (.slice (some ⟨bb, ob, none⟩) n d) := by rw [hw2]; simp [go_sem]
  have z2 : w2.heap.size = w.heap.size + 2 := by rw [hw2]; simp
  have hO0 : Hid (OwnV (w.heap.size + 1) w2 (some ⟨w.heap.size + 1, 0, none⟩) 0 []) := hide (by
    rw [hw2]
    have t := World.ownsRow_lit (w.alloc (.cells #[.int .i64 p, .slice (some ⟨ba, oa, none⟩) n c, .slice (some ⟨bb, ob, none⟩) n d] 39)) (base := w.heap.size + 1) (e := 24) (size := 1) #[] 0 (by simp) (by simp) rfl
    simp at t
    exact t)
  have hC0 : Hid (Coll w2 (some ⟨w.heap.size + 1, 0, none⟩) n [] X 0) := hide (fun j hj => by omega)
  rw [← hw2] at hb0
  clear hR hX hca hcb hs ht
  go_enter Try.func162, Try.ntmps162
  go_upto_region 2 with fail
  rw [← hw2]
  clear hw2
  go_wp2_with fail
  go_loopw [4, 5] (fun ov iv wr => ∃ (i : Nat) (a' : Option Addr) (c' : Nat) (vs : List Value), i ≤ n ∧ iv = .int .i64 i ∧ ov = .slice a' i c' ∧ Hid (vs.length = i) ∧ Hid (OwnV (w.heap.size + 1) wr a' c' vs) ∧ Hid (Coll wr a' n vs X i) ∧ Hid (Below (w.heap.size + 1) w2 wr)) (fun _ iv _ => n - (intOf iv).toNat)
  case atStart => exact ⟨0, _, 0, [], by omega, rfl, rfl, hide rfl, hO0, hC0, hide (Below.refl _ _)⟩
  case round =>
    obtain ⟨i, a', c', vs, hi, rfl, rfl, hvl, hO, hC, hW⟩ := hrel
    clear hO0 hC0
    have zr := hW.out.size
    have hBr : Below w.heap.size w wr := hb0.trans (hW.out.mono (by omega))
    have e1 := (hW.out.cell (p := ⟨w.heap.size, 1, none⟩) (by simp)).trans f1
    have e2 := (hW.out.cell (p := ⟨w.heap.size, 2, none⟩) (by simp)).trans f2
    by_cases hlt : i < n
    · have hlt' : (i : Int) < (n : Int) := by omega
      have q2 : (0 : Int) ≤ (i : Int) := by omega
      have vi : IntKind.i64.wrap ((i : Int) + 1) = (i : Int) + 1 := IntWalk.i64_in _ (by omega)
      have ea := cell_be hBr (Hca.out i hlt)
      have eb := cell_be hBr (Hcb.out i hlt)
      obtain ⟨x, hx⟩ : ∃ x, xs.getD i 0 = x := ⟨_, rfl⟩
      obtain ⟨y, hy⟩ : ∃ y, ys.getD i 0 = y := ⟨_, rfl⟩
      rw [hx] at ea
      rw [hy] at eb
      have hR0 := (zrow_row wr n)
      have Hx := hide hx
      have Hy := hide hy
      have hba := bl1 wr (.cells (zrow n) 2)
      obtain ⟨W0, hW0⟩ : ∃ W0, W0 = wr.alloc (.cells (zrow n) 2) := ⟨_, rfl⟩
      have hz0 : W0.heap.size = wr.heap.size + 1 := by rw [hW0]; simp
      rw [← hW0] at hR0 hba
      have e1' := cell_be hba e1
      have ea' := cell_be hba ea
      have fr0 := hR0.free i
      have cw0 := hR0.cell i (by rw [tab_len]; exact hlt)
      have s1 := hR0.set i x
      rw [tab_at _ _ _ hlt] at cw0
      have hB1 := hba.setCell (p := ⟨wr.heap.size, i, none⟩) (by simp) (.int .i64 x)
      obtain ⟨W1, hW1⟩ : ∃ W1, W1 = W0.setCell ⟨wr.heap.size, i, none⟩ (.int .i64 x) := ⟨_, rfl⟩
      rw [← hW1] at s1 hB1
      have hz1 : W1.heap.size = wr.heap.size + 1 := by rw [hW1]; simp [hz0]
      have HW0 := hide hW0
      have HW1 := hide hW1
      have hXi := hide (HX.out i)
      have S1 := hide s1
      clear hx hy hW0 hW1 hR0 s1 e1 ea
      go_upto_region 6 with fail
      rw [← HW0.out]
      go_upto_if 27 with fail
      rw [← HW1.out]
      clear HW0 HW1 fr0 cw0 e1' ea'
      go_cut [] (fun wx => Hid (∃ Y, RowI wx wr.heap.size Y ∧ Y = tab n (fun j => if j = i then x else if j + 1 = i then y else 0)) ∧ Below wr.heap.size wr wx ∧ wx.heap.size = wr.heap.size + 1)
      case first =>
        by_cases h0 : i = 0
        · have q1 : ¬ (0 : Int) < (i : Int) := by omega
          have hY : Hid (∃ Y, RowI W1 wr.heap.size Y ∧ Y = tab n (fun j => if j = i then x else if j + 1 = i then y else 0)) := hide ⟨_, S1.out, by
            rw [tab_set]
            apply tab_congr
            intro j _
            by_cases h : j = i
            · rw [if_pos h, if_pos h]
            · rw [if_neg h, if_neg h, if_neg (by omega)]⟩
          clear h0
          go_wp2_with fail
          go_meet
          exact ⟨hY, hB1, hz1⟩
        · obtain ⟨k, hk⟩ : ∃ k, i - 1 = k := ⟨_, rfl⟩
          have hk1 : k < n := by omega
          have q1 : (0 : Int) < (i : Int) := by omega
          have vk : IntKind.i64.wrap ((i : Int) - 1) = (k : Int) := by rw [show (i : Int) - 1 = (k : Int) by omega]; exact IntWalk.i64_in _ (by omega)
          have q3 : (k : Int) < (n : Int) := by omega
          have q4 : (0 : Int) ≤ (k : Int) := by omega
          have d2 := cell_be hB1 e2
          have db := cell_be hB1 eb
          have fr1 := S1.out.free k
          have cw1 := S1.out.cell k (by rw [List.length_set, tab_len]; exact hk1)
          obtain ⟨o1, ho1⟩ : ∃ o1, ((tab n (fun _ => (0 : Int))).set i x).getD k 0 = o1 := ⟨_, rfl⟩
          rw [ho1] at cw1
          have s2 := S1.out.set k y
          have hB2 := hB1.setCell (p := ⟨wr.heap.size, k, none⟩) (by simp) (.int .i64 y)
          have hzz : (W1.setCell ⟨wr.heap.size, k, none⟩ (.int .i64 y)).heap.size = wr.heap.size + 1 := by simp [hz1]
          have hY : Hid (∃ Y, RowI (W1.setCell ⟨wr.heap.size, k, none⟩ (.int .i64 y)) wr.heap.size Y ∧ Y = tab n (fun j => if j = i then x else if j + 1 = i then y else 0)) := hide ⟨_, s2, by
            rw [tab_set, tab_set]
            apply tab_congr
            intro j _
            by_cases h : j = i
            · rw [if_neg (by omega), if_pos h, if_pos h]
            · rw [if_neg h]
              by_cases h' : j + 1 = i
              · rw [if_pos (by omega), if_pos h', if_neg h]
              · rw [if_neg (by omega), if_neg h', if_neg h]⟩
          clear h0 hk ho1 s2
          go_wp2_with fail
          go_meet
          exact ⟨hY, hB2, hzz⟩
      case rest =>
      obtain ⟨hY, hB2, hzc⟩ := hcut
      obtain ⟨Y, hYr, hYe⟩ := hY.out
      have HYr := hide hYr
      have HYe := hide hYe
      clear S1 hB1 hz1 hY hYr hYe e2 eb
      go_upto_if 40 with fail
      go_cut [] (fun wx => Hid (RowI wx wr.heap.size (X i)) ∧ Below wr.heap.size wr wx ∧ wr.heap.size < wx.heap.size)
      case first =>
        by_cases h0 : i + 1 < n
        · have q1 : (i : Int) + 1 < (n : Int) := by omega
          have q3 : (0 : Int) ≤ (i : Int) + 1 := by omega
          have q4 : ((i : Int) + 1).toNat = i + 1 := by omega
          have fr1 := HYr.out.free (i + 1)
          have cw1 := HYr.out.cell (i + 1) (by rw [HYe.out, tab_len]; exact h0)
          obtain ⟨o1, ho1⟩ : ∃ o1, Y.getD (i + 1) 0 = o1 := ⟨_, rfl⟩
          rw [ho1] at cw1
          have s2 := HYr.out.set (i + 1) 1
          have hB3 := hB2.setCell (p := ⟨wr.heap.size, i + 1, none⟩) (by simp) (.int .i64 1)
          have e : Y.set (i + 1) 1 = X i := by
            rw [HX.out i, HYe.out, tab_set]
            apply tab_congr
            intro j _
            by_cases h1 : j = i + 1
            · subst h1; rw [if_pos rfl, HR1.out]
            · rw [if_neg h1]
              by_cases h2 : j = i
              · subst h2; rw [if_pos rfl, HR0.out, Hx.out]
              · rw [if_neg h2]
                by_cases h3 : j + 1 = i
                · subst h3; rw [if_pos rfl, HR2.out, Hy.out]
                · rw [if_neg h3, HR3.out i j h2 h3 h1]
          rw [e] at s2
          have S2 := hide s2
          have hzz : wr.heap.size < (wc.setCell ⟨wr.heap.size, i + 1, none⟩ (.int .i64 1)).heap.size := by simp [hzc]
          clear ho1 s2 e h0
          go_wp2_with fail
          go_meet
          exact ⟨S2, hB3, hzz⟩
        · have q1 : ¬ (i : Int) + 1 < (n : Int) := by omega
          have e : Y = X i := by
            rw [HX.out i, HYe.out]
            apply tab_congr
            intro j hj
            by_cases h2 : j = i
            · subst h2; rw [if_pos rfl, HR0.out, Hx.out]
            · rw [if_neg h2]
              by_cases h3 : j + 1 = i
              · subst h3; rw [if_pos rfl, HR2.out, Hy.out]
              · rw [if_neg h3, HR3.out i j h2 h3 (by omega)]
          have S2 : Hid (RowI wc wr.heap.size (X i)) := hide (by rw [← e]; exact HYr.out)
          have hzz : wr.heap.size < wc.heap.size := by omega
          clear e h0
          go_wp2_with fail
          go_meet
          exact ⟨S2, hB2, hzz⟩
      case rest =>
      obtain ⟨hRX, hB3, hz3⟩ := hcut
      clear HYr HYe hB2 hzc
      have hsl : SL wc (some ⟨wr.heap.size, 0, none⟩) n n (X i) := hRX.out.slN (by rw [HX.out i]; exact tab_len _ _)
      have Hsl := hide hsl
      have hO2 := hO.out.below hB3
      have hC2 := hC.out.below hB3
      have hne : ∀ b, blk a' = some b → b < wc.heap.size ∧ b ≠ wr.heap.size := fun b hb => by
        have := OwnV.blkLt hO.out b hb
        exact ⟨by omega, by omega⟩
      have Hne := hide hne
      have HC2 := hide hC2
      have hba2 := bl1 wc (.cells #[.slice (some ⟨wr.heap.size, 0, none⟩) n n] 24)
      have hOa := hide (hO2.below hba2)
      have hcl : (wc.alloc (.cells #[.slice (some ⟨wr.heap.size, 0, none⟩) n n] 24)).cell? ⟨wc.heap.size, 0, none⟩ = some (.slice (some ⟨wr.heap.size, 0, none⟩) n n) := by simp [go_sem]
      have hWq := hide (hW.out.trans (hB3.mono (by omega)))
      clear hsl hne hO hC hO2 hC2 hRX hW
      go_wp2_with (at_builtin; with_reducible refine wp_appV rfl _ _ rfl (w.heap.size + 1) _ _ _ vs rfl hvl.out.symm hOa.out _ _ _ rfl hcl rfl (by omega) (by simp; omega) ?_; intro ad' cap' w' hown' hgr hloc)
      have hvl2 := hide (show (vs ++ [Value.slice (some ⟨wr.heap.size, 0, none⟩) n n]).length = i + 1 by rw [List.length_append, hvl.out]; rfl)
      have hW2 : Hid (Below (w.heap.size + 1) w2 w') := hide ((hWq.out.trans (hba2.mono (by omega))).grown hgr (by simp; omega) (OwnV.blkG hOa.out))
      have hC3 := hide (HC2.out.push hvl.out hz3 Hsl.out Hne.out hba2 (by simp) hgr hloc)
      have hN3 := hide hown'
      clear hown' hgr hloc hOa hcl hba2 HC2 Hsl Hne
      go_wp2
      go_roundw
      case rel => exact ⟨i + 1, ad', cap', _, by omega, by go_num, by rw [hvl.out], hvl2, hN3, hC3, hW2⟩
      case measure => simp [intOf]; omega
    · have hin : i = n := by omega
      have hlt' : ¬ (i : Int) < (n : Int) := by omega
      subst hin
      obtain ⟨G, rfl, hat⟩ := OwnV.at hO.out (by rw [hvl.out]; omega)
      have hGl := OwnV.blkLt hO.out G rfl
      have hZ : ZS wr.heap.size wr (some ⟨G, 0, none⟩) i (mxX xs ys) := .inr ⟨G, zA vs, zC vs, rfl, hGl, fun j hj => by
        obtain ⟨a0, c0, h1, h2, h3⟩ := hC.out j hj
        have hA : zA vs j = a0 := by unfold zA; rw [h1]
        have hCc : zC vs j = c0 := by unfold zC; rw [h1]
        have hlen : (mxX xs ys j).length = i := by rw [HXX.out, HX.out j]; exact tab_len _ _
        rw [hA, hCc, hlen]
        refine ⟨?_, by rw [HXX.out]; exact h2, fun b hb => (h3 b hb).2⟩
        have t := hO.out.cellG j (by rw [hvl.out]; exact hj)
        rw [t, h1]⟩
      have HZ := hide hZ
      clear hZ hO hC hvl hat
      go_wp2
      refine bodyPost_ret (v := .slice (some ⟨G, 0, none⟩) i c') (by simp [results, Try.results162]) rfl ?_
      exact ⟨_, ⟨_, rfl⟩, HZ.out, hBr⟩
set_option maxRecDepth 100000 in
set_option maxHeartbeats 1600000 in
theorem specMatrixOf (p : Int) (a : Option Addr) (n c : Nat) (xs : List Int) (b : Option Addr) (m d : Nat) (ys : List Int) (w : World) (hs : SL w a n c xs) (ht : SL w b m d ys) (hn : n ≤ 4000000) (hm : m ≤ 4000000) :
    Calls Try.prog 74 #[jac p a n c b m d] w (ResS w (mxX xs ys) (mxN p xs ys) (mxC p xs ys)) := by
  have hl := hide hs.len
  have hl2 := hide ht.len
  have hb0 := bl1 w (.cells #[.int .i64 p, .slice a n c, .slice b m d] 39)
  have g1 := hs.below hb0
  have g2 := ht.below hb0
  cases hj : jacB p xs ys
  · have HJ := hide hj
    have HC := hide (show mxC p xs ys = 1 by simp [mxC, hj])
    have HN := hide (show mxN p xs ys = 0 by simp [mxN, hj])
    clear hj
    go_enter Try.func74, Try.ntmps74
    go_wp2_with fail
    refine (l03Is_any _ _ _ _ _ _ _ _ _ _ g1 g2 hn hm).mono ?_
    rintro e w2 ⟨rfl, hm2⟩
    have hB2 := bnext hb0 hm2
    rw [HJ.out]
    go_wp2
    go_ret2
    exact ResS.nil HN.out HC.out hB2
  obtain ⟨hpr, n1, n2, n3, hx, hy⟩ := jacB_rng hj
  have HJ := hide hj
  have HC := hide (show mxC p xs ys = 0 by simp [mxC, hj])
  have HN := hide (show mxN p xs ys = n by simp only [mxN, hj, if_true]; exact hl.out)
  rw [hl.out] at n1 n2 n3
  rw [hl2.out] at n3
  subst n3
  clear hj hpr hx hy
  go_enter Try.func74, Try.ntmps74
  go_wp2_with fail
  refine (l03Is_any _ _ _ _ _ _ _ _ _ _ g1 g2 hn hm).mono ?_
  rintro e w2 ⟨rfl, hm2⟩
  have hB2 := bnext hb0 hm2
  rw [HJ.out]
  have f0 : w2.cell? ⟨w.heap.size, 0, none⟩ = some (.int .i64 p) := cell_be hm2 (by simp [go_sem])
  have f1 : w2.cell? ⟨w.heap.size, 1, none⟩ = some (.slice a m c) := cell_be hm2 (by simp [go_sem])
  have f2 : w2.cell? ⟨w.heap.size, 2, none⟩ = some (.slice b m d) := cell_be hm2 (by simp [go_sem])
  have s1 := hs.below hB2
  have s2 := ht.below hB2
  clear hm2
  go_wp2_with fail
  refine (l03Matrix_any p _ _ _ xs _ _ ys _ s1 s2 n1 n2).mono ?_
  rintro e w3 ⟨a3, c3, rfl, hZ, hb3⟩
  have hB3 := bnext hB2 hb3
  go_wp2
  refine bodyPost_ret (v := .tuple #[.slice a3 m c3, .int .i64 0]) (by simp [results, Try.results74]) rfl ?_
  rw [HN.out, HC.out]
  exact ⟨_, _, rfl, hZ, hB3⟩
end Go.Proofs.Ytmdfgibpkfkceaa
