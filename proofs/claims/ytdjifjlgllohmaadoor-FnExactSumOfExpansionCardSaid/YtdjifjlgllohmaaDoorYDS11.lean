/- Merged texts. -/
import Derived.Test.YtdjifjlgllohmaaDoorYDS3
import Derived.Test.YtdjifjlgllohmaaDoorYDS10
import Derived.Test.YtdjifjlgllohmaaDoorYDS7
import Derived.Test.YtdjifjlgllohmaaDoorYDS4
import Derived.Deep.RegionWith
import Derived.Deep.DeepCutAuto
import Derived.Deep.CutBlock
import Derived.Deep.RegionHeld3
/- Plain mathematics of chapter 2: sums of products modulo p, sums of lists, eliminations. No program. -/
namespace Go.Proofs.YtdjifjlgllohmaaDoor
open Go.RowKit
set_option linter.unusedVariables false
set_option linter.unusedSimpArgs false
/-- The sum of the first i products of numbers of f and of xs from k on. -/
def dotK (p : Int) (f xs : List Int) (k : Nat) : Nat → Int
  | 0 => 0
  | i + 1 => (dotK p f xs k i + f.getD i 0 * xs.getD (i + k) 0) % p
theorem dotK_rng {p : Int} (hp : 2 ≤ p) (f xs : List Int) (k i : Nat) : 0 ≤ dotK p f xs k i ∧ dotK p f xs k i < p := by
  cases i with
  | zero => simp [dotK]; omega
  | succ i => exact modb hp
/-- The numbers of xs and k times those of ys together. -/
def addlM (p k : Int) (xs ys : List Int) : List Int := tab xs.length (fun j => (xs.getD j 0 + k * ys.getD j 0) % p)
theorem addlM_len (p k : Int) (xs ys : List Int) : (addlM p k xs ys).length = xs.length := tab_len _ _
theorem tab_are {p : Int} {n : Nat} {h : Nat → Int} (e : ∀ j, j < n → 0 ≤ h j ∧ h j < p) : areB p (tab n h) = true := areB_mk fun j hj => by
  rw [tab_len] at hj
  rw [tab_at _ _ _ hj]
  exact e j hj
theorem addlM_are {p : Int} (hp : 2 ≤ p) (k : Int) (xs ys : List Int) : areB p (addlM p k xs ys) = true := tab_are fun _ _ => modb hp
/-- The products of moments by f: n of them. -/
def prodM (p : Int) (f xs : List Int) (n : Nat) : List Int := tab n (fun j => dotK p f xs j f.length)
theorem addlM_dot (p : Int) (f xs : List Int) (n i : Nat) (h : i + n ≤ xs.length) : addlM p (f.getD i 0) (tab n (fun j => dotK p f xs j i)) ((xs.drop i).take n) = tab n (fun j => dotK p f xs j (i + 1)) := by
  unfold addlM
  rw [tab_len]
  apply tab_congr
  intro j hj
  rw [tab_at _ _ _ hj, dotK]
  congr 3
  simp [List.getElem?_take, hj]

/-- A row less a multiple of the row of the pivot. -/
def elimR (p : Int) (own row : List Int) (k n : Nat) : List Int := tab n (fun j => (row.getD j 0 - row.getD k 0 * invM p (own.getD k 0) % p * own.getD j 0) % p)
theorem elim_eq (p R rk inv o : Int) : (R + (p - inv) * rk % p * o) % p = (R - rk * inv % p * o) % p := by
  have e1 : ((p - inv) * rk % p * o) % p = ((p - inv) * rk * o) % p := by rw [Int.mul_emod, Int.emod_emod, ← Int.mul_emod]
  have e2 : (rk * inv % p * o) % p = (rk * inv * o) % p := by rw [Int.mul_emod, Int.emod_emod, ← Int.mul_emod]
  rw [Int.add_emod, e1, ← Int.add_emod, Int.sub_emod, e2, ← Int.sub_emod]
  have e3 : R + (p - inv) * rk * o = R - rk * inv * o + p * (rk * o) := by
    rw [Int.sub_mul, Int.sub_mul, Int.mul_comm inv rk, Int.mul_assoc p]; omega
  rw [e3, Int.add_mul_emod_self_left]
theorem neg_eq (p r x : Int) : (p - r) * x % p = (-r) % p * x % p := by
  rw [Int.mul_emod (-r % p), Int.emod_emod, ← Int.mul_emod, Int.sub_mul, Int.neg_mul]
  have : p * x - r * x = - (r * x) + p * x := by omega
  rw [this, Int.add_mul_emod_self_left]
/-- The first row from b on, of so many, with another number than 0 at c. -/
def pivF (X : Nat → List Int) (c : Nat) : Nat → Nat → Nat
  | 0, b => b
  | f + 1, b => if (X b).getD c 0 = 0 then pivF X c f (b + 1) else b
theorem pivF_rng (X : Nat → List Int) (c : Nat) : ∀ f b, b ≤ pivF X c f b ∧ pivF X c f b ≤ b + f := by
  intro f
  induction f with
  | zero => intro b; simp [pivF]
  | succ f ih =>
    intro b
    unfold pivF
    split
    · have := ih (b + 1); omega
    · omega
theorem pivF_at (X : Nat → List Int) (c : Nat) : ∀ f b, pivF X c f b < b + f → (X (pivF X c f b)).getD c 0 ≠ 0 := by
  intro f
  induction f with
  | zero => intro b h; simp [pivF] at h
  | succ f ih =>
    intro b h
    unfold pivF at h ⊢
    split
    · rename_i hz
      rw [if_pos hz] at h
      exact ih (b + 1) (by omega)
    · rename_i hz; exact hz
theorem pivF_skip (X : Nat → List Int) (c : Nat) : ∀ f b, (∀ i, b ≤ i → i < b + f → (X i).getD c 0 = 0) → pivF X c f b = b + f := by
  intro f
  induction f with
  | zero => intro b _; rfl
  | succ f ih =>
    intro b h
    unfold pivF
    rw [if_pos (h b (by omega) (by omega)), ih (b + 1) (fun i h1 h2 => h i (by omega) (by omega))]
    omega
theorem pivF_stop (X : Nat → List Int) (c : Nat) : ∀ f b j, j < f → (∀ i, b ≤ i → i < b + j → (X i).getD c 0 = 0) → (X (b + j)).getD c 0 ≠ 0 → pivF X c f b = b + j := by
  intro f
  induction f with
  | zero => intro b j h; omega
  | succ f ih =>
    intro b j hj h h2
    unfold pivF
    cases j with
    | zero => rw [Nat.add_zero] at h2; rw [if_neg h2]; rfl
    | succ j =>
      rw [if_pos (h b (by omega) (by omega)), ih (b + 1) j (by omega) (fun i h1 h3 => h i (by omega) (by omega)) (by rw [show b + 1 + j = b + (j + 1) by omega]; exact h2)]
      omega
def swapR (X : Nat → List Int) (a b : Nat) : Nat → List Int := fun i => if i = a then X b else if i = b then X a else X i
/-- The rows behind k up to m have 0 at k. -/
def stepR (p : Int) (n k m : Nat) (X : Nat → List Int) : Nat → List Int := fun i => if k < i ∧ i < m then elimR p (X k) (X i) k n else X i
def sgn (p r : Int) (b k : Nat) : Int := if b = k then r else (-r) % p
def detL (p : Int) (n : Nat) : Nat → Nat → (Nat → List Int) → Int → Int
  | 0, _, _, r => r
  | f + 1, k, X, r => if pivF X k (n - k) k = n then 0 else
      detL p n f (k + 1) (stepR p n k n (swapR X k (pivF X k (n - k) k))) (sgn p r (pivF X k (n - k) k) k * (swapR X k (pivF X k (n - k) k) k).getD k 0 % p)
def detM (p : Int) (n : Nat) (X : Nat → List Int) : Int := detL p n n 0 X 1
theorem pivF_congr {X Y : Nat → List Int} (c : Nat) : ∀ f b, (∀ i, b ≤ i → i < b + f → X i = Y i) → pivF X c f b = pivF Y c f b := by
  intro f
  induction f with
  | zero => intro b _; rfl
  | succ f ih =>
    intro b h
    unfold pivF
    rw [h b (by omega) (by omega), ih (b + 1) (fun i h1 h2 => h i (by omega) (by omega))]
theorem detL_congr {p : Int} {n : Nat} : ∀ f k (X Y : Nat → List Int) r, k + f = n → (∀ i, i < n → X i = Y i) → detL p n f k X r = detL p n f k Y r := by
  intro f
  induction f with
  | zero => intro k X Y r _ _; rfl
  | succ f ih =>
    intro k X Y r hk h
    have hp := pivF_congr k (n - k) k (fun i h1 h2 => h i (by omega))
    have hr := pivF_rng Y k (n - k) k
    unfold detL
    rw [hp]
    by_cases e : pivF Y k (n - k) k = n
    · rw [if_pos e, if_pos e]
    · have hs : ∀ i, i < n → swapR X k (pivF Y k (n - k) k) i = swapR Y k (pivF Y k (n - k) k) i := fun i hi => by
        unfold swapR
        rw [h i hi, h k (by omega), h (pivF Y k (n - k) k) (by omega)]
      rw [if_neg e, if_neg e, hs k (by omega)]
      refine ih (k + 1) _ _ _ (by omega) fun i hi => ?_
      unfold stepR
      rw [hs i hi, hs k (by omega)]
theorem detL_rng {p : Int} (hp : 2 ≤ p) {n : Nat} : ∀ f k (X : Nat → List Int) r, 0 ≤ r → r < p → 0 ≤ detL p n f k X r ∧ detL p n f k X r < p := by
  intro f
  induction f with
  | zero => intro k X r h1 h2; exact ⟨h1, h2⟩
  | succ f ih =>
    intro k X r h1 h2
    unfold detL
    split
    · omega
    · exact ih _ _ _ (modb hp).1 (modb hp).2
end Go.Proofs.YtdjifjlgllohmaaDoor
/- Contracts: values of polynomials: evaluate (numbers), evaluateAt, ValueAt (program); l01At, ValueAt (model). -/
namespace Go.Proofs.YtdjifjlgllohmaaDoor
open Go.RowKit
set_option linter.unusedVariables false
set_option linter.unusedSimpArgs false

/-- Horner's rule, k numbers taken in from the last one on. -/
def hor (p : Int) (f : List Int) (x : Int) : Nat → Int
  | 0 => 0
  | k + 1 => (hor p f x k * x + f.getD (f.length - 1 - k) 0) % p
def evM (p : Int) (f : List Int) (x : Int) : Int := hor p f x f.length
theorem hor_rng {p : Int} (hp : 2 ≤ p) (f : List Int) (x : Int) (k : Nat) : 0 ≤ hor p f x k ∧ hor p f x k < p := by
  cases k with
  | zero => simp [hor]; omega
  | succ k => exact modb hp
theorem evM_rng {p : Int} (hp : 2 ≤ p) (f : List Int) (x : Int) : 0 ≤ evM p f x ∧ evM p f x < p := hor_rng hp f x _
set_option maxRecDepth 100000 in
set_option maxHeartbeats 1600000 in
theorem l01At_any (p x : Int) (a1 : Option Addr) (n1 c1 : Nat) (f : List Int) (w : World) (h1 : SL w a1 n1 c1 f) (b1 : n1 ≤ 1000) (hp : 2 ≤ p) (hp2 : p ≤ 10007) (hx0 : 0 ≤ x) (hx1 : x < p) (hf : areB p f = true) :
    Calls Tryd.prog 78 #[.int .i64 p, .slice a1 n1 c1, .int .i64 x] w fun e w' => e = .returned (.int .i64 (evM p f x)) ∧ w = w' := by
  have hl1 := hide h1.len
  have Hf := hide hf
  clear hf
  go_enter Tryd.func78, Tryd.ntmps78
  go_wp2
  go_loop [7, 8] (fun o i => ∃ k : Nat, k ≤ n1 ∧ i = .int .i64 ((n1 : Int) - 1 - (k : Int)) ∧ o = .int .i64 (hor p f x k)) (fun _ i => (intOf i + 1).toNat)
  case atStart => exact ⟨0, by omega, by simp, rfl⟩
  case round =>
    obtain ⟨k, hk, rfl, rfl⟩ := hrel
    by_cases hlt : k < n1
    · obtain ⟨b, off, ha, hbw, hcell⟩ := h1.at (by omega)
      subst ha
      have e1 := hcell (n1 - 1 - k) (by omega)
      have hr := getD_rng Hf.out hp (n1 - 1 - k)
      have hh : Hid (hor p f x (k + 1) = (hor p f x k * x + f.getD (n1 - 1 - k) 0) % p) := hide (by rw [hor, hl1.out])
      have hv := hor_rng hp f x k
      obtain ⟨y, hy⟩ : ∃ y, f.getD (n1 - 1 - k) 0 = y := ⟨_, rfl⟩
      obtain ⟨v, hvv⟩ : ∃ v, hor p f x k = v := ⟨_, rfl⟩
      rw [hy] at e1 hr hh
      rw [hvv] at hh hv ⊢
      obtain ⟨m1, m2⟩ := mulb hv.1 hv.2 hx0 hx1 hp2
      have hge : (0 : Int) ≤ (n1 : Int) - 1 - (k : Int) := by omega
      have hkt : ((n1 : Int) - 1 - (k : Int)).toNat = n1 - 1 - k := by omega
      obtain ⟨r1, r2⟩ := hr
      clear hcell hy hvv
      go_wp2
      go_round
      case rel => exact ⟨k + 1, by omega, by go_num, by rw [hh.out]⟩
      case measure => simp [intOf]; omega
    · obtain rfl : k = n1 := by omega
      have hneg : ¬ (0 : Int) ≤ (k : Int) - 1 - (k : Int) := by omega
      have hsz : (k : Int) - 1 - (k : Int) = -1 := by omega
      have hfin : Hid (hor p f x k = evM p f x) := hide (by unfold evM; rw [hl1.out])
      rw [hsz]
      clear hsz hneg
      go_wp2
      go_ret
      exact ⟨ret_int hfin.out, rfl⟩
set_option maxHeartbeats 400000 in
theorem numAdd (p x y : Int) (b : Nat) (w : World) (hc : w.cell? ⟨b, 0, none⟩ = some (.int .i64 p)) (hx : 0 ≤ x) (hx2 : x ≤ 100140049) (hy : 0 ≤ y) (hy2 : y ≤ 100140049) (hp : 2 ≤ p) :
    Calls Tryd.prog 117 #[num x, num y, .pointer (some ⟨b, 0, none⟩)] w fun e w' => e = .returned (num ((x + y) % p)) ∧ Below w.heap.size w w' := by
  have hc3 := cell_al3 hc
  go_enter Tryd.func117, Tryd.ntmps117
  go_wp2
  refine bodyPost_ret (v := num ((x + y) % p)) (by simp [results, Tryd.results117, go_sem]) rfl ⟨rfl, ?_⟩
  exact bl3 _ _ _ _
/-- What the loop of 'evaluate' keeps of memory. -/
structure EInv (w : World) (B g b : Nat) (p x v : Int) : Prop where
  h0 : w.cell? ⟨B, 0, none⟩ = some (.func (.func 116) #[] #[])
  h1 : w.cell? ⟨B, 1, none⟩ = some (clo 117 b)
  h2 : w.cell? ⟨B, 2, none⟩ = some (clo 118 b)
  hX : w.cell? ⟨B + 1, 0, none⟩ = some (.int .i64 x)
  hV : w.cell? ⟨g, 0, none⟩ = some (.int .i64 v)
  hP : w.cell? ⟨b, 0, none⟩ = some (.int .i64 p)
  hS : ∃ u, w.cell? ⟨B + 1 + 1, 0, none⟩ = some u
  fV : w.frozen? ⟨g, 0, none⟩ = false
  fS : w.frozen? ⟨B + 1 + 1, 0, none⟩ = false
theorem EInv.below {w w' : World} {B g b : Nat} {p x v : Int} (h : EInv w B g b p x v) (hb : Below w.heap.size w w') : EInv w' B g b p x v := by
  have k : ∀ {a : Addr} {v : Value}, w.cell? a = some v → w'.cell? a = some v := fun hh => (hb.cell (World.block_lt_of_cell? w _ hh)).trans hh
  have f : ∀ {a : Addr} {v : Value}, w.cell? a = some v → w.frozen? a = false → w'.frozen? a = false := fun hh hf => (hb.frozen (World.block_lt_of_cell? w _ hh)).trans hf
  obtain ⟨u, hu⟩ := h.hS
  exact ⟨k h.h0, k h.h1, k h.h2, k h.hX, k h.hV, k h.hP, ⟨u, k hu⟩, f h.hV h.fV, f hu h.fS⟩
theorem EInv.setV {w : World} {B g b : Nat} {p x v : Int} (h : EInv w B g b p x v) (hg : B + 2 < g) (hbB : b < B) (u : Int) : EInv (w.setCell ⟨g, 0, none⟩ (.int .i64 u)) B g b p x u := by
  obtain ⟨s, hs⟩ := h.hS
  have o : ∀ {c : Addr} {v : Value}, c.block ≠ g → w.cell? c = some v → (w.setCell ⟨g, 0, none⟩ (.int .i64 u)).cell? c = some v := fun hne hh =>
    (World.cell?_setCell_other _ _ _ _ (fun e => hne (by rw [← e]))).trans hh
  exact ⟨o (by simp; omega) h.h0, o (by simp; omega) h.h1, o (by simp; omega) h.h2, o (by simp; omega) h.hX, World.cell?_setCell_same _ _ _ h.hV, o (by simp; omega) h.hP, ⟨s, o (by simp; omega) hs⟩, by simpa using h.fV, by simpa using h.fS⟩
set_option maxRecDepth 100000 in
set_option maxHeartbeats 3200000 in
theorem evaluate_num (p x : Int) (a1 : Option Addr) (n1 c1 : Nat) (f : List Int) (b : Nat) (w : World) (hc : w.cell? ⟨b, 0, none⟩ = some (.int .i64 p)) (h1 : SL w a1 n1 c1 f) (b1 : n1 ≤ 1000) (hp : 2 ≤ p) (hp2 : p ≤ 10007) (hx0 : 0 ≤ x) (hx1 : x < p) (hf : areB p f = true) :
    Calls Tryd.prog 105 #[.agg #[.func (.func 116) #[] #[], clo 117 b, clo 118 b], .slice a1 n1 c1, num x] w
      fun e w' => e = .returned (num (evM p f x)) ∧ Below w.heap.size w w' := by
  have hl1 := hide h1.len
  have Hf := hide hf
  have hbw : b < w.heap.size := World.block_lt_of_cell? w _ hc
  clear hf
  go_enter Tryd.func105, Tryd.ntmps105
  go_wp2_with fail
  refine (numConst _ _).mono ?_
  rintro e w1 ⟨rfl, hb1⟩
  have hs1 : w.heap.size + 2 < w1.heap.size := by have := hb1.size; simp at this; omega
  have hc1 := fun {a : Addr} {v : Value} hh => (hb1.cell (p := a) (World.block_lt_of_cell? _ _ hh)).trans (hh : _ = some v)
  have hB1 : Below w.heap.size w w1 := (bl3 _ _ _ _).trans (hb1.mono (by simp; omega))
  have inv1 : EInv (w1.alloc (.cells #[.int .i64 0] 97)) w.heap.size w1.heap.size b p x 0 := by
    have fr : ∀ j, (hj : j ≤ w.heap.size + 2) → w.heap.size ≤ j → w1.frozen? ⟨j, 0, none⟩ = false := by
      intro j h1 h2
      rw [hb1.frozen (p := ⟨j, 0, none⟩) (by simp; omega)]
      rcases (show j = w.heap.size ∨ j = w.heap.size + 1 ∨ j = w.heap.size + 2 by omega) with rfl | rfl | rfl <;> simp [go_sem]
    refine ⟨cell_al (hc1 (by simp [go_sem])) _, cell_al (hc1 (by simp [go_sem])) _, cell_al (hc1 (by simp [go_sem])) _, cell_al (hc1 (by simp [go_sem])) _, by simp [go_sem], cell_al (hc1 (cell_al3 hc _ _ _)) _, ⟨_, cell_al (hc1 (by simp [go_sem]; rfl)) _⟩, by simp [go_sem], ?_⟩
    · rw [World.frozen?_alloc_past _ _ _ (by omega)]; exact fr _ (by omega) (by omega)
  have hB2 : Below w.heap.size w (w1.alloc (.cells #[.int .i64 0] 97)) := hB1.alloc (by omega) _
  clear hc1 hB1 hb1
  go_wp2
  go_loopw [8] (fun i wr => ∃ k : Nat, k ≤ n1 ∧ i = .int .i64 ((n1 : Int) - 1 - (k : Int)) ∧ EInv wr w.heap.size w1.heap.size b p x (hor p f x k) ∧ Below w.heap.size w wr ∧ w1.heap.size < wr.heap.size) (fun i _ => (intOf i + 1).toNat)
  case atStart => exact ⟨0, by omega, by simp, inv1, hB2, by simp⟩
  case round =>
    obtain ⟨k, hk, rfl, inv, hBr, hsr⟩ := hrel
    clear inv1 hB2
    by_cases hlt : k < n1
    · have hr := getD_rng Hf.out hp (n1 - 1 - k)
      have hh : Hid (hor p f x (k + 1) = (hor p f x k * x + f.getD (n1 - 1 - k) 0) % p) := hide (by rw [hor, hl1.out])
      have hv := hor_rng hp f x k
      obtain ⟨y, hy⟩ : ∃ y, f.getD (n1 - 1 - k) 0 = y := ⟨_, rfl⟩
      obtain ⟨v, hvv⟩ : ∃ v, hor p f x k = v := ⟨_, rfl⟩
      rw [hy] at hr hh
      rw [hvv] at hh hv inv
      obtain ⟨m1, m2⟩ := mulb hv.1 hv.2 hx0 hx1 hp2
      have hmr := modb (x := v * x) hp
      have hsum : Hid ((v * x % p + y) % p = hor p f x (k + 1)) := hide (by rw [hh.out, Int.emod_add_emod])
      have hge : (0 : Int) ≤ (n1 : Int) - 1 - (k : Int) := by omega
      have Hy := hide hy
      obtain ⟨r1, r2⟩ := hr
      have hb00 : Below wr.heap.size wr wr.drew := (Below.refl _ _).drew
      have F0 : ∀ w', Below wr.heap.size wr w' → w'.cell? ⟨w.heap.size, 0, none⟩ = some (.func (.func 116) #[] #[]) := fun w' hb => (inv.below hb).h0
      have F1 : ∀ w', Below wr.heap.size wr w' → w'.cell? ⟨w.heap.size, 1, none⟩ = some (clo 117 b) := fun w' hb => (inv.below hb).h1
      have F2 : ∀ w', Below wr.heap.size wr w' → w'.cell? ⟨w.heap.size, 2, none⟩ = some (clo 118 b) := fun w' hb => (inv.below hb).h2
      have F3 : ∀ w', Below wr.heap.size wr w' → w'.cell? ⟨w.heap.size + 1, 0, none⟩ = some (.int .i64 x) := fun w' hb => (inv.below hb).hX
      have F4 : ∀ w', Below wr.heap.size wr w' → w'.cell? ⟨w1.heap.size, 0, none⟩ = some (.int .i64 v) := fun w' hb => (inv.below hb).hV
      have F5 : ∀ w', Below wr.heap.size wr w' → w'.frozen? ⟨w1.heap.size, 0, none⟩ = false := fun w' hb => (inv.below hb).fV
      have hV := inv.hV
      have hg0 : ∀ {j k : Nat}, j ≤ w.heap.size + 1 → (⟨j, k, none⟩ : Addr) ≠ ⟨w1.heap.size, 0, none⟩ := by
        intro j k hj e
        have := congrArg Addr.block e
        simp at this
        omega
      have G : ∀ (w' : World) (u v : Value) (j k : Nat), j ≤ w.heap.size + 1 → w'.cell? ⟨j, k, none⟩ = some v → (w'.setCell ⟨w1.heap.size, 0, none⟩ u).cell? ⟨j, k, none⟩ = some v := fun w' u v j k hj hh => (World.cell?_setCell_other _ _ _ _ (hg0 hj).symm).trans hh
      have G0 : ∀ w' u, Below wr.heap.size wr w' → (w'.setCell ⟨w1.heap.size, 0, none⟩ u).cell? ⟨w.heap.size, 0, none⟩ = some (.func (.func 116) #[] #[]) := fun w' u hb => G _ _ _ _ _ (by omega) (F0 w' hb)
      have G1 : ∀ w' u, Below wr.heap.size wr w' → (w'.setCell ⟨w1.heap.size, 0, none⟩ u).cell? ⟨w.heap.size, 1, none⟩ = some (clo 117 b) := fun w' u hb => G _ _ _ _ _ (by omega) (F1 w' hb)
      have G2 : ∀ w' u, Below wr.heap.size wr w' → (w'.setCell ⟨w1.heap.size, 0, none⟩ u).cell? ⟨w.heap.size, 2, none⟩ = some (clo 118 b) := fun w' u hb => G _ _ _ _ _ (by omega) (F2 w' hb)
      have G3 : ∀ w' u, Below wr.heap.size wr w' → (w'.setCell ⟨w1.heap.size, 0, none⟩ u).cell? ⟨w.heap.size + 1, 0, none⟩ = some (.int .i64 x) := fun w' u hb => G _ _ _ _ _ (by omega) (F3 w' hb)
      clear G hg0 hy hvv
      go_upto_block 1 with fail
      go_cut [7] (fun s7 wx => s7 = .pointer (some ⟨w1.heap.size, 0, none⟩) ∧ EInv wx w.heap.size w1.heap.size b p x (hor p f x (k + 1)) ∧ Below w.heap.size w wx ∧ w1.heap.size < wx.heap.size)
      case first =>
        go_wp2
        refine wp_region_held_drew (S := fun w' => w'.cell? ⟨w.heap.size, 0, none⟩ = some (.func (.func 116) #[] #[]) ∧ w'.cell? ⟨w.heap.size, 1, none⟩ = some (clo 117 b) ∧ w'.cell? ⟨w.heap.size, 2, none⟩ = some (clo 118 b) ∧ w'.cell? ⟨w.heap.size + 1, 0, none⟩ = some (.int .i64 x)) (by kernel_rfl) ?_ (fun hHeld => ?_)
        · exact ⟨F0 _ hb00, F1 _ hb00, F2 _ hb00, F3 _ hb00⟩
        refine wpAnyH_take (i := 0) (v := ?_) rfl (by kernel_rfl) (by kernel_rfl) (by kernel_rfl) (fun _ _ _ h => h) (Or.inl ⟨by rfl, ?_⟩) (by assumption) ?_
        rotate_left 1
        · intro w hSw
          (try dsimp only at hSw)
          go_simp
          (try with_reducible rfl)
        (try simp only [Act.put, List.setIfInBounds_toArray, List.set_cons_zero, List.set_cons_succ])
        refine wpAnyH_take (i := 1) (v := ?_) rfl (by kernel_rfl) (by kernel_rfl) (by kernel_rfl) (fun _ _ _ h => h) (Or.inl ⟨by rfl, ?_⟩) (by assumption) ?_
        rotate_left 1
        · intro w hSw
          (try dsimp only at hSw)
          go_simp
          (try with_reducible rfl)
        (try simp only [Act.put, List.setIfInBounds_toArray, List.set_cons_zero, List.set_cons_succ])
        refine wpAnyH_take (i := 2) (v := ?_) rfl (by kernel_rfl) (by kernel_rfl) (by kernel_rfl) (fun _ _ _ h => h) (Or.inl ⟨by rfl, ?_⟩) (by assumption) ?_
        rotate_left 1
        · intro w hSw
          (try dsimp only at hSw)
          go_simp
          (try with_reducible rfl)
        (try simp only [Act.put, List.setIfInBounds_toArray, List.set_cons_zero, List.set_cons_succ])
        refine wpAnyH_take (i := 3) (v := ?_) rfl (by kernel_rfl) (by kernel_rfl) (by kernel_rfl) (fun _ _ _ h => h) (Or.inl ⟨by rfl, ?_⟩) (by assumption) ?_
        rotate_left 1
        · intro w hSw
          (try dsimp only at hSw)
          go_simp
          (try with_reducible rfl)
        (try simp only [Act.put, List.setIfInBounds_toArray, List.set_cons_zero, List.set_cons_succ])
        refine wpAnyH_take (i := 5) (v := ?_) rfl (by kernel_rfl) (by kernel_rfl) (by kernel_rfl) (fun _ _ _ h => h) (Or.inl ⟨by rfl, ?_⟩) (by assumption) ?_
        rotate_left 1
        · intro w hSw
          (try dsimp only at hSw)
          go_simp
          (try with_reducible rfl)
        (try simp only [Act.put, List.setIfInBounds_toArray, List.set_cons_zero, List.set_cons_succ])
        refine wpAnyH_take (i := 7) (v := ?_) rfl (by kernel_rfl) (by kernel_rfl) (by kernel_rfl) (fun _ _ _ h => h) (Or.inl ⟨by rfl, ?_⟩) (by assumption) ?_
        rotate_left 1
        · intro w hSw
          (try dsimp only at hSw)
          go_simp
          (try with_reducible rfl)
        (try simp only [Act.put, List.setIfInBounds_toArray, List.set_cons_zero, List.set_cons_succ])
        refine wpAnyH_take (i := 8) (v := ?_) rfl (by kernel_rfl) (by kernel_rfl) (by kernel_rfl) (fun _ _ _ h => h) (Or.inl ⟨by rfl, ?_⟩) (by assumption) ?_
        rotate_left 1
        · intro w hSw
          (try dsimp only at hSw)
          go_simp
          (try with_reducible rfl)
        (try simp only [Act.put, List.setIfInBounds_toArray, List.set_cons_zero, List.set_cons_succ])
        refine wpAnyH_take (i := 9) (v := ?_) rfl (by kernel_rfl) (by kernel_rfl) (by kernel_rfl) (fun _ _ _ h => h) (Or.inl ⟨by rfl, ?_⟩) (by assumption) ?_
        rotate_left 1
        · intro w hSw
          (try dsimp only at hSw)
          go_simp
          (try with_reducible rfl)
        (try simp only [Act.put, List.setIfInBounds_toArray, List.set_cons_zero, List.set_cons_succ])
        refine wpAnyH_take (i := 10) (v := ?_) rfl (by kernel_rfl) (by kernel_rfl) (by kernel_rfl) (fun _ _ _ h => h) (Or.inl ⟨by rfl, ?_⟩) (by assumption) ?_
        rotate_left 1
        · intro w hSw
          (try dsimp only at hSw)
          go_simp
          (try with_reducible rfl)
        (try simp only [Act.put, List.setIfInBounds_toArray, List.set_cons_zero, List.set_cons_succ])
        refine wpAnyH_ready (rs := [4]) (by kernel_rfl) (by simp) ?_
        refine AllReadyH.cons rfl (fun K hK => ?_) AllReadyH.nil
        go_simp
        refine hK.out _ _ ?_ (fun hHeld => ?_)
        · exact ⟨F0 _ (by assumption), F1 _ (by assumption), F2 _ (by assumption), F3 _ (by assumption)⟩
        clear hK K
        (try simp only [Act.put, List.setIfInBounds_toArray, List.set_cons_zero, List.set_cons_succ])
        refine wpAnyH_ready (rs := [6]) (by kernel_rfl) (by simp) ?_
        refine AllReadyH.cons rfl (fun K hK => ?_) AllReadyH.nil
        go_simp
        refine (numMul p v x b _ (EInv.hP (inv.below (by assumption))) m1 m2 hp).mono ?_
        rintro e wn ⟨rfl, hbn⟩
        have hbn2 := bnext (a := wr) (by assumption) hbn
        go_wp2_with fail
        refine hK.out _ _ ?_ (fun hHeld => ?_)
        · exact ⟨F0 _ (by assumption), F1 _ (by assumption), F2 _ (by assumption), F3 _ (by assumption)⟩
        clear hK K
        (try simp only [Act.put, List.setIfInBounds_toArray, List.set_cons_zero, List.set_cons_succ])
        refine wpAnyH_ready (rs := [11]) (by kernel_rfl) (by simp) ?_
        refine AllReadyH.cons rfl (fun K hK => ?_) AllReadyH.nil
        go_simp
        refine (numberAt_v _ n1 c1 (n1 - 1 - k) _ f y _ ((h1.below hBr).below (by assumption)) (by omega) (by omega) (by omega) Hy.out).mono ?_
        rintro e wn ⟨rfl, hbn⟩
        have hbn2 := bnext (a := wr) (by assumption) hbn
        go_wp2_with fail
        refine hK.out _ _ ?_ (fun hHeld => ?_)
        · exact ⟨F0 _ (by assumption), F1 _ (by assumption), F2 _ (by assumption), F3 _ (by assumption)⟩
        clear hK K
        (try simp only [Act.put, List.setIfInBounds_toArray, List.set_cons_zero, List.set_cons_succ])
        refine wpAnyH_ready (rs := [12]) (by kernel_rfl) (by simp) ?_
        refine AllReadyH.cons rfl (fun K hK => ?_) AllReadyH.nil
        go_simp
        refine (numConst y _).mono ?_
        rintro e wn ⟨rfl, hbn⟩
        have hbn2 := bnext (a := wr) (by assumption) hbn
        go_wp2_with fail
        refine hK.out _ _ ?_ (fun hHeld => ?_)
        · exact ⟨F0 _ (by assumption), F1 _ (by assumption), F2 _ (by assumption), F3 _ (by assumption)⟩
        clear hK K
        (try simp only [Act.put, List.setIfInBounds_toArray, List.set_cons_zero, List.set_cons_succ])
        refine wpAnyH_ready (rs := [13]) (by kernel_rfl) (by simp) ?_
        refine AllReadyH.cons rfl (fun K hK => ?_) AllReadyH.nil
        go_simp
        refine (numAdd p (v * x % p) y b _ (EInv.hP (inv.below (by assumption))) hmr.1 (by omega) r1 (by omega) hp).mono ?_
        rintro e wn ⟨rfl, hbn⟩
        have hbn2 := bnext (a := wr) (by assumption) hbn
        go_wp2_with fail
        refine hK.out _ _ ?_ (fun hHeld => ?_)
        · exact ⟨F0 _ (by assumption), F1 _ (by assumption), F2 _ (by assumption), F3 _ (by assumption)⟩
        clear hK K
        (try simp only [Act.put, List.setIfInBounds_toArray, List.set_cons_zero, List.set_cons_succ])
        have v4 := F4 _ hbn2
        have v5 := F5 _ hbn2
        refine wpAnyH_ready (rs := [14]) (by kernel_rfl) (by simp) ?_
        refine AllReadyH.cons rfl (fun K hK => ?_) AllReadyH.nil
        go_simp
        refine hK.out _ _ ?_ (fun hHeld => ?_)
        · exact ⟨G0 _ _ (by assumption), G1 _ _ (by assumption), G2 _ _ (by assumption), G3 _ _ (by assumption)⟩
        clear hK K
        (try simp only [Act.put, List.setIfInBounds_toArray, List.set_cons_zero, List.set_cons_succ])
        refine wpAnyH_done (by kernel_rfl) ?_ _
        go_wp2
        go_meet
        refine ⟨rfl, ?_, ?_, ?_⟩
        · rw [hh.out]
          exact (inv.below hbn2).setV (by omega) (by omega) ((v * x + y) % p)
        · exact (hBr.trans (hbn2.mono (by omega))).setCell (by simp; omega) _
        · have := hbn2.size
          simp
          omega
      case rest =>
        obtain ⟨rfl, inv', hB', hs'⟩ := hcut
        clear F0 F1 F2 F3 F4 F5 G0 G1 G2 G3 hV inv hb00 hsum hmr
        go_wp2
        go_roundw
        case rel => exact ⟨k + 1, by omega, by go_num, inv', hB', hs'⟩
        case measure => simp [intOf]; omega
    · obtain rfl : k = n1 := by omega
      have hsz : (k : Int) - 1 - (k : Int) = -1 := by omega
      have he : hor p f x k = evM p f x := by unfold evM; rw [hl1.out]
      rw [hsz]
      rw [he] at inv
      clear he hsz
      obtain ⟨hA, hA1, hA2, hX, hV, hP, ⟨vs, hS⟩, fV, fS⟩ := inv
      have hS2 : ∀ u, (wr.setCell ⟨w.heap.size + 1 + 1, 0, none⟩ u).cell? ⟨w.heap.size + 1 + 1, 0, none⟩ = some u := fun u => World.cell?_setCell_same _ _ _ hS
      go_wp2
      refine bodyPost_ret (v := num (evM p f x)) (by simp [results, Tryd.results105, go_sem, hS2]) rfl ⟨rfl, hBr.setCell (by simp; omega) _⟩
end Go.Proofs.YtdjifjlgllohmaaDoor
