/- Merged texts. -/
import Derived.Test.YtllcgoachgfpjaaYD419
import Derived.Test.YtllcgoachgfpjaaYD47
import Derived.Test.YtllcgoachgfpjaaYD413
/- Contracts: the closures that go on (recurrence, polysOf, associatesOf, goOn). -/
namespace Go.Proofs.Ytllcgoachgfpjaa
open Go.RowKit
set_option linter.unusedVariables false
set_option linter.unusedSimpArgs false

theorem OZ.nilZ (lo hi : Nat) (w : World) (a : Option Addr) (cap : Nat) (h : a = none → cap = 0) : OZ lo hi w a 0 cap [] := ⟨⟨rfl, ⟨Nat.zero_le _, h⟩, .inl rfl⟩, .inl rfl⟩
/-- A list of the call's own (blocks from lo on) that lies neither in the four blocks from B on nor in those from z up to ze. -/
def Kept (lo B z ze : Nat) (w : World) (a : Option Addr) (c : Nat) (f : List Int) : Prop :=
  ∃ l h, lo ≤ l ∧ h ≤ w.heap.size ∧ (h ≤ B ∨ B + 4 ≤ l) ∧ (h ≤ z ∨ ze ≤ l) ∧ OZ l h w a f.length c f
theorem Kept.below {lo B z ze : Nat} {w w' : World} {a : Option Addr} {c : Nat} {f : List Int} (h : Kept lo B z ze w a c f) (hb : Below w.heap.size w w') : Kept lo B z ze w' a c f := by
  obtain ⟨l, hh, h1, h2, h3, h4, h5⟩ := h
  exact ⟨l, hh, h1, Nat.le_trans h2 hb.size, h3, h4, h5.below hb⟩
theorem Kept.touch {lo B z ze : Nat} {w w' : World} {a : Option Addr} {c : Nat} {f : List Int} (h : Kept lo B z ze w a c f) (t : Touch B (B + 4) w w') : Kept lo B z ze w' a c f := by
  obtain ⟨l, hh, h1, h2, h3, h4, h5⟩ := h
  exact ⟨l, hh, h1, Nat.le_trans h2 t.size, h3, h4, h5.touch t h3⟩
theorem Kept.touchZ {lo B z ze : Nat} {w w' : World} {a : Option Addr} {c : Nat} {f : List Int} (h : Kept lo B z ze w a c f) (t : Touch z (ze) w w') : Kept lo B z ze w' a c f := by
  obtain ⟨l, hh, h1, h2, h3, h4, h5⟩ := h
  exact ⟨l, hh, h1, Nat.le_trans h2 t.size, h3, h4, h5.touch t h4⟩
theorem Kept.sl {lo B z ze : Nat} {w : World} {a : Option Addr} {c : Nat} {f : List Int} (h : Kept lo B z ze w a c f) : SL w a f.length c f := by
  obtain ⟨l, hh, h1, h2, h3, h4, h5⟩ := h
  exact h5.sl
theorem Kept.new {lo B z ze : Nat} {w w' : World} {a : Option Addr} {c : Nat} {f : List Int} (h : Own w.heap.size w' a c f) (h1 : lo ≤ w.heap.size) (h2 : B + 4 ≤ w.heap.size) (h3 : ze ≤ w.heap.size) : Kept lo B z ze w' a c f :=
  ⟨w.heap.size, w'.heap.size, h1, Nat.le_refl _, .inr h2, .inr h3, OZ.of h rfl⟩
/-- The closure of a recurrence, whose four blocks begin at B. -/
theorem Touch.set {lo hi : Nat} {a w : World} (h : Touch lo hi a w) {x : Addr} (h1 : lo ≤ x.block) (h2 : x.block < hi) (u : Value) : Touch lo hi a (w.setCell x u) :=
  h.trans ⟨rfl, rfl, rfl, by simp [World.setCell], fun k hk hd => Below.heap_setCell _ _ _ _ (by omega)⟩
theorem Touch.ofBelow {lo hi : Nat} {w w' : World} (h : Below w.heap.size w w') : Touch lo hi w w' := ⟨h.os, h.tape, h.output, h.size, fun k hk _ => h.block k hk⟩
theorem Touch.refl (lo hi : Nat) (w : World) : Touch lo hi w w := ⟨rfl, rfl, rfl, Nat.le_refl _, fun _ _ _ => rfl⟩
theorem Touch.frozen {lo hi b o : Nat} {w w' : World} {v : Value} {x : Bool} (t : Touch lo hi w w') (h : w.cell? ⟨b, o, none⟩ = some v) (hf : w.frozen? ⟨b, o, none⟩ = x) (hd : b < lo ∨ hi ≤ b) : w'.frozen? ⟨b, o, none⟩ = x :=
  (World.frozen?_of_block (w := w) (t.block b (World.block_lt_of_cell? w _ h) hd)).trans hf
/-- What a closure of a recurrence keeps of memory: data at B, the current and the next polynomial f, g, the number k. -/
structure RInv (z ze B : Nat) (w0 w : World) (p : Int) (a : Option Addr) (n c : Nat) (b : Option Addr) (d : Nat) (k : Nat) (f g : List Int) : Prop where
  hb : Below w0.heap.size w0 w
  lb : w0.heap.size ≤ B
  sz : B + 4 ≤ w.heap.size
  zs : ze ≤ w.heap.size
  j0 : w.cell? ⟨B, 0, none⟩ = some (.int .i64 p)
  j1 : w.cell? ⟨B, 1, none⟩ = some (.slice a n c)
  j2 : w.cell? ⟨B, 2, none⟩ = some (.slice b n d)
  cc : ∃ ac cc, w.cell? ⟨B + 1, 0, none⟩ = some (.slice ac f.length cc) ∧ Kept w0.heap.size B z ze w ac cc f
  cn : ∃ an cn, w.cell? ⟨B + 1 + 1, 0, none⟩ = some (.slice an g.length cn) ∧ Kept w0.heap.size B z ze w an cn g
  kk : w.cell? ⟨B + 1 + 1 + 1, 0, none⟩ = some (.int .i64 k)
  fc : w.frozen? ⟨B + 1, 0, none⟩ = false
  fn : w.frozen? ⟨B + 1 + 1, 0, none⟩ = false
  fk : w.frozen? ⟨B + 1 + 1 + 1, 0, none⟩ = false
/-- Another closure of the same kind has gone on. -/
theorem RInv.touch {z ze B : Nat} {w0 w w' : World} {p : Int} {a : Option Addr} {n c : Nat} {b : Option Addr} {d k : Nat} {f g : List Int} (h : RInv z ze B w0 w p a n c b d k f g) (t : Touch z (ze) w w') (hd : B + 4 ≤ z ∨ ze ≤ B) (hz : w0.heap.size ≤ z) : RInv z ze B w0 w' p a n c b d k f g := by
  obtain ⟨hb, lb, sz, zs, j0, j1, j2, ⟨ac, cc, c0, ck⟩, ⟨an, cn, n0, nk⟩, kk, fc, fn, fk⟩ := h
  have m : ∀ {x : Nat}, x < B + 4 → B ≤ x → x < z ∨ ze ≤ x := fun h1 h2 => by omega
  exact ⟨below_touch hb t hz (by omega), lb, Nat.le_trans sz t.size, Nat.le_trans zs t.size, t.cell j0 (m (by omega) (by omega)), t.cell j1 (m (by omega) (by omega)), t.cell j2 (m (by omega) (by omega)),
    ⟨ac, cc, t.cell c0 (m (by omega) (by omega)), ck.touchZ t⟩, ⟨an, cn, t.cell n0 (m (by omega) (by omega)), nk.touchZ t⟩, t.cell kk (m (by omega) (by omega)),
    t.frozen c0 fc (m (by omega) (by omega)), t.frozen n0 fn (m (by omega) (by omega)), t.frozen kk fk (m (by omega) (by omega))⟩
theorem RInv.below {z ze B : Nat} {w0 w w' : World} {p : Int} {a : Option Addr} {n c : Nat} {b : Option Addr} {d k : Nat} {f g : List Int} (h : RInv z ze B w0 w p a n c b d k f g) (t : Below w.heap.size w w') : RInv z ze B w0 w' p a n c b d k f g := by
  obtain ⟨hb, lb, sz, zs, j0, j1, j2, ⟨ac, cc, c0, ck⟩, ⟨an, cn, n0, nk⟩, kk, fc, fn, fk⟩ := h
  exact ⟨hb.trans (t.mono (by omega)), lb, Nat.le_trans sz t.size, Nat.le_trans zs t.size, cell_be t j0, cell_be t j1, cell_be t j2, ⟨ac, cc, cell_be t c0, ck.below t⟩, ⟨an, cn, cell_be t n0, nk.below t⟩, cell_be t kk,
    (t.frozen (World.block_lt_of_cell? _ _ c0)).trans fc, (t.frozen (World.block_lt_of_cell? _ _ n0)).trans fn, (t.frozen (World.block_lt_of_cell? _ _ kk)).trans fk⟩
/-- The zone of another closure that is made later. -/
theorem Kept.zone {lo B z ze z' ze' : Nat} {w : World} {a : Option Addr} {c : Nat} {f : List Int} (h : Kept lo B z ze w a c f) (hz : w.heap.size ≤ z') : Kept lo B z' ze' w a c f := by
  obtain ⟨l, hh, h1, h2, h3, h4, h5⟩ := h
  exact ⟨l, hh, h1, h2, h3, .inl (by omega), h5⟩
theorem RInv.zone {z ze z' ze' B : Nat} {w0 w w' : World} {p : Int} {a : Option Addr} {n c : Nat} {b : Option Addr} {d k : Nat} {f g : List Int} (h : RInv z ze B w0 w p a n c b d k f g) (hz : w.heap.size ≤ z') (t : Below w.heap.size w w') (hs : ze' ≤ w'.heap.size) : RInv z' ze' B w0 w' p a n c b d k f g := by
  obtain ⟨hb, lb, sz, zs, j0, j1, j2, ⟨ac, cc, c0, ck⟩, ⟨an, cn, n0, nk⟩, kk, fc, fn, fk⟩ := h
  exact ⟨hb.trans (t.mono (by omega)), lb, Nat.le_trans sz t.size, hs, cell_be t j0, cell_be t j1, cell_be t j2, ⟨ac, cc, cell_be t c0, (ck.zone hz).below t⟩, ⟨an, cn, cell_be t n0, (nk.zone hz).below t⟩, cell_be t kk,
    (t.frozen (World.block_lt_of_cell? _ _ c0)).trans fc, (t.frozen (World.block_lt_of_cell? _ _ n0)).trans fn, (t.frozen (World.block_lt_of_cell? _ _ kk)).trans fk⟩
end Go.Proofs.Ytllcgoachgfpjaa
/- Plain mathematics of chapter 2: sums of products modulo p, sums of lists, eliminations. No program. -/
namespace Go.Proofs.Ytllcgoachgfpjaa
open Go.RowKit
set_option linter.unusedVariables false
set_option linter.unusedSimpArgs false
/-- The sum of the first i products of numbers of f and of xs from k on. -/
def dotK (p : Int) (f xs : List Int) (k : Nat) : Nat → Int
  | 0 => 0
  | i + 1 => (dotK p f xs k i + f.getD i 0 * xs.getD (i + k) 0) % p
theorem dotK_rng {p : Int} (hp : 2 ≤ p) (f xs : List Int) (k i : Nat) : 0 ≤ dotK p f xs k i ∧ dotK p f xs k i < p := by
  cases i with
  | zero => simp [dotK]; omega
  | succ i => exact modb hp
/-- The numbers of xs and k times those of ys together. -/
def addlM (p k : Int) (xs ys : List Int) : List Int := tab xs.length (fun j => (xs.getD j 0 + k * ys.getD j 0) % p)
theorem addlM_len (p k : Int) (xs ys : List Int) : (addlM p k xs ys).length = xs.length := tab_len _ _
theorem tab_are {p : Int} {n : Nat} {h : Nat → Int} (e : ∀ j, j < n → 0 ≤ h j ∧ h j < p) : areB p (tab n h) = true := areB_mk fun j hj => by
  rw [tab_len] at hj
  rw [tab_at _ _ _ hj]
  exact e j hj
theorem addlM_are {p : Int} (hp : 2 ≤ p) (k : Int) (xs ys : List Int) : areB p (addlM p k xs ys) = true := tab_are fun _ _ => modb hp
/-- The products of moments by f: n of them. -/
def prodM (p : Int) (f xs : List Int) (n : Nat) : List Int := tab n (fun j => dotK p f xs j f.length)
theorem addlM_dot (p : Int) (f xs : List Int) (n i : Nat) (h : i + n ≤ xs.length) : addlM p (f.getD i 0) (tab n (fun j => dotK p f xs j i)) ((xs.drop i).take n) = tab n (fun j => dotK p f xs j (i + 1)) := by
  unfold addlM
  rw [tab_len]
  apply tab_congr
  intro j hj
  rw [tab_at _ _ _ hj, dotK]
  congr 3
  simp [List.getElem?_take, hj]

/-- A row less a multiple of the row of the pivot. -/
def elimR (p : Int) (own row : List Int) (k n : Nat) : List Int := tab n (fun j => (row.getD j 0 - row.getD k 0 * invM p (own.getD k 0) % p * own.getD j 0) % p)
theorem elim_eq (p R rk inv o : Int) : (R + (p - inv) * rk % p * o) % p = (R - rk * inv % p * o) % p := by
  have e1 : ((p - inv) * rk % p * o) % p = ((p - inv) * rk * o) % p := by rw [Int.mul_emod, Int.emod_emod, ← Int.mul_emod]
  have e2 : (rk * inv % p * o) % p = (rk * inv * o) % p := by rw [Int.mul_emod, Int.emod_emod, ← Int.mul_emod]
  rw [Int.add_emod, e1, ← Int.add_emod, Int.sub_emod, e2, ← Int.sub_emod]
  have e3 : R + (p - inv) * rk * o = R - rk * inv * o + p * (rk * o) := by
    rw [Int.sub_mul, Int.sub_mul, Int.mul_comm inv rk, Int.mul_assoc p]; omega
  rw [e3, Int.add_mul_emod_self_left]
theorem neg_eq (p r x : Int) : (p - r) * x % p = (-r) % p * x % p := by
  rw [Int.mul_emod (-r % p), Int.emod_emod, ← Int.mul_emod, Int.sub_mul, Int.neg_mul]
  have : p * x - r * x = - (r * x) + p * x := by omega
  rw [this, Int.add_mul_emod_self_left]
/-- The first row from b on, of so many, with another number than 0 at c. -/
def pivF (X : Nat → List Int) (c : Nat) : Nat → Nat → Nat
  | 0, b => b
  | f + 1, b => if (X b).getD c 0 = 0 then pivF X c f (b + 1) else b
theorem pivF_rng (X : Nat → List Int) (c : Nat) : ∀ f b, b ≤ pivF X c f b ∧ pivF X c f b ≤ b + f := by
  intro f
  induction f with
  | zero => intro b; simp [pivF]
  | succ f ih =>
    intro b
    unfold pivF
    split
    · have := ih (b + 1); omega
    · omega
theorem pivF_at (X : Nat → List Int) (c : Nat) : ∀ f b, pivF X c f b < b + f → (X (pivF X c f b)).getD c 0 ≠ 0 := by
  intro f
  induction f with
  | zero => intro b h; simp [pivF] at h
  | succ f ih =>
    intro b h
    unfold pivF at h ⊢
    split
    · rename_i hz
      rw [if_pos hz] at h
      exact ih (b + 1) (by omega)
    · rename_i hz; exact hz
theorem pivF_skip (X : Nat → List Int) (c : Nat) : ∀ f b, (∀ i, b ≤ i → i < b + f → (X i).getD c 0 = 0) → pivF X c f b = b + f := by
  intro f
  induction f with
  | zero => intro b _; rfl
  | succ f ih =>
    intro b h
    unfold pivF
    rw [if_pos (h b (by omega) (by omega)), ih (b + 1) (fun i h1 h2 => h i (by omega) (by omega))]
    omega
theorem pivF_stop (X : Nat → List Int) (c : Nat) : ∀ f b j, j < f → (∀ i, b ≤ i → i < b + j → (X i).getD c 0 = 0) → (X (b + j)).getD c 0 ≠ 0 → pivF X c f b = b + j := by
  intro f
  induction f with
  | zero => intro b j h; omega
  | succ f ih =>
    intro b j hj h h2
    unfold pivF
    cases j with
    | zero => rw [Nat.add_zero] at h2; rw [if_neg h2]; rfl
    | succ j =>
      rw [if_pos (h b (by omega) (by omega)), ih (b + 1) j (by omega) (fun i h1 h3 => h i (by omega) (by omega)) (by rw [show b + 1 + j = b + (j + 1) by omega]; exact h2)]
      omega
def swapR (X : Nat → List Int) (a b : Nat) : Nat → List Int := fun i => if i = a then X b else if i = b then X a else X i
/-- The rows behind k up to m have 0 at k. -/
def stepR (p : Int) (n k m : Nat) (X : Nat → List Int) : Nat → List Int := fun i => if k < i ∧ i < m then elimR p (X k) (X i) k n else X i
def sgn (p r : Int) (b k : Nat) : Int := if b = k then r else (-r) % p
def detL (p : Int) (n : Nat) : Nat → Nat → (Nat → List Int) → Int → Int
  | 0, _, _, r => r
  | f + 1, k, X, r => if pivF X k (n - k) k = n then 0 else
      detL p n f (k + 1) (stepR p n k n (swapR X k (pivF X k (n - k) k))) (sgn p r (pivF X k (n - k) k) k * (swapR X k (pivF X k (n - k) k) k).getD k 0 % p)
def detM (p : Int) (n : Nat) (X : Nat → List Int) : Int := detL p n n 0 X 1
theorem pivF_congr {X Y : Nat → List Int} (c : Nat) : ∀ f b, (∀ i, b ≤ i → i < b + f → X i = Y i) → pivF X c f b = pivF Y c f b := by
  intro f
  induction f with
  | zero => intro b _; rfl
  | succ f ih =>
    intro b h
    unfold pivF
    rw [h b (by omega) (by omega), ih (b + 1) (fun i h1 h2 => h i (by omega) (by omega))]
theorem detL_congr {p : Int} {n : Nat} : ∀ f k (X Y : Nat → List Int) r, k + f = n → (∀ i, i < n → X i = Y i) → detL p n f k X r = detL p n f k Y r := by
  intro f
  induction f with
  | zero => intro k X Y r _ _; rfl
  | succ f ih =>
    intro k X Y r hk h
    have hp := pivF_congr k (n - k) k (fun i h1 h2 => h i (by omega))
    have hr := pivF_rng Y k (n - k) k
    unfold detL
    rw [hp]
    by_cases e : pivF Y k (n - k) k = n
    · rw [if_pos e, if_pos e]
    · have hs : ∀ i, i < n → swapR X k (pivF Y k (n - k) k) i = swapR Y k (pivF Y k (n - k) k) i := fun i hi => by
        unfold swapR
        rw [h i hi, h k (by omega), h (pivF Y k (n - k) k) (by omega)]
      rw [if_neg e, if_neg e, hs k (by omega)]
      refine ih (k + 1) _ _ _ (by omega) fun i hi => ?_
      unfold stepR
      rw [hs i hi, hs k (by omega)]
theorem detL_rng {p : Int} (hp : 2 ≤ p) {n : Nat} : ∀ f k (X : Nat → List Int) r, 0 ≤ r → r < p → 0 ≤ detL p n f k X r ∧ detL p n f k X r < p := by
  intro f
  induction f with
  | zero => intro k X r h1 h2; exact ⟨h1, h2⟩
  | succ f ih =>
    intro k X r h1 h2
    unfold detL
    split
    · omega
    · exact ih _ _ _ (modb hp).1 (modb hp).2
end Go.Proofs.Ytllcgoachgfpjaa
