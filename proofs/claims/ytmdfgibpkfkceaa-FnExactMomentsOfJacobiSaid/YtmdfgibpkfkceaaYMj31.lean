/- Merged texts. -/
import Derived.Test.YtmdfgibpkfkceaaYMj10
import Derived.Test.YtmdfgibpkfkceaaYMj30
import Derived.Test.YtmdfgibpkfkceaaYMj22
import Derived.Test.YtmdfgibpkfkceaaYMj24
/- Contracts: reversed, checkNonzero (program), l06Code, l02Back (model), ReversePolynomial (program and model). -/
namespace Go.Proofs.Ytmdfgibpkfkceaa
open Go.RowKit
set_option linter.unusedVariables false
set_option linter.unusedSimpArgs false

/-- The first n lists all hold a number. -/
def nzB (X : Nat → List Int) : Nat → Bool
  | 0 => true
  | k + 1 => nzB X k && !(X k).isEmpty
def nzC (p : Int) (X : Nat → List Int) (n : Nat) : Int := if chkC p X n = 0 then (if nzB X n then 0 else 5) else chkC p X n
theorem nzB_false (X : Nat → List Int) (n k : Nat) (hk : k < n) (h : (X k).isEmpty = true) : nzB X n = false := by
  induction n with
  | zero => omega
  | succ n ih =>
    rcases (show k = n ∨ k < n by omega) with rfl | h'
    · unfold nzB; rw [h]; simp
    · unfold nzB; rw [ih h']; rfl
theorem chkC_cases (p : Int) (X : Nat → List Int) (n : Nat) : chkC p X n = 1 ∨ chkC p X n = 2 ∨ chkC p X n = 0 := by
  unfold chkC
  cases chkB p X n <;> cases primeB p <;> simp
theorem isEmpty_len {f : List Int} {n : Nat} (h : f.length = n) : f.isEmpty = decide (n = 0) := by
  subst h
  cases f <;> simp
def nz1 (p : Int) (f : List Int) : Int := if chk1 p f = 0 then (if f.isEmpty then 5 else 0) else chk1 p f
def nz2 (p : Int) (f g : List Int) : Int := if chk2 p f g = 0 then (if f.isEmpty || g.isEmpty then 5 else 0) else chk2 p f g
theorem nzC1 (p : Int) (f : List Int) : nzC p (fun _ => f) 1 = nz1 p f := by
  unfold nzC nz1
  rw [chkC1]
  simp only [nzB, Bool.true_and]
  cases f.isEmpty <;> simp
theorem nzC2 (p : Int) (f g : List Int) : nzC p (fun j => if j = 0 then f else g) 2 = nz2 p f g := by
  unfold nzC nz2
  rw [chkC2]
  simp only [nzB, Bool.true_and, if_true, Nat.one_ne_zero, if_false]
  cases f.isEmpty <;> cases g.isEmpty <;> rfl
theorem nz1_cases (p : Int) (f : List Int) : (nz1 p f = 1 ∨ nz1 p f = 2 ∨ nz1 p f = 5) ∨ (nz1 p f = 0 ∧ polyB p f = true ∧ primeB p = true ∧ f.length ≠ 0) := by
  unfold nz1
  rcases chk1_cases p f with h | h | ⟨h, h1, h2⟩ <;> rw [h]
  · exact .inl (.inl (by simp))
  · exact .inl (.inr (.inl (by simp)))
  · cases he : f.isEmpty
    · exact .inr ⟨by simp, h1, h2, by cases f <;> simp at he ⊢⟩
    · exact .inl (.inr (.inr (by simp)))
theorem nz2_cases (p : Int) (f g : List Int) : (nz2 p f g = 1 ∨ nz2 p f g = 2 ∨ nz2 p f g = 5) ∨ (nz2 p f g = 0 ∧ polyB p f = true ∧ polyB p g = true ∧ primeB p = true ∧ f.length ≠ 0 ∧ g.length ≠ 0) := by
  unfold nz2
  rcases chk2_cases p f g with h | h | ⟨h, h1, h2, h3⟩ <;> rw [h]
  · exact .inl (.inl (by simp))
  · exact .inl (.inr (.inl (by simp)))
  · cases he : f.isEmpty
    · cases hg : g.isEmpty
      · exact .inr ⟨by simp, h1, h2, h3, by cases f <;> simp at he ⊢, by cases g <;> simp at hg ⊢⟩
      · exact .inl (.inr (.inr (by simp)))
    · exact .inl (.inr (.inr (by simp)))
set_option maxRecDepth 100000 in
theorem reversed_any (a : Option Addr) (n c : Nat) (xs : List Int) (w : World) (hs : SL w a n c xs) (hn : n ≤ 1000) :
    Calls Try.prog 236 #[.slice a n c] w fun e w' => ∃ a' c', e = .returned (.slice a' n c') ∧ Own w.heap.size w' a' c' (revL xs) ∧ Below w.heap.size w w' := by
  have hl := hs.len
  go_enter Try.func236, Try.ntmps236
  go_wp2_with fail
  refine (clone_any a n c xs _ hs (by omega)).mono ?_
  rintro e w1 ⟨a1, c1, rfl, ho, hb⟩
  go_wp2_with fail
  refine (reverse_own w.heap.size a1 n c1 xs w1 ho hl.symm hn).mono ?_
  rintro e w2 ⟨rfl, ho2, lo, hi, ht, hlo, _, _⟩
  have hB := below_touch hb ht hlo hb.size
  go_wp2
  go_ret
  exact ⟨a1, c1, rfl, ho2, hB⟩
set_option maxRecDepth 100000 in
set_option maxHeartbeats 1600000 in
theorem l02Back_any (a : Option Addr) (n c : Nat) (xs : List Int) (w : World) (hs : SL w a n c xs) (hn : n ≤ 100000) :
    Calls Try.prog 227 #[.slice a n c] w fun e w' => ∃ a' c', e = .returned (.slice a' n c') ∧ Own w.heap.size w' a' c' (revL xs) ∧ Below w.heap.size w w' := by
  have hl := hide hs.len
  have ho : Own w.heap.size (w.alloc (.cells #[] 2)) (some ⟨w.heap.size, 0, none⟩) 0 [] := World.ownsRow_lit w (base := w.heap.size) (e := 2) (size := 1) #[] 0 (Nat.le_refl _) (by simp) rfl
  have hb0 := bl1 w (.cells #[] 2)
  have hz0 : Hid (([] : List Int) = tab 0 (fun j => xs.getD (n - 1 - j) 0)) := hide rfl
  have v0 : IntKind.i64.wrap ((n : Int) - 1) = (n : Int) - 1 := IntWalk.i64_in _ (by omega)
  go_enter Try.func227, Try.ntmps227
  go_wp2
  clear v0
  go_loopw [3, 4] (fun ov iv wr => ∃ (k : Nat) (a' : Option Addr) (c' : Nat) (zs : List Int), k ≤ n ∧ iv = .int .i64 ((n : Int) - 1 - k) ∧ ov = .slice a' k c' ∧ Hid (zs = tab k (fun j => xs.getD (n - 1 - j) 0)) ∧ Hid (zs.length = k) ∧ Hid (Own w.heap.size wr a' c' zs) ∧ Below w.heap.size w wr) (fun _ iv _ => (intOf iv + 1).toNat)
  case atStart => exact ⟨0, _, 0, [], by omega, by simp, rfl, hz0, hide rfl, hide ho, hb0⟩
  case round =>
    obtain ⟨k, a', c', zs, hk, rfl, rfl, hZ, hzl, hO, hBr⟩ := hrel
    clear ho hb0 hz0
    by_cases hlt : k < n
    · obtain ⟨i, hi⟩ : ∃ i : Nat, i = n - 1 - k := ⟨_, rfl⟩
      have hii : (n : Int) - 1 - k = (i : Int) := by omega
      obtain ⟨b, off, ha, hbw, hcell⟩ := (hs.below hBr).at (by omega)
      subst ha
      have e1 := hcell i (by omega)
      have hst : Hid (tab (k + 1) (fun j => xs.getD (n - 1 - j) 0) = zs ++ [xs.getD i 0]) := hide (by rw [hZ.out, hi]; exact (tab_snoc k (fun j => xs.getD (n - 1 - j) 0)).symm)
      obtain ⟨x, hx⟩ : ∃ x, xs.getD i 0 = x := ⟨_, rfl⟩
      rw [hx] at e1 hst
      rw [hii]
      have Hi := hide hi
      have q1 : (i : Int) < (n : Int) := by omega
      have q2 : (0 : Int) ≤ (i : Int) := by omega
      have v1 : IntKind.i64.wrap ((i : Int) - 1) = (i : Int) - 1 := IntWalk.i64_in _ (by omega)
      have hbs := hBr.size
      have hOa := hide (hO.out.below (bl1 wr (.cells #[.int .i64 x] 2)))
      clear hcell hx hi hii hO
      go_wp2_with (at_builtin; refine wp_append rfl _ _ rfl w.heap.size _ k _ zs rfl hzl.out.symm hOa.out _ 1 1 [x] rfl (litSL wr x) (by omega) (by simp; omega) ?_; intro ad' cap' w1 hown hb)
      have hown' := hide hown
      have hB1 := (hBr.alloc hbs (.cells #[.int .i64 x] 2)).trans hb
      have hl2 : Hid ((zs ++ [x]).length = k + 1) := hide (by rw [List.length_append, hzl.out]; rfl)
      have hst' := hide hst.out.symm
      clear hown hb hOa hst
      go_wp2
      go_roundw
      case rel => exact ⟨k + 1, ad', cap', zs ++ [x], by omega, by rw [show ((n : Int) - 1 - ((k + 1 : Nat) : Int)) = (i : Int) - 1 by have := Hi.out; omega], by rw [hzl.out], hst', hl2, hown', hB1⟩
      case measure => first | (simp [intOf]; done) | (simp [intOf]; omega)
    · have hkn : k = n := by omega
      have Hk := hide hkn
      have hlt' : ¬ (0 : Int) ≤ (n : Int) - 1 - (k : Int) := by omega
      have hR : Hid (zs = revL xs) := hide (by rw [hZ.out, hkn]; unfold revL; rw [hl.out])
      clear hkn
      go_wp2
      refine bodyPost_ret (v := .slice a' k c') (by simp [results, Try.results227]) rfl ?_
      exact ⟨a', c', by rw [Hk.out], by rw [← hR.out]; exact hO.out, hBr⟩
def rvpC (p : Int) (f : List Int) : Int := if nz1 p f = 0 then (if f.getD 0 0 = 0 then 5 else 0) else nz1 p f
def rvpV (p : Int) (f : List Int) : List Int := if rvpC p f = 0 then revL f else []
end Go.Proofs.Ytmdfgibpkfkceaa
/- The determinant of the rows of two lists (program): resultant. -/
namespace Go.Proofs.Ytmdfgibpkfkceaa
open Go.RowKit
set_option linter.unusedVariables false
set_option linter.unusedSimpArgs false

theorem splice_at (Y : List Int) (off : Nat) (zs : List Int) (h : off + zs.length ≤ Y.length) (j : Nat) (hj : j < Y.length) : (splice Y off zs).getD j 0 = if off ≤ j ∧ j < off + zs.length then zs.getD (j - off) 0 else Y.getD j 0 := by
  unfold splice
  have hl : (Y.take off).length = off := by rw [List.length_take]; omega
  simp only [List.getD_eq_getElem?_getD]
  by_cases h1 : j < off
  · rw [List.getElem?_append_left (by omega), if_neg (by omega), List.getElem?_take, if_pos h1]
  · rw [List.getElem?_append_right (by omega), hl]
    by_cases h2 : j < off + zs.length
    · rw [List.getElem?_append_left (by omega), if_pos ⟨by omega, h2⟩]
    · rw [List.getElem?_append_right (by omega), if_neg (by omega), List.getElem?_drop]
      congr 2
      omega
/-- A matrix of N rows, R i j in its rows ahead of row k, and 0 in the others. -/
def fillT (N : Nat) (R : Nat → Nat → Int) (k : Nat) : Nat → Int := fun t => if t / N < k then R (t / N) (t % N) else 0
theorem fill_zero (N : Nat) (R : Nat → Nat → Int) (M : Nat) : tab M (fun _ => 0) = tab M (fillT N R 0) := tab_congr fun t _ => by simp [fillT]
theorem div_row {N k j : Nat} (hj : j < N) : (k * N + j) / N = k ∧ (k * N + j) % N = j := by
  refine ⟨?_, ?_⟩
  · rw [Nat.add_comm, Nat.add_mul_div_right _ _ (by omega), Nat.div_eq_of_lt hj, Nat.zero_add]
  · rw [Nat.add_comm, Nat.add_mul_mod_self_right, Nat.mod_eq_of_lt hj]
theorem fill_row (N : Nat) (R : Nat → Nat → Int) (i : Nat) (hi : i < N) : rowM N (tab (N * N) (fillT N R N)) i = tab N (R i) := by
  unfold rowM
  apply tab_congr
  intro j hj
  rw [tab_at _ _ _ (mat_lt hi hj)]
  unfold fillT
  rw [(div_row hj).1, (div_row hj).2, if_pos hi]
theorem fill_splice (N : Nat) (R : Nat → Nat → Int) (k o : Nat) (zs : List Int) (hk : k < N) (ho : o + zs.length ≤ N) (hz : ∀ j, j < N → R k j = if o ≤ j ∧ j < o + zs.length then zs.getD (j - o) 0 else 0) :
    splice (tab (N * N) (fillT N R k)) (k * N + o) zs = tab (N * N) (fillT N R (k + 1)) := by
  have hkn : k * N + N ≤ N * N := by
    have : (k + 1) * N ≤ N * N := Nat.mul_le_mul_right N (by omega)
    rw [Nat.add_mul] at this
    omega
  have hfit : k * N + o + zs.length ≤ (tab (N * N) (fillT N R k)).length := by rw [tab_len]; omega
  apply ext_tab
  · rw [length_splice _ _ _ hfit, tab_len, tab_len]
  · intro t ht
    rw [length_splice _ _ _ hfit] at ht
    rw [splice_at _ _ _ hfit t ht]
    rw [tab_len] at ht
    rw [tab_at _ _ _ ht, tab_at _ _ _ ht]
    by_cases hin : k * N ≤ t ∧ t < k * N + N
    · obtain ⟨j, rfl⟩ : ∃ j, t = k * N + j := ⟨t - k * N, by omega⟩
      have hj : j < N := by omega
      unfold fillT
      rw [(div_row hj).1, (div_row hj).2, if_neg (Nat.lt_irrefl k), if_pos (Nat.lt_succ_self k), hz j hj]
      by_cases h : o ≤ j ∧ j < o + zs.length
      · rw [if_pos h, if_pos (by omega), show k * N + j - (k * N + o) = j - o by omega]
      · rw [if_neg h, if_neg (by omega)]
    · have hd : t / N < k ↔ t / N < k + 1 := by
        have h1 := Nat.div_add_mod t N
        have h2 := Nat.mod_lt t (show N > 0 by omega)
        constructor
        · omega
        · intro h3
          refine Nat.lt_of_le_of_ne (by omega) (fun e => hin ?_)
          rw [e, Nat.mul_comm] at h1
          omega
      rw [if_neg (by omega)]
      unfold fillT
      by_cases h : t / N < k
      · rw [if_pos h, if_pos (hd.1 h)]
      · rw [if_neg h, if_neg (fun h2 => h (hd.2 h2))]
/-- The rows of two lists A, B of n + 1 and of m + 1 numbers. -/
def sylR (n m : Nat) (A B : List Int) (i j : Nat) : Int :=
  if i < m then (if i ≤ j ∧ j < i + (n + 1) then A.getD (j - i) 0 else 0) else (if i - m ≤ j ∧ j < i - m + (m + 1) then B.getD (j - (i - m)) 0 else 0)
def sylX (n m : Nat) (A B : List Int) (i : Nat) : List Int := tab (n + m) (sylR n m A B i)
def sylM (p : Int) (n m : Nat) (A B : List Int) : Int := detM p (n + m) (sylX n m A B)
theorem sylX_are {p : Int} (hp : 2 ≤ p) {A B : List Int} (hA : areB p A = true) (hB : areB p B = true) (n m i : Nat) : areB p (sylX n m A B i) = true := tab_are' fun j _ => by
  unfold sylR
  split <;> split
  · exact getD_rng hA hp _
  · omega
  · exact getD_rng hB hp _
  · omega
theorem step_copyP {ops : Array Oper} {o : Oper} {a : Act} {w : World} {K : Act → World → Prop} {Q : Exit → Act → World → Prop} {F : Prop}
    (hgd : o.guard = none) (d s : Operand) (ho : o.op = .call { callee := .builtin .copy, args := #[d, s], argTypes := #[24, 24] })
    (L off dLen dCap : Nat) (Y : List Int) (hd : a.eval d = .slice (some ⟨L, off, none⟩) dLen dCap) (hrow : RowI w L Y) (sp : Option Addr) (m c : Nat) (zs : List Int)
    (hs : a.eval s = .slice sp m c) (hz : SL w sp m c zs) (hm : m ≤ dLen) (hfit : off + m ≤ Y.length)
    (h : ∀ w', Hid (RowI w' L (splice Y off zs)) → w.grownBy w' (some L) → K (a.put o.dst (.int .i64 m)) w') :
    if Region.wanted o (yielded ops a.tmps) = true then Oper.wp Try.prog o a w K Q else F := by
  rw [if_pos (show Region.wanted o (yielded ops a.tmps) = true by simp [Region.wanted, hgd])]
  obtain ⟨hl, hle, hcs⟩ := hz
  by_cases h0 : m = 0
  · subst h0
    obtain rfl : zs = [] := List.eq_nil_of_length_eq_zero hl
    have hrun := run_copy_none (P := Try.prog) w 24 24 o.type 2 (some ⟨L, off, none⟩) sp dLen dCap 0 c Try.underlying24 sizeI (by simp)
    have := h w (hide (by simpa [splice] using hrow)) (grown_refl _ _)
    unfold Oper.wp
    simp [execOp, ho, resolve, invoke, builtin, hd, hs, hrun, Result.andThen]
    exact this
  · rcases hcs with hc | ⟨b, o2, rfl, hcell⟩
    · exact absurd hc h0
    · have hcl : (zs.map (Value.int .i64)).length = m := by rw [List.length_map, hl]
      have hsrc : ∀ j v, (zs.map (Value.int .i64))[j]? = some v → w.cell? ((⟨b, o2, none⟩ : Addr).add j) = some v := fun j v hj => by
        have hjz : j < zs.length := by
          have := (List.getElem?_eq_some_iff.1 hj).1
          simpa using this
        rw [Addr.add_lit, hcell j (by omega)]
        simpa [hjz] using hj
      have h1 : ∀ v ∈ zs.map (Value.int .i64), v.oneCell' = true := fun u hu => by
        obtain ⟨_, _, rfl⟩ := List.mem_map.1 hu
        rfl
      have hrun := run_copy_row (P := Try.prog) w 24 24 o.type 2 L off dLen dCap ⟨b, o2, none⟩ m c (Y.map (Value.int .i64)).toArray 2 (zs.map (Value.int .i64)) Try.underlying24 sizeI hrow (by rw [hcl]; exact (Nat.min_eq_left hm).symm) hsrc (by rw [hcl]; simpa using hfit) h1
      have hR : RowI (w.setRow L (((Y.map (Value.int .i64)).toArray.toList.take off ++ zs.map (Value.int .i64) ++ (Y.map (Value.int .i64)).toArray.toList.drop (off + (zs.map (Value.int .i64)).length)).toArray)) L (splice Y off zs) := by
        unfold RowI
        rw [setRow_heap w L _ _ _ _ hrow]
        simp [splice]
      have := h _ (hide hR) ⟨rfl, rfl, rfl, by simp [World.setRow], fun k _ hk => setRow_other w L k _ (fun e => hk (by rw [e]))⟩
      rw [hcl] at hrun this
      rw [hcl] at hR
      simp only [← List.append_assoc] at hrun this
      generalize World.setRow w L _ = W at hrun this
      unfold Oper.wp
      simp [execOp, ho, resolve, invoke, builtin, hd, hs, hrun, Result.andThen]
      exact this
theorem MatW.copied {w w' : World} {L g n : Nat} {Y Z : List Int} (h : MatW w L g n Y) (hR : RowI w' L Z) (hl : Z.length = n * n) (hg : w.grownBy w' (some L)) : MatW w' L g n Z :=
  ⟨hR, hl, (hg.block g h.sl.lt (fun e => h.ne (by simpa using e.symm))).trans h.sl, h.ne⟩
end Go.Proofs.Ytmdfgibpkfkceaa
