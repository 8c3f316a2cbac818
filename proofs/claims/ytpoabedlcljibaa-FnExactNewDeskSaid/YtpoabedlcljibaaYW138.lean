/- Merged texts. -/
import Derived.Test.YtpoabedlcljibaaYW137
import Derived.Test.YtpoabedlcljibaaYW126
import Derived.Test.YtpoabedlcljibaaYW13
import Derived.Test.YtpoabedlcljibaaYW127
import Derived.Test.YtpoabedlcljibaaYW131
/- Contract: StepBack (program). -/
namespace Go.Proofs.Ytpoabedlcljibaa
open Go.RowKit
set_option linter.unusedVariables false
set_option linter.unusedSimpArgs false

theorem step_appG {w : World} {ops : Array Oper} {o : Oper} {a : Act} {K : Act → World → Prop} {Q : Exit → Act → World → Prop} {E : Prop}
    (hgd : o.guard = none) (s x : Operand) (ho : o.op = .call { callee := .builtin .append, args := #[s, x], argTypes := #[22, 22] })
    (B : Nat) (ad : Option Addr) (n cap : Nat) (ys : List Int) (hs : a.eval s = .slice ad n cap) (hn : n = ys.length) (hown : Own B w ad cap ys)
    (ax : Option Addr) (m c : Nat) (zs : List Int) (hx : a.eval x = .slice ax m c) (hz : SL w ax m c zs) (hmax : n + m ≤ 4000000) (hB : B ≤ w.heap.size)
    (hK : ∀ ad' cap' w', Own B w' ad' cap' (ys ++ zs) → w.grownBy w' (blk ad) → (blk ad' = blk ad ∨ blk ad' = some w.heap.size) → K (a.put o.dst (.slice ad' (ys ++ zs).length cap')) w') :
    if Region.wanted o (yielded ops a.tmps) = true then Oper.wp Try.prog o a w K Q else E := by
  have hw : Region.wanted o (yielded ops a.tmps) = true := by simp [Region.wanted, hgd]
  rw [if_pos hw]
  exact op_appG s x ho B ad n cap ys hs hn hown ax m c zs hx hz hmax hB hK
theorem own_lit2 (w : World) (y z : Int) : Own w.heap.size (w.alloc (.cells #[.int .i64 y, .int .i64 z] 2)) (some ⟨w.heap.size, 0, none⟩) 2 [y, z] :=
  World.ownsRow_lit w (base := w.heap.size) (e := 2) (size := 1) #[.int .i64 y, .int .i64 z] 2 (Nat.le_refl _) (by decide) rfl
end Go.Proofs.Ytpoabedlcljibaa
/- Contracts: newDeskFor and NewDesk of the program, l11For, l11New and NewDesk of the model. -/
namespace Go.Proofs.Ytpoabedlcljibaa
open Go.RowKit
set_option linter.unusedVariables false
set_option linter.unusedSimpArgs false

/-- Whether the new desk is told for p, as a code. -/
def ndC (p : Int) : Int := if primeB p = true then 0 else 2
def ndP (p : Int) : Int := if primeB p = true then p else 0
def ndM (p : Int) : List Int := if primeB p = true then nmL p 3 8 else []
def ndA (p : Int) : List Int := if primeB p = true then tab 4 (njF p 3) else []
def ndB (p : Int) : List Int := if primeB p = true then tab 4 (njG p 3) else []
def ndF (p : Int) : List Int := if primeB p = true then [0, 1] else []
theorem nd_no {p : Int} (h : primeB p = false) : ndC p = 2 ∧ ndP p = 0 ∧ ndM p = [] ∧ ndA p = [] ∧ ndB p = [] ∧ ndF p = [] := by simp [ndC, ndP, ndM, ndA, ndB, ndF, h]
theorem nd_yes {p : Int} (h : primeB p = true) : ndC p = 0 ∧ ndP p = p ∧ ndM p = nmL p 3 8 ∧ ndA p = tab 4 (njF p 3) ∧ ndB p = tab 4 (njG p 3) ∧ ndF p = [0, 1] := by simp [ndC, ndP, ndM, ndA, ndB, ndF, h]
theorem njOk_cat {p : Int} (hp : 2 ≤ p) : ∀ n, njOk p 3 n = true := by
  intro n
  induction n with
  | zero => rfl
  | succ n ih =>
    have e1 : (1 : Int) % p = 1 := Int.emod_eq_of_lt (by omega) (by omega)
    have hb : faB 3 n = 1 := by unfold faB; by_cases h : n = 0 <;> simp [h]
    have hd : faD 3 n = 1 := by unfold faD; by_cases h : n = 0 <;> simp [h]
    simp only [njOk]
    rw [hb, hd, e1]
    simp [ih]
theorem cat_nm (p : Int) : nmC mn3 p 8 = ndC p ∧ nmP mn3 p 8 = ndP p ∧ nmV mn3 p 8 = ndM p := by
  have hi : mnI mn3 = 3 := mnI_mn.2.2.2.1
  cases h : primeB p
  · have hc : nmC mn3 p 8 = 2 := by unfold nmC; rw [if_neg (by simp [h])]
    obtain ⟨e1, e2⟩ := nm_err hc (by decide)
    obtain ⟨k1, k2, k3, _⟩ := nd_no h
    exact ⟨by rw [hc, k1], by rw [e1, k2], by rw [e2, k3]⟩
  · have hc : nmC mn3 p 8 = 0 := by
      unfold nmC; rw [if_pos ⟨h, by decide, by decide⟩, hi]
      unfold nlC; rw [if_neg (by decide), if_neg (by simp)]
    obtain ⟨k1, k2, k3, _⟩ := nd_yes h
    refine ⟨by rw [hc, k1], ?_, ?_⟩
    · unfold nmP; rw [if_pos hc, k2]
    · unfold nmV; rw [if_pos hc, k3, hi]; rfl
theorem cat_nj (p : Int) : njC mn3 p 4 = ndC p ∧ njP mn3 p 4 = ndP p ∧ njV mn3 p 4 = ndA p ∧ njU mn3 p 4 = ndB p := by
  have e : mn3 = nm3 := rfl
  have hi : famI mn3 = 3 := by rw [e]; exact famI_nm.2.2.2.1
  cases h : primeB p
  · have hc : njC mn3 p 4 = 2 := by unfold njC; rw [if_neg (by simp [h])]
    obtain ⟨e1, e2, e3⟩ := nj_err hc (by decide)
    obtain ⟨k1, k2, _, k4, k5, _⟩ := nd_no h
    exact ⟨by rw [hc, k1], by rw [e1, k2], by rw [e2, k4], by rw [e3, k5]⟩
  · obtain ⟨hp, _⟩ := primeB_lo h
    have hc : njC mn3 p 4 = 0 := by
      unfold njC; rw [if_pos ⟨h, by decide, by decide⟩, hi, if_neg (by decide)]
      unfold bgC; rw [njOk_cat hp]; rfl
    obtain ⟨k1, k2, _, k4, k5, _⟩ := nd_yes h
    refine ⟨by rw [hc, k1], ?_, ?_, ?_⟩
    · unfold njP; rw [if_pos hc, k2]
    · unfold njV; rw [if_pos hc, k4, hi]; rfl
    · unfold njU; rw [if_pos hc, k5, hi]; rfl
theorem nd_len (p : Int) : (ndM p).length ≤ 8 ∧ (ndA p).length ≤ 4 ∧ (ndB p).length ≤ 4 ∧ (ndF p).length ≤ 2 := by
  cases h : primeB p
  · obtain ⟨_, _, k3, k4, k5, k6⟩ := nd_no h
    rw [k3, k4, k5, k6]; simp
  · obtain ⟨_, _, k3, k4, k5, k6⟩ := nd_yes h
    rw [k3, k4, k5, k6, nmL_len, tab_len, tab_len]; simp
/-- The result of a call: a desk and a code. -/
def ResD (w : World) (p : Int) (v : List Int) (q : Int) (v2 v3 v4 : List Int) (C : Int) (e : Ending) (w' : World) : Prop :=
  ∃ a c b d b2 d2 f g, e = .returned (.tuple #[dsk p a v.length c q b v2.length d b2 v3.length d2 f v4.length g, .int .i64 C]) ∧ DZ w.heap.size w'.heap.size w' a v.length c v b v2.length d v2 b2 v3.length d2 v3 f v4.length g v4 ∧ (v.length ≤ 100000 ∧ v2.length ≤ 100000 ∧ v3.length ≤ 100000 ∧ v4.length ≤ 100000) ∧ Below w.heap.size w w'
/-- The result of a call: a desk. -/
def ResD1 (w : World) (p : Int) (v : List Int) (q : Int) (v2 v3 v4 : List Int) (e : Ending) (w' : World) : Prop :=
  ∃ a c b d b2 d2 f g, e = .returned (dsk p a v.length c q b v2.length d b2 v3.length d2 f v4.length g) ∧ DZ w.heap.size w'.heap.size w' a v.length c v b v2.length d v2 b2 v3.length d2 v3 f v4.length g v4 ∧ (v.length ≤ 100000 ∧ v2.length ≤ 100000 ∧ v3.length ≤ 100000 ∧ v4.length ≤ 100000) ∧ Below w.heap.size w w'
theorem DZ.nil (lo : Nat) {hi : Nat} (w : World) (h : lo ≤ hi) : DZ lo hi w none 0 0 [] none 0 0 [] none 0 0 [] none 0 0 [] :=
  ⟨lo, lo, lo, lo, lo, lo, by omega, by omega, by omega, by omega, by omega, by omega, ⟨SL.nil _, .inl rfl⟩, ⟨⟨SL.nil _, .inl rfl⟩, ⟨SL.nil _, .inl rfl⟩, .inl rfl⟩, ⟨SL.nil _, .inl rfl⟩⟩
theorem ResD.nil {w w' : World} {p q C : Int} {v v2 v3 v4 : List Int} {C' : Int} (hp : p = 0) (hq : q = 0) (h1 : v = []) (h2 : v2 = []) (h3 : v3 = []) (h4 : v4 = []) (hc : C = C') (hb : Below w.heap.size w w') :
    ResD w p v q v2 v3 v4 C (.returned (.tuple #[dsk 0 none 0 0 0 none 0 0 none 0 0 none 0 0, .int .i64 C'])) w' := by
  subst hp; subst hq; subst h1; subst h2; subst h3; subst h4; subst hc
  exact ⟨none, 0, none, 0, none, 0, none, 0, rfl, DZ.nil _ _ hb.size, by simp, hb⟩

set_option maxRecDepth 100000 in
set_option maxHeartbeats 3200000 in
theorem newDeskFor_any (p : Int) (w : World) : Calls Try.prog 15 #[.int .i64 p] w (ResD w (ndP p) (ndM p) (ndP p) (ndA p) (ndB p) (ndF p) (ndC p)) := by
  obtain ⟨c1, c2, c3⟩ := cat_nm p
  obtain ⟨j1, j2, j3, j4⟩ := cat_nj p
  obtain ⟨n1, n2, n3, n4⟩ := nd_len p
  replace c1 := hide c1
  replace c2 := hide c2
  replace c3 := hide c3
  replace j1 := hide j1
  replace j2 := hide j2
  replace j3 := hide j3
  replace j4 := hide j4
  have hb0 := bl1 w (.cells #[.int .i64 0, .slice none 0 0, .int .i64 0, .slice none 0 0, .slice none 0 0, .slice none 0 0] 28)
  have Q1 : ∀ v : World, Calls Try.prog 38 #[.string mn3, .int .i64 p, .int .i64 8] v (ResM v (ndP p) (ndM p) (ndC p)) := fun v => by have h := implNamedMoments mn3 p 8 v (by decide); rw [c1.out, c2.out, c3.out] at h; exact h
  have Q2 : ∀ v : World, Calls Try.prog 39 #[.string mn3, .int .i64 p, .int .i64 4] v (ResJ v (ndP p) (ndA p) (ndB p) (ndC p)) := fun v => by have h := implNamedJacobi mn3 p 4 v (by decide); rw [j1.out, j2.out, j3.out, j4.out] at h; exact h
  clear c1 c2 c3 j1 j2 j3 j4
  cases hp : primeB p
  · obtain ⟨k1, k2, k3, k4, k5, k6⟩ := nd_no hp
    replace k1 := hide k1
    replace k2 := hide k2
    replace k3 := hide k3
    replace k4 := hide k4
    replace k5 := hide k5
    replace k6 := hide k6
    clear hp
    rw [k1.out] at Q1 Q2
    go_enter Try.func15, Try.ntmps15
    go_wp2_with fail
    refine (Q1 _).mono ?_
    rintro e w1 ⟨a, c, rfl, o1, l1, hb1⟩
    have r0 : w1.cell? ⟨w.heap.size, 0, none⟩ = some (.int .i64 0) := cell_be hb1 (by simp [go_sem])
    have y0 : w1.frozen? ⟨w.heap.size, 0, none⟩ = false := (hb1.frozen (by simp)).trans (by simp [go_sem])
    have r1 : w1.cell? ⟨w.heap.size, 1, none⟩ = some (.slice none 0 0) := cell_be hb1 (by simp [go_sem])
    have y1 : w1.frozen? ⟨w.heap.size, 1, none⟩ = false := (hb1.frozen (by simp)).trans (by simp [go_sem])
    have r2 : w1.cell? ⟨w.heap.size, 2, none⟩ = some (.int .i64 0) := cell_be hb1 (by simp [go_sem])
    have y2 : w1.frozen? ⟨w.heap.size, 2, none⟩ = false := (hb1.frozen (by simp)).trans (by simp [go_sem])
    have r3 : w1.cell? ⟨w.heap.size, 3, none⟩ = some (.slice none 0 0) := cell_be hb1 (by simp [go_sem])
    have y3 : w1.frozen? ⟨w.heap.size, 3, none⟩ = false := (hb1.frozen (by simp)).trans (by simp [go_sem])
    have r4 : w1.cell? ⟨w.heap.size, 4, none⟩ = some (.slice none 0 0) := cell_be hb1 (by simp [go_sem])
    have y4 : w1.frozen? ⟨w.heap.size, 4, none⟩ = false := (hb1.frozen (by simp)).trans (by simp [go_sem])
    have r5 : w1.cell? ⟨w.heap.size, 5, none⟩ = some (.slice none 0 0) := cell_be hb1 (by simp [go_sem])
    have y5 : w1.frozen? ⟨w.heap.size, 5, none⟩ = false := (hb1.frozen (by simp)).trans (by simp [go_sem])
    have hB1 := bnext hb0 hb1
    have z1 : w.heap.size + 1 ≤ w1.heap.size := by have := hb1.size; simp at this; omega
    clear hb1
    replace y0 := frz_al r0 y0 (.cells #[.int .i64 (ndP p), .slice a (ndM p).length c] 24)
    replace r0 := cell_al r0 (.cells #[.int .i64 (ndP p), .slice a (ndM p).length c] 24)
    replace y1 := frz_al r1 y1 (.cells #[.int .i64 (ndP p), .slice a (ndM p).length c] 24)
    replace r1 := cell_al r1 (.cells #[.int .i64 (ndP p), .slice a (ndM p).length c] 24)
    replace y2 := frz_al r2 y2 (.cells #[.int .i64 (ndP p), .slice a (ndM p).length c] 24)
    replace r2 := cell_al r2 (.cells #[.int .i64 (ndP p), .slice a (ndM p).length c] 24)
    replace y3 := frz_al r3 y3 (.cells #[.int .i64 (ndP p), .slice a (ndM p).length c] 24)
    replace r3 := cell_al r3 (.cells #[.int .i64 (ndP p), .slice a (ndM p).length c] 24)
    replace y4 := frz_al r4 y4 (.cells #[.int .i64 (ndP p), .slice a (ndM p).length c] 24)
    replace r4 := cell_al r4 (.cells #[.int .i64 (ndP p), .slice a (ndM p).length c] 24)
    replace y5 := frz_al r5 y5 (.cells #[.int .i64 (ndP p), .slice a (ndM p).length c] 24)
    replace r5 := cell_al r5 (.cells #[.int .i64 (ndP p), .slice a (ndM p).length c] 24)
    go_wp2
    refine bodyPost_ret (v := .tuple #[dsk 0 none 0 0 0 none 0 0 none 0 0 none 0 0, .int .i64 2]) (by simp [results, Try.results15, go_sem, r0, r1, r2, r3, r4, r5]) rfl ?_
    exact ResD.nil k2.out k2.out k3.out k4.out k5.out k6.out k1.out (((((((hB1.alloc (by omega) (.cells #[.int .i64 (ndP p), .slice a (ndM p).length c] 24)).setCell (by simp <;> omega) _).setCell (by simp <;> omega) _).setCell (by simp <;> omega) _).setCell (by simp <;> omega) _).setCell (by simp <;> omega) _).setCell (by simp <;> omega) _)
  · obtain ⟨k1, k2, k3, k4, k5, k6⟩ := nd_yes hp
    replace k1 := hide k1
    replace k2 := hide k2
    replace k3 := hide k3
    replace k4 := hide k4
    replace k5 := hide k5
    replace k6 := hide k6
    clear hp
    rw [k1.out] at Q1 Q2
    go_enter Try.func15, Try.ntmps15
    go_wp2_with fail
    refine (Q1 _).mono ?_
    rintro e w1 ⟨a, c, rfl, o1, l1, hb1⟩
    have r0 : w1.cell? ⟨w.heap.size, 0, none⟩ = some (.int .i64 0) := cell_be hb1 (by simp [go_sem])
    have y0 : w1.frozen? ⟨w.heap.size, 0, none⟩ = false := (hb1.frozen (by simp)).trans (by simp [go_sem])
    have r1 : w1.cell? ⟨w.heap.size, 1, none⟩ = some (.slice none 0 0) := cell_be hb1 (by simp [go_sem])
    have y1 : w1.frozen? ⟨w.heap.size, 1, none⟩ = false := (hb1.frozen (by simp)).trans (by simp [go_sem])
    have r2 : w1.cell? ⟨w.heap.size, 2, none⟩ = some (.int .i64 0) := cell_be hb1 (by simp [go_sem])
    have y2 : w1.frozen? ⟨w.heap.size, 2, none⟩ = false := (hb1.frozen (by simp)).trans (by simp [go_sem])
    have r3 : w1.cell? ⟨w.heap.size, 3, none⟩ = some (.slice none 0 0) := cell_be hb1 (by simp [go_sem])
    have y3 : w1.frozen? ⟨w.heap.size, 3, none⟩ = false := (hb1.frozen (by simp)).trans (by simp [go_sem])
    have r4 : w1.cell? ⟨w.heap.size, 4, none⟩ = some (.slice none 0 0) := cell_be hb1 (by simp [go_sem])
    have y4 : w1.frozen? ⟨w.heap.size, 4, none⟩ = false := (hb1.frozen (by simp)).trans (by simp [go_sem])
    have r5 : w1.cell? ⟨w.heap.size, 5, none⟩ = some (.slice none 0 0) := cell_be hb1 (by simp [go_sem])
    have y5 : w1.frozen? ⟨w.heap.size, 5, none⟩ = false := (hb1.frozen (by simp)).trans (by simp [go_sem])
    have hB1 := bnext hb0 hb1
    have z1 : w.heap.size + 1 ≤ w1.heap.size := by have := hb1.size; simp at this; omega
    clear hb1
    replace y0 := frz_al r0 y0 (.cells #[.int .i64 (ndP p), .slice a (ndM p).length c] 24)
    replace r0 := cell_al r0 (.cells #[.int .i64 (ndP p), .slice a (ndM p).length c] 24)
    replace y1 := frz_al r1 y1 (.cells #[.int .i64 (ndP p), .slice a (ndM p).length c] 24)
    replace r1 := cell_al r1 (.cells #[.int .i64 (ndP p), .slice a (ndM p).length c] 24)
    replace y2 := frz_al r2 y2 (.cells #[.int .i64 (ndP p), .slice a (ndM p).length c] 24)
    replace r2 := cell_al r2 (.cells #[.int .i64 (ndP p), .slice a (ndM p).length c] 24)
    replace y3 := frz_al r3 y3 (.cells #[.int .i64 (ndP p), .slice a (ndM p).length c] 24)
    replace r3 := cell_al r3 (.cells #[.int .i64 (ndP p), .slice a (ndM p).length c] 24)
    replace y4 := frz_al r4 y4 (.cells #[.int .i64 (ndP p), .slice a (ndM p).length c] 24)
    replace r4 := cell_al r4 (.cells #[.int .i64 (ndP p), .slice a (ndM p).length c] 24)
    replace y5 := frz_al r5 y5 (.cells #[.int .i64 (ndP p), .slice a (ndM p).length c] 24)
    replace r5 := cell_al r5 (.cells #[.int .i64 (ndP p), .slice a (ndM p).length c] 24)
    have pa := bl1 w1 (.cells #[.int .i64 (ndP p), .slice a (ndM p).length c] 24)
    replace o1 := o1.below pa
    have B1 := hB1.trans (pa.mono (by omega))
    go_wp2_with fail
    refine (Q2 _).mono ?_
    rintro e w2 ⟨b, d, b2, d2, rfl, o2, ⟨l2, l3⟩, hb2⟩
    replace y0 : w2.frozen? ⟨w.heap.size, 0, none⟩ = false := (hb2.frozen (by simp <;> omega)).trans y0
    replace r0 : w2.cell? ⟨w.heap.size, 0, none⟩ = some (.int .i64 0) := cell_be hb2 r0
    replace y1 : w2.frozen? ⟨w.heap.size, 1, none⟩ = false := (hb2.frozen (by simp <;> omega)).trans y1
    replace r1 : w2.cell? ⟨w.heap.size, 1, none⟩ = some (.slice none 0 0) := cell_be hb2 r1
    replace y2 : w2.frozen? ⟨w.heap.size, 2, none⟩ = false := (hb2.frozen (by simp <;> omega)).trans y2
    replace r2 : w2.cell? ⟨w.heap.size, 2, none⟩ = some (.int .i64 0) := cell_be hb2 r2
    replace y3 : w2.frozen? ⟨w.heap.size, 3, none⟩ = false := (hb2.frozen (by simp <;> omega)).trans y3
    replace r3 : w2.cell? ⟨w.heap.size, 3, none⟩ = some (.slice none 0 0) := cell_be hb2 r3
    replace y4 : w2.frozen? ⟨w.heap.size, 4, none⟩ = false := (hb2.frozen (by simp <;> omega)).trans y4
    replace r4 : w2.cell? ⟨w.heap.size, 4, none⟩ = some (.slice none 0 0) := cell_be hb2 r4
    replace y5 : w2.frozen? ⟨w.heap.size, 5, none⟩ = false := (hb2.frozen (by simp <;> omega)).trans y5
    replace r5 : w2.cell? ⟨w.heap.size, 5, none⟩ = some (.slice none 0 0) := cell_be hb2 r5
    have m0 : w2.cell? ⟨w1.heap.size, 0, none⟩ = some (.int .i64 (ndP p)) := cell_be hb2 (by simp [go_sem])
    have m1 : w2.cell? ⟨w1.heap.size, 1, none⟩ = some (.slice a (ndM p).length c) := cell_be hb2 (by simp [go_sem])
    have hB2 := B1.trans (hb2.mono (by simp <;> omega))
    have z2 : w1.heap.size + 1 ≤ w2.heap.size := by have := hb2.size; simp at this; omega
    replace o1 := o1.below hb2
    clear hb2
    replace y0 := frz_al r0 y0 (.cells #[.int .i64 (ndP p), .slice b (ndA p).length d, .slice b2 (ndB p).length d2] 26)
    replace r0 := cell_al r0 (.cells #[.int .i64 (ndP p), .slice b (ndA p).length d, .slice b2 (ndB p).length d2] 26)
    replace y1 := frz_al r1 y1 (.cells #[.int .i64 (ndP p), .slice b (ndA p).length d, .slice b2 (ndB p).length d2] 26)
    replace r1 := cell_al r1 (.cells #[.int .i64 (ndP p), .slice b (ndA p).length d, .slice b2 (ndB p).length d2] 26)
    replace y2 := frz_al r2 y2 (.cells #[.int .i64 (ndP p), .slice b (ndA p).length d, .slice b2 (ndB p).length d2] 26)
    replace r2 := cell_al r2 (.cells #[.int .i64 (ndP p), .slice b (ndA p).length d, .slice b2 (ndB p).length d2] 26)
    replace y3 := frz_al r3 y3 (.cells #[.int .i64 (ndP p), .slice b (ndA p).length d, .slice b2 (ndB p).length d2] 26)
    replace r3 := cell_al r3 (.cells #[.int .i64 (ndP p), .slice b (ndA p).length d, .slice b2 (ndB p).length d2] 26)
    replace y4 := frz_al r4 y4 (.cells #[.int .i64 (ndP p), .slice b (ndA p).length d, .slice b2 (ndB p).length d2] 26)
    replace r4 := cell_al r4 (.cells #[.int .i64 (ndP p), .slice b (ndA p).length d, .slice b2 (ndB p).length d2] 26)
    replace y5 := frz_al r5 y5 (.cells #[.int .i64 (ndP p), .slice b (ndA p).length d, .slice b2 (ndB p).length d2] 26)
    replace r5 := cell_al r5 (.cells #[.int .i64 (ndP p), .slice b (ndA p).length d, .slice b2 (ndB p).length d2] 26)
    have pb := (bl1 w2 (.cells #[.int .i64 (ndP p), .slice b (ndA p).length d, .slice b2 (ndB p).length d2] 26))
    have pc := own_lit2 (w2.alloc (.cells #[.int .i64 (ndP p), .slice b (ndA p).length d, .slice b2 (ndB p).length d2] 26)) 0 1
    have pd := bnext pb (bl1 _ (.cells #[.int .i64 0, .int .i64 1] 2))
    simp only [World.size_alloc] at pc
    have o3 := OZ.of pc rfl
    simp at o3
    replace o1 := o1.below pd
    replace o2 := o2.below pd
    have fa := hB2.trans (pd.mono (by omega))
    clear pb pc pd
    replace y0 := frz_al r0 y0 (.cells #[.int .i64 0, .int .i64 1] 2)
    replace r0 := cell_al r0 (.cells #[.int .i64 0, .int .i64 1] 2)
    replace y1 := frz_al r1 y1 (.cells #[.int .i64 0, .int .i64 1] 2)
    replace r1 := cell_al r1 (.cells #[.int .i64 0, .int .i64 1] 2)
    replace y2 := frz_al r2 y2 (.cells #[.int .i64 0, .int .i64 1] 2)
    replace r2 := cell_al r2 (.cells #[.int .i64 0, .int .i64 1] 2)
    replace y3 := frz_al r3 y3 (.cells #[.int .i64 0, .int .i64 1] 2)
    replace r3 := cell_al r3 (.cells #[.int .i64 0, .int .i64 1] 2)
    replace y4 := frz_al r4 y4 (.cells #[.int .i64 0, .int .i64 1] 2)
    replace r4 := cell_al r4 (.cells #[.int .i64 0, .int .i64 1] 2)
    replace y5 := frz_al r5 y5 (.cells #[.int .i64 0, .int .i64 1] 2)
    replace r5 := cell_al r5 (.cells #[.int .i64 0, .int .i64 1] 2)
    replace m0 := cell_al m0 (.cells #[.int .i64 (ndP p), .slice b (ndA p).length d, .slice b2 (ndB p).length d2] 26)
    replace m1 := cell_al m1 (.cells #[.int .i64 (ndP p), .slice b (ndA p).length d, .slice b2 (ndB p).length d2] 26)
    go_wp2
    refine bodyPost_ret (v := .tuple #[dsk (ndP p) a (ndM p).length c (ndP p) b (ndA p).length d b2 (ndB p).length d2 (some ⟨w2.heap.size + 1, 0, none⟩) 2 2, .int .i64 0]) (by simp [results, Try.results15, go_sem, r0, r1, r2, r3, r4, r5]) rfl ?_
    have q1 := ((((((o1.setLow (x := ⟨w.heap.size, 0, none⟩) (by simp <;> omega) (.int .i64 (ndP p))).setLow (x := ⟨w.heap.size, 1, none⟩) (by simp <;> omega) (.slice a (ndM p).length c)).setLow (x := ⟨w.heap.size, 2, none⟩) (by simp <;> omega) (.int .i64 (ndP p))).setLow (x := ⟨w.heap.size, 3, none⟩) (by simp <;> omega) (.slice b (ndA p).length d)).setLow (x := ⟨w.heap.size, 4, none⟩) (by simp <;> omega) (.slice b2 (ndB p).length d2)).setLow (x := ⟨w.heap.size, 5, none⟩) (by simp <;> omega) (.slice (some ⟨w2.heap.size + 1, 0, none⟩) 2 2))
    have q2 := ((((((o2.setLow (x := ⟨w.heap.size, 0, none⟩) (by simp <;> omega) (.int .i64 (ndP p))).setLow (x := ⟨w.heap.size, 1, none⟩) (by simp <;> omega) (.slice a (ndM p).length c)).setLow (x := ⟨w.heap.size, 2, none⟩) (by simp <;> omega) (.int .i64 (ndP p))).setLow (x := ⟨w.heap.size, 3, none⟩) (by simp <;> omega) (.slice b (ndA p).length d)).setLow (x := ⟨w.heap.size, 4, none⟩) (by simp <;> omega) (.slice b2 (ndB p).length d2)).setLow (x := ⟨w.heap.size, 5, none⟩) (by simp <;> omega) (.slice (some ⟨w2.heap.size + 1, 0, none⟩) 2 2))
    have q3 := ((((((o3.setLow (x := ⟨w.heap.size, 0, none⟩) (by simp <;> omega) (.int .i64 (ndP p))).setLow (x := ⟨w.heap.size, 1, none⟩) (by simp <;> omega) (.slice a (ndM p).length c)).setLow (x := ⟨w.heap.size, 2, none⟩) (by simp <;> omega) (.int .i64 (ndP p))).setLow (x := ⟨w.heap.size, 3, none⟩) (by simp <;> omega) (.slice b (ndA p).length d)).setLow (x := ⟨w.heap.size, 4, none⟩) (by simp <;> omega) (.slice b2 (ndB p).length d2)).setLow (x := ⟨w.heap.size, 5, none⟩) (by simp <;> omega) (.slice (some ⟨w2.heap.size + 1, 0, none⟩) 2 2))
    rw [k1.out, k6.out]
    refine ⟨a, c, b, d, b2, d2, (some ⟨w2.heap.size + 1, 0, none⟩), 2, rfl, ⟨_, _, _, _, _, _, ?_, ?_, ?_, ?_, ?_, ?_, q1, q2, q3⟩, ?_, ((((((fa.setCell (by simp <;> omega) _).setCell (by simp <;> omega) _).setCell (by simp <;> omega) _).setCell (by simp <;> omega) _).setCell (by simp <;> omega) _).setCell (by simp <;> omega) _)⟩
    all_goals (try simp)
    all_goals omega
set_option maxRecDepth 100000 in
set_option maxHeartbeats 3200000 in
theorem l11For_any (p : Int) (w : World) : Calls Try.prog 37 #[.int .i64 p] w (ResD w (ndP p) (ndM p) (ndP p) (ndA p) (ndB p) (ndF p) (ndC p)) := by
  obtain ⟨c1, c2, c3⟩ := cat_nm p
  obtain ⟨j1, j2, j3, j4⟩ := cat_nj p
  obtain ⟨n1, n2, n3, n4⟩ := nd_len p
  replace c1 := hide c1
  replace c2 := hide c2
  replace c3 := hide c3
  replace j1 := hide j1
  replace j2 := hide j2
  replace j3 := hide j3
  replace j4 := hide j4
  have hb0 := bl1 w (.cells #[.int .i64 0, .slice none 0 0, .int .i64 0, .slice none 0 0, .slice none 0 0, .slice none 0 0] 28)
  have Q1 : ∀ v : World, Calls Try.prog 48 #[.string mn3, .int .i64 p, .int .i64 8] v (ResM v (ndP p) (ndM p) (ndC p)) := fun v => by have h := specNamedMoments mn3 p 8 v (by decide); rw [c1.out, c2.out, c3.out] at h; exact h
  have Q2 : ∀ v : World, Calls Try.prog 49 #[.string mn3, .int .i64 p, .int .i64 4] v (ResJ v (ndP p) (ndA p) (ndB p) (ndC p)) := fun v => by have h := specNamedJacobi mn3 p 4 v (by decide); rw [j1.out, j2.out, j3.out, j4.out] at h; exact h
  clear c1 c2 c3 j1 j2 j3 j4
  cases hp : primeB p
  · obtain ⟨k1, k2, k3, k4, k5, k6⟩ := nd_no hp
    replace k1 := hide k1
    replace k2 := hide k2
    replace k3 := hide k3
    replace k4 := hide k4
    replace k5 := hide k5
    replace k6 := hide k6
    clear hp
    rw [k1.out] at Q1 Q2
    go_enter Try.func37, Try.ntmps37
    go_wp2_with fail
    refine (Q1 _).mono ?_
    rintro e w1 ⟨a, c, rfl, o1, l1, hb1⟩
    have r0 : w1.cell? ⟨w.heap.size, 0, none⟩ = some (.int .i64 0) := cell_be hb1 (by simp [go_sem])
    have y0 : w1.frozen? ⟨w.heap.size, 0, none⟩ = false := (hb1.frozen (by simp)).trans (by simp [go_sem])
    have r1 : w1.cell? ⟨w.heap.size, 1, none⟩ = some (.slice none 0 0) := cell_be hb1 (by simp [go_sem])
    have y1 : w1.frozen? ⟨w.heap.size, 1, none⟩ = false := (hb1.frozen (by simp)).trans (by simp [go_sem])
    have r2 : w1.cell? ⟨w.heap.size, 2, none⟩ = some (.int .i64 0) := cell_be hb1 (by simp [go_sem])
    have y2 : w1.frozen? ⟨w.heap.size, 2, none⟩ = false := (hb1.frozen (by simp)).trans (by simp [go_sem])
    have r3 : w1.cell? ⟨w.heap.size, 3, none⟩ = some (.slice none 0 0) := cell_be hb1 (by simp [go_sem])
    have y3 : w1.frozen? ⟨w.heap.size, 3, none⟩ = false := (hb1.frozen (by simp)).trans (by simp [go_sem])
    have r4 : w1.cell? ⟨w.heap.size, 4, none⟩ = some (.slice none 0 0) := cell_be hb1 (by simp [go_sem])
    have y4 : w1.frozen? ⟨w.heap.size, 4, none⟩ = false := (hb1.frozen (by simp)).trans (by simp [go_sem])
    have r5 : w1.cell? ⟨w.heap.size, 5, none⟩ = some (.slice none 0 0) := cell_be hb1 (by simp [go_sem])
    have y5 : w1.frozen? ⟨w.heap.size, 5, none⟩ = false := (hb1.frozen (by simp)).trans (by simp [go_sem])
    have hB1 := bnext hb0 hb1
    have z1 : w.heap.size + 1 ≤ w1.heap.size := by have := hb1.size; simp at this; omega
    clear hb1
    replace y0 := frz_al r0 y0 (.cells #[.int .i64 (ndP p), .slice a (ndM p).length c] 24)
    replace r0 := cell_al r0 (.cells #[.int .i64 (ndP p), .slice a (ndM p).length c] 24)
    replace y1 := frz_al r1 y1 (.cells #[.int .i64 (ndP p), .slice a (ndM p).length c] 24)
    replace r1 := cell_al r1 (.cells #[.int .i64 (ndP p), .slice a (ndM p).length c] 24)
    replace y2 := frz_al r2 y2 (.cells #[.int .i64 (ndP p), .slice a (ndM p).length c] 24)
    replace r2 := cell_al r2 (.cells #[.int .i64 (ndP p), .slice a (ndM p).length c] 24)
    replace y3 := frz_al r3 y3 (.cells #[.int .i64 (ndP p), .slice a (ndM p).length c] 24)
    replace r3 := cell_al r3 (.cells #[.int .i64 (ndP p), .slice a (ndM p).length c] 24)
    replace y4 := frz_al r4 y4 (.cells #[.int .i64 (ndP p), .slice a (ndM p).length c] 24)
    replace r4 := cell_al r4 (.cells #[.int .i64 (ndP p), .slice a (ndM p).length c] 24)
    replace y5 := frz_al r5 y5 (.cells #[.int .i64 (ndP p), .slice a (ndM p).length c] 24)
    replace r5 := cell_al r5 (.cells #[.int .i64 (ndP p), .slice a (ndM p).length c] 24)
    have pa := bl1 w1 (.cells #[.int .i64 (ndP p), .slice a (ndM p).length c] 24)
    replace o1 := o1.below pa
    have B1 := hB1.trans (pa.mono (by omega))
    go_wp2_with fail
    refine (Q2 _).mono ?_
    rintro e w2 ⟨b, d, b2, d2, rfl, o2, ⟨l2, l3⟩, hb2⟩
    replace y0 : w2.frozen? ⟨w.heap.size, 0, none⟩ = false := (hb2.frozen (by simp <;> omega)).trans y0
    replace r0 : w2.cell? ⟨w.heap.size, 0, none⟩ = some (.int .i64 0) := cell_be hb2 r0
    replace y1 : w2.frozen? ⟨w.heap.size, 1, none⟩ = false := (hb2.frozen (by simp <;> omega)).trans y1
    replace r1 : w2.cell? ⟨w.heap.size, 1, none⟩ = some (.slice none 0 0) := cell_be hb2 r1
    replace y2 : w2.frozen? ⟨w.heap.size, 2, none⟩ = false := (hb2.frozen (by simp <;> omega)).trans y2
    replace r2 : w2.cell? ⟨w.heap.size, 2, none⟩ = some (.int .i64 0) := cell_be hb2 r2
    replace y3 : w2.frozen? ⟨w.heap.size, 3, none⟩ = false := (hb2.frozen (by simp <;> omega)).trans y3
    replace r3 : w2.cell? ⟨w.heap.size, 3, none⟩ = some (.slice none 0 0) := cell_be hb2 r3
    replace y4 : w2.frozen? ⟨w.heap.size, 4, none⟩ = false := (hb2.frozen (by simp <;> omega)).trans y4
    replace r4 : w2.cell? ⟨w.heap.size, 4, none⟩ = some (.slice none 0 0) := cell_be hb2 r4
    replace y5 : w2.frozen? ⟨w.heap.size, 5, none⟩ = false := (hb2.frozen (by simp <;> omega)).trans y5
    replace r5 : w2.cell? ⟨w.heap.size, 5, none⟩ = some (.slice none 0 0) := cell_be hb2 r5
    have m0 : w2.cell? ⟨w1.heap.size, 0, none⟩ = some (.int .i64 (ndP p)) := cell_be hb2 (by simp [go_sem])
    have m1 : w2.cell? ⟨w1.heap.size, 1, none⟩ = some (.slice a (ndM p).length c) := cell_be hb2 (by simp [go_sem])
    have hB2 := B1.trans (hb2.mono (by simp <;> omega))
    have z2 : w1.heap.size + 1 ≤ w2.heap.size := by have := hb2.size; simp at this; omega
    replace o1 := o1.below hb2
    clear hb2
    replace y0 := frz_al r0 y0 (.cells #[.int .i64 (ndP p), .slice b (ndA p).length d, .slice b2 (ndB p).length d2] 26)
    replace r0 := cell_al r0 (.cells #[.int .i64 (ndP p), .slice b (ndA p).length d, .slice b2 (ndB p).length d2] 26)
    replace y1 := frz_al r1 y1 (.cells #[.int .i64 (ndP p), .slice b (ndA p).length d, .slice b2 (ndB p).length d2] 26)
    replace r1 := cell_al r1 (.cells #[.int .i64 (ndP p), .slice b (ndA p).length d, .slice b2 (ndB p).length d2] 26)
    replace y2 := frz_al r2 y2 (.cells #[.int .i64 (ndP p), .slice b (ndA p).length d, .slice b2 (ndB p).length d2] 26)
    replace r2 := cell_al r2 (.cells #[.int .i64 (ndP p), .slice b (ndA p).length d, .slice b2 (ndB p).length d2] 26)
    replace y3 := frz_al r3 y3 (.cells #[.int .i64 (ndP p), .slice b (ndA p).length d, .slice b2 (ndB p).length d2] 26)
    replace r3 := cell_al r3 (.cells #[.int .i64 (ndP p), .slice b (ndA p).length d, .slice b2 (ndB p).length d2] 26)
    replace y4 := frz_al r4 y4 (.cells #[.int .i64 (ndP p), .slice b (ndA p).length d, .slice b2 (ndB p).length d2] 26)
    replace r4 := cell_al r4 (.cells #[.int .i64 (ndP p), .slice b (ndA p).length d, .slice b2 (ndB p).length d2] 26)
    replace y5 := frz_al r5 y5 (.cells #[.int .i64 (ndP p), .slice b (ndA p).length d, .slice b2 (ndB p).length d2] 26)
    replace r5 := cell_al r5 (.cells #[.int .i64 (ndP p), .slice b (ndA p).length d, .slice b2 (ndB p).length d2] 26)
    go_wp2
    refine bodyPost_ret (v := .tuple #[dsk 0 none 0 0 0 none 0 0 none 0 0 none 0 0, .int .i64 2]) (by simp [results, Try.results37, go_sem, r0, r1, r2, r3, r4, r5]) rfl ?_
    exact ResD.nil k2.out k2.out k3.out k4.out k5.out k6.out k1.out (((((((hB2.alloc (by omega) (.cells #[.int .i64 (ndP p), .slice b (ndA p).length d, .slice b2 (ndB p).length d2] 26)).setCell (by simp <;> omega) _).setCell (by simp <;> omega) _).setCell (by simp <;> omega) _).setCell (by simp <;> omega) _).setCell (by simp <;> omega) _).setCell (by simp <;> omega) _)
  · obtain ⟨k1, k2, k3, k4, k5, k6⟩ := nd_yes hp
    replace k1 := hide k1
    replace k2 := hide k2
    replace k3 := hide k3
    replace k4 := hide k4
    replace k5 := hide k5
    replace k6 := hide k6
    clear hp
    rw [k1.out] at Q1 Q2
    go_enter Try.func37, Try.ntmps37
    go_wp2_with fail
    refine (Q1 _).mono ?_
    rintro e w1 ⟨a, c, rfl, o1, l1, hb1⟩
    have r0 : w1.cell? ⟨w.heap.size, 0, none⟩ = some (.int .i64 0) := cell_be hb1 (by simp [go_sem])
    have y0 : w1.frozen? ⟨w.heap.size, 0, none⟩ = false := (hb1.frozen (by simp)).trans (by simp [go_sem])
    have r1 : w1.cell? ⟨w.heap.size, 1, none⟩ = some (.slice none 0 0) := cell_be hb1 (by simp [go_sem])
    have y1 : w1.frozen? ⟨w.heap.size, 1, none⟩ = false := (hb1.frozen (by simp)).trans (by simp [go_sem])
    have r2 : w1.cell? ⟨w.heap.size, 2, none⟩ = some (.int .i64 0) := cell_be hb1 (by simp [go_sem])
    have y2 : w1.frozen? ⟨w.heap.size, 2, none⟩ = false := (hb1.frozen (by simp)).trans (by simp [go_sem])
    have r3 : w1.cell? ⟨w.heap.size, 3, none⟩ = some (.slice none 0 0) := cell_be hb1 (by simp [go_sem])
    have y3 : w1.frozen? ⟨w.heap.size, 3, none⟩ = false := (hb1.frozen (by simp)).trans (by simp [go_sem])
    have r4 : w1.cell? ⟨w.heap.size, 4, none⟩ = some (.slice none 0 0) := cell_be hb1 (by simp [go_sem])
    have y4 : w1.frozen? ⟨w.heap.size, 4, none⟩ = false := (hb1.frozen (by simp)).trans (by simp [go_sem])
    have r5 : w1.cell? ⟨w.heap.size, 5, none⟩ = some (.slice none 0 0) := cell_be hb1 (by simp [go_sem])
    have y5 : w1.frozen? ⟨w.heap.size, 5, none⟩ = false := (hb1.frozen (by simp)).trans (by simp [go_sem])
    have hB1 := bnext hb0 hb1
    have z1 : w.heap.size + 1 ≤ w1.heap.size := by have := hb1.size; simp at this; omega
    clear hb1
    replace y0 := frz_al r0 y0 (.cells #[.int .i64 (ndP p), .slice a (ndM p).length c] 24)
    replace r0 := cell_al r0 (.cells #[.int .i64 (ndP p), .slice a (ndM p).length c] 24)
    replace y1 := frz_al r1 y1 (.cells #[.int .i64 (ndP p), .slice a (ndM p).length c] 24)
    replace r1 := cell_al r1 (.cells #[.int .i64 (ndP p), .slice a (ndM p).length c] 24)
    replace y2 := frz_al r2 y2 (.cells #[.int .i64 (ndP p), .slice a (ndM p).length c] 24)
    replace r2 := cell_al r2 (.cells #[.int .i64 (ndP p), .slice a (ndM p).length c] 24)
    replace y3 := frz_al r3 y3 (.cells #[.int .i64 (ndP p), .slice a (ndM p).length c] 24)
    replace r3 := cell_al r3 (.cells #[.int .i64 (ndP p), .slice a (ndM p).length c] 24)
    replace y4 := frz_al r4 y4 (.cells #[.int .i64 (ndP p), .slice a (ndM p).length c] 24)
    replace r4 := cell_al r4 (.cells #[.int .i64 (ndP p), .slice a (ndM p).length c] 24)
    replace y5 := frz_al r5 y5 (.cells #[.int .i64 (ndP p), .slice a (ndM p).length c] 24)
    replace r5 := cell_al r5 (.cells #[.int .i64 (ndP p), .slice a (ndM p).length c] 24)
    have pa := bl1 w1 (.cells #[.int .i64 (ndP p), .slice a (ndM p).length c] 24)
    replace o1 := o1.below pa
    have B1 := hB1.trans (pa.mono (by omega))
    go_wp2_with fail
    refine (Q2 _).mono ?_
    rintro e w2 ⟨b, d, b2, d2, rfl, o2, ⟨l2, l3⟩, hb2⟩
    replace y0 : w2.frozen? ⟨w.heap.size, 0, none⟩ = false := (hb2.frozen (by simp <;> omega)).trans y0
    replace r0 : w2.cell? ⟨w.heap.size, 0, none⟩ = some (.int .i64 0) := cell_be hb2 r0
    replace y1 : w2.frozen? ⟨w.heap.size, 1, none⟩ = false := (hb2.frozen (by simp <;> omega)).trans y1
    replace r1 : w2.cell? ⟨w.heap.size, 1, none⟩ = some (.slice none 0 0) := cell_be hb2 r1
    replace y2 : w2.frozen? ⟨w.heap.size, 2, none⟩ = false := (hb2.frozen (by simp <;> omega)).trans y2
    replace r2 : w2.cell? ⟨w.heap.size, 2, none⟩ = some (.int .i64 0) := cell_be hb2 r2
    replace y3 : w2.frozen? ⟨w.heap.size, 3, none⟩ = false := (hb2.frozen (by simp <;> omega)).trans y3
    replace r3 : w2.cell? ⟨w.heap.size, 3, none⟩ = some (.slice none 0 0) := cell_be hb2 r3
    replace y4 : w2.frozen? ⟨w.heap.size, 4, none⟩ = false := (hb2.frozen (by simp <;> omega)).trans y4
    replace r4 : w2.cell? ⟨w.heap.size, 4, none⟩ = some (.slice none 0 0) := cell_be hb2 r4
    replace y5 : w2.frozen? ⟨w.heap.size, 5, none⟩ = false := (hb2.frozen (by simp <;> omega)).trans y5
    replace r5 : w2.cell? ⟨w.heap.size, 5, none⟩ = some (.slice none 0 0) := cell_be hb2 r5
    have m0 : w2.cell? ⟨w1.heap.size, 0, none⟩ = some (.int .i64 (ndP p)) := cell_be hb2 (by simp [go_sem])
    have m1 : w2.cell? ⟨w1.heap.size, 1, none⟩ = some (.slice a (ndM p).length c) := cell_be hb2 (by simp [go_sem])
    have hB2 := B1.trans (hb2.mono (by simp <;> omega))
    have z2 : w1.heap.size + 1 ≤ w2.heap.size := by have := hb2.size; simp at this; omega
    replace o1 := o1.below hb2
    clear hb2
    replace y0 := frz_al r0 y0 (.cells #[.int .i64 (ndP p), .slice b (ndA p).length d, .slice b2 (ndB p).length d2] 26)
    replace r0 := cell_al r0 (.cells #[.int .i64 (ndP p), .slice b (ndA p).length d, .slice b2 (ndB p).length d2] 26)
    replace y1 := frz_al r1 y1 (.cells #[.int .i64 (ndP p), .slice b (ndA p).length d, .slice b2 (ndB p).length d2] 26)
    replace r1 := cell_al r1 (.cells #[.int .i64 (ndP p), .slice b (ndA p).length d, .slice b2 (ndB p).length d2] 26)
    replace y2 := frz_al r2 y2 (.cells #[.int .i64 (ndP p), .slice b (ndA p).length d, .slice b2 (ndB p).length d2] 26)
    replace r2 := cell_al r2 (.cells #[.int .i64 (ndP p), .slice b (ndA p).length d, .slice b2 (ndB p).length d2] 26)
    replace y3 := frz_al r3 y3 (.cells #[.int .i64 (ndP p), .slice b (ndA p).length d, .slice b2 (ndB p).length d2] 26)
    replace r3 := cell_al r3 (.cells #[.int .i64 (ndP p), .slice b (ndA p).length d, .slice b2 (ndB p).length d2] 26)
    replace y4 := frz_al r4 y4 (.cells #[.int .i64 (ndP p), .slice b (ndA p).length d, .slice b2 (ndB p).length d2] 26)
    replace r4 := cell_al r4 (.cells #[.int .i64 (ndP p), .slice b (ndA p).length d, .slice b2 (ndB p).length d2] 26)
    replace y5 := frz_al r5 y5 (.cells #[.int .i64 (ndP p), .slice b (ndA p).length d, .slice b2 (ndB p).length d2] 26)
    replace r5 := cell_al r5 (.cells #[.int .i64 (ndP p), .slice b (ndA p).length d, .slice b2 (ndB p).length d2] 26)
    have pb := (bl1 w2 (.cells #[.int .i64 (ndP p), .slice b (ndA p).length d, .slice b2 (ndB p).length d2] 26))
    have pc := own_lit2 (w2.alloc (.cells #[.int .i64 (ndP p), .slice b (ndA p).length d, .slice b2 (ndB p).length d2] 26)) 0 1
    have pd := bnext pb (bl1 _ (.cells #[.int .i64 0, .int .i64 1] 2))
    simp only [World.size_alloc] at pc
    have o3 := OZ.of pc rfl
    simp at o3
    replace o1 := o1.below pd
    replace o2 := o2.below pd
    have fa := hB2.trans (pd.mono (by omega))
    clear pb pc pd
    replace y0 := frz_al r0 y0 (.cells #[.int .i64 0, .int .i64 1] 2)
    replace r0 := cell_al r0 (.cells #[.int .i64 0, .int .i64 1] 2)
    replace y1 := frz_al r1 y1 (.cells #[.int .i64 0, .int .i64 1] 2)
    replace r1 := cell_al r1 (.cells #[.int .i64 0, .int .i64 1] 2)
    replace y2 := frz_al r2 y2 (.cells #[.int .i64 0, .int .i64 1] 2)
    replace r2 := cell_al r2 (.cells #[.int .i64 0, .int .i64 1] 2)
    replace y3 := frz_al r3 y3 (.cells #[.int .i64 0, .int .i64 1] 2)
    replace r3 := cell_al r3 (.cells #[.int .i64 0, .int .i64 1] 2)
    replace y4 := frz_al r4 y4 (.cells #[.int .i64 0, .int .i64 1] 2)
    replace r4 := cell_al r4 (.cells #[.int .i64 0, .int .i64 1] 2)
    replace y5 := frz_al r5 y5 (.cells #[.int .i64 0, .int .i64 1] 2)
    replace r5 := cell_al r5 (.cells #[.int .i64 0, .int .i64 1] 2)
    replace m0 := cell_al m0 (.cells #[.int .i64 (ndP p), .slice b (ndA p).length d, .slice b2 (ndB p).length d2] 26)
    replace m1 := cell_al m1 (.cells #[.int .i64 (ndP p), .slice b (ndA p).length d, .slice b2 (ndB p).length d2] 26)
    go_wp2
    refine bodyPost_ret (v := .tuple #[dsk (ndP p) a (ndM p).length c (ndP p) b (ndA p).length d b2 (ndB p).length d2 (some ⟨w2.heap.size + 1, 0, none⟩) 2 2, .int .i64 0]) (by simp [results, Try.results37, go_sem, r0, r1, r2, r3, r4, r5]) rfl ?_
    have q1 := ((((((o1.setLow (x := ⟨w.heap.size, 0, none⟩) (by simp <;> omega) (.int .i64 (ndP p))).setLow (x := ⟨w.heap.size, 1, none⟩) (by simp <;> omega) (.slice a (ndM p).length c)).setLow (x := ⟨w.heap.size, 2, none⟩) (by simp <;> omega) (.int .i64 (ndP p))).setLow (x := ⟨w.heap.size, 3, none⟩) (by simp <;> omega) (.slice b (ndA p).length d)).setLow (x := ⟨w.heap.size, 4, none⟩) (by simp <;> omega) (.slice b2 (ndB p).length d2)).setLow (x := ⟨w.heap.size, 5, none⟩) (by simp <;> omega) (.slice (some ⟨w2.heap.size + 1, 0, none⟩) 2 2))
    have q2 := ((((((o2.setLow (x := ⟨w.heap.size, 0, none⟩) (by simp <;> omega) (.int .i64 (ndP p))).setLow (x := ⟨w.heap.size, 1, none⟩) (by simp <;> omega) (.slice a (ndM p).length c)).setLow (x := ⟨w.heap.size, 2, none⟩) (by simp <;> omega) (.int .i64 (ndP p))).setLow (x := ⟨w.heap.size, 3, none⟩) (by simp <;> omega) (.slice b (ndA p).length d)).setLow (x := ⟨w.heap.size, 4, none⟩) (by simp <;> omega) (.slice b2 (ndB p).length d2)).setLow (x := ⟨w.heap.size, 5, none⟩) (by simp <;> omega) (.slice (some ⟨w2.heap.size + 1, 0, none⟩) 2 2))
    have q3 := ((((((o3.setLow (x := ⟨w.heap.size, 0, none⟩) (by simp <;> omega) (.int .i64 (ndP p))).setLow (x := ⟨w.heap.size, 1, none⟩) (by simp <;> omega) (.slice a (ndM p).length c)).setLow (x := ⟨w.heap.size, 2, none⟩) (by simp <;> omega) (.int .i64 (ndP p))).setLow (x := ⟨w.heap.size, 3, none⟩) (by simp <;> omega) (.slice b (ndA p).length d)).setLow (x := ⟨w.heap.size, 4, none⟩) (by simp <;> omega) (.slice b2 (ndB p).length d2)).setLow (x := ⟨w.heap.size, 5, none⟩) (by simp <;> omega) (.slice (some ⟨w2.heap.size + 1, 0, none⟩) 2 2))
    rw [k1.out, k6.out]
    refine ⟨a, c, b, d, b2, d2, (some ⟨w2.heap.size + 1, 0, none⟩), 2, rfl, ⟨_, _, _, _, _, _, ?_, ?_, ?_, ?_, ?_, ?_, q1, q2, q3⟩, ?_, ((((((fa.setCell (by simp <;> omega) _).setCell (by simp <;> omega) _).setCell (by simp <;> omega) _).setCell (by simp <;> omega) _).setCell (by simp <;> omega) _).setCell (by simp <;> omega) _)⟩
    all_goals (try simp)
    all_goals omega
set_option maxRecDepth 100000 in
set_option maxHeartbeats 3200000 in
theorem implNewDesk (w : World) : Calls Try.prog 6 #[] w (ResD1 w (ndP 101) (ndM 101) (ndP 101) (ndA 101) (ndB 101) (ndF 101)) := by
  have hb0 := bl1 w (.cells #[.int .i64 0, .slice none 0 0, .int .i64 0, .slice none 0 0, .slice none 0 0, .slice none 0 0] 28)
  go_enter Try.func6, Try.ntmps6
  go_wp2_with fail
  refine (newDeskFor_any 101 _).mono ?_
  rintro e w1 ⟨a, c, b, d, b2, d2, f, g, rfl, oz, ls, hb1⟩
  have r0 : w1.cell? ⟨w.heap.size, 0, none⟩ = some (.int .i64 0) := cell_be hb1 (by simp [go_sem])
  have y0 : w1.frozen? ⟨w.heap.size, 0, none⟩ = false := (hb1.frozen (by simp)).trans (by simp [go_sem])
  have r1 : w1.cell? ⟨w.heap.size, 1, none⟩ = some (.slice none 0 0) := cell_be hb1 (by simp [go_sem])
  have y1 : w1.frozen? ⟨w.heap.size, 1, none⟩ = false := (hb1.frozen (by simp)).trans (by simp [go_sem])
  have r2 : w1.cell? ⟨w.heap.size, 2, none⟩ = some (.int .i64 0) := cell_be hb1 (by simp [go_sem])
  have y2 : w1.frozen? ⟨w.heap.size, 2, none⟩ = false := (hb1.frozen (by simp)).trans (by simp [go_sem])
  have r3 : w1.cell? ⟨w.heap.size, 3, none⟩ = some (.slice none 0 0) := cell_be hb1 (by simp [go_sem])
  have y3 : w1.frozen? ⟨w.heap.size, 3, none⟩ = false := (hb1.frozen (by simp)).trans (by simp [go_sem])
  have r4 : w1.cell? ⟨w.heap.size, 4, none⟩ = some (.slice none 0 0) := cell_be hb1 (by simp [go_sem])
  have y4 : w1.frozen? ⟨w.heap.size, 4, none⟩ = false := (hb1.frozen (by simp)).trans (by simp [go_sem])
  have r5 : w1.cell? ⟨w.heap.size, 5, none⟩ = some (.slice none 0 0) := cell_be hb1 (by simp [go_sem])
  have y5 : w1.frozen? ⟨w.heap.size, 5, none⟩ = false := (hb1.frozen (by simp)).trans (by simp [go_sem])
  have hB1 := bnext hb0 hb1
  have z1 : w.heap.size + 1 ≤ w1.heap.size := by have := hb1.size; simp at this; omega
  have pa := bl1 w1 (.cells #[.int .i64 (ndP 101), .slice a (ndM 101).length c, .int .i64 (ndP 101), .slice b (ndA 101).length d, .slice b2 (ndB 101).length d2, .slice f (ndF 101).length g] 28)
  replace y0 := frz_al r0 y0 (.cells #[.int .i64 (ndP 101), .slice a (ndM 101).length c, .int .i64 (ndP 101), .slice b (ndA 101).length d, .slice b2 (ndB 101).length d2, .slice f (ndF 101).length g] 28)
  replace r0 := cell_al r0 (.cells #[.int .i64 (ndP 101), .slice a (ndM 101).length c, .int .i64 (ndP 101), .slice b (ndA 101).length d, .slice b2 (ndB 101).length d2, .slice f (ndF 101).length g] 28)
  replace y1 := frz_al r1 y1 (.cells #[.int .i64 (ndP 101), .slice a (ndM 101).length c, .int .i64 (ndP 101), .slice b (ndA 101).length d, .slice b2 (ndB 101).length d2, .slice f (ndF 101).length g] 28)
  replace r1 := cell_al r1 (.cells #[.int .i64 (ndP 101), .slice a (ndM 101).length c, .int .i64 (ndP 101), .slice b (ndA 101).length d, .slice b2 (ndB 101).length d2, .slice f (ndF 101).length g] 28)
  replace y2 := frz_al r2 y2 (.cells #[.int .i64 (ndP 101), .slice a (ndM 101).length c, .int .i64 (ndP 101), .slice b (ndA 101).length d, .slice b2 (ndB 101).length d2, .slice f (ndF 101).length g] 28)
  replace r2 := cell_al r2 (.cells #[.int .i64 (ndP 101), .slice a (ndM 101).length c, .int .i64 (ndP 101), .slice b (ndA 101).length d, .slice b2 (ndB 101).length d2, .slice f (ndF 101).length g] 28)
  replace y3 := frz_al r3 y3 (.cells #[.int .i64 (ndP 101), .slice a (ndM 101).length c, .int .i64 (ndP 101), .slice b (ndA 101).length d, .slice b2 (ndB 101).length d2, .slice f (ndF 101).length g] 28)
  replace r3 := cell_al r3 (.cells #[.int .i64 (ndP 101), .slice a (ndM 101).length c, .int .i64 (ndP 101), .slice b (ndA 101).length d, .slice b2 (ndB 101).length d2, .slice f (ndF 101).length g] 28)
  replace y4 := frz_al r4 y4 (.cells #[.int .i64 (ndP 101), .slice a (ndM 101).length c, .int .i64 (ndP 101), .slice b (ndA 101).length d, .slice b2 (ndB 101).length d2, .slice f (ndF 101).length g] 28)
  replace r4 := cell_al r4 (.cells #[.int .i64 (ndP 101), .slice a (ndM 101).length c, .int .i64 (ndP 101), .slice b (ndA 101).length d, .slice b2 (ndB 101).length d2, .slice f (ndF 101).length g] 28)
  replace y5 := frz_al r5 y5 (.cells #[.int .i64 (ndP 101), .slice a (ndM 101).length c, .int .i64 (ndP 101), .slice b (ndA 101).length d, .slice b2 (ndB 101).length d2, .slice f (ndF 101).length g] 28)
  replace r5 := cell_al r5 (.cells #[.int .i64 (ndP 101), .slice a (ndM 101).length c, .int .i64 (ndP 101), .slice b (ndA 101).length d, .slice b2 (ndB 101).length d2, .slice f (ndF 101).length g] 28)
  replace oz := oz.below pa
  have fa := hB1.trans (pa.mono (by omega))
  clear hb1 pa
  go_wp2
  refine bodyPost_ret (v := dsk (ndP 101) a (ndM 101).length c (ndP 101) b (ndA 101).length d b2 (ndB 101).length d2 f (ndF 101).length g) (by simp [results, Try.results6, go_sem, r0, r1, r2, r3, r4, r5]) rfl ?_
  have q := ((((((oz.setLow (x := ⟨w.heap.size, 0, none⟩) (by simp <;> omega) (.int .i64 (ndP 101))).setLow (x := ⟨w.heap.size, 1, none⟩) (by simp <;> omega) (.slice a (ndM 101).length c)).setLow (x := ⟨w.heap.size, 2, none⟩) (by simp <;> omega) (.int .i64 (ndP 101))).setLow (x := ⟨w.heap.size, 3, none⟩) (by simp <;> omega) (.slice b (ndA 101).length d)).setLow (x := ⟨w.heap.size, 4, none⟩) (by simp <;> omega) (.slice b2 (ndB 101).length d2)).setLow (x := ⟨w.heap.size, 5, none⟩) (by simp <;> omega) (.slice f (ndF 101).length g))
  exact ⟨a, c, b, d, b2, d2, f, g, rfl, q.mono (by simp) (by simp), ls, ((((((fa.setCell (by simp <;> omega) _).setCell (by simp <;> omega) _).setCell (by simp <;> omega) _).setCell (by simp <;> omega) _).setCell (by simp <;> omega) _).setCell (by simp <;> omega) _)⟩
set_option maxRecDepth 100000 in
set_option maxHeartbeats 3200000 in
theorem l11New_any (w : World) : Calls Try.prog 14 #[] w (ResD1 w (ndP 101) (ndM 101) (ndP 101) (ndA 101) (ndB 101) (ndF 101)) := by
  have hb0 := bl1 w (.cells #[.int .i64 0, .slice none 0 0, .int .i64 0, .slice none 0 0, .slice none 0 0, .slice none 0 0] 28)
  go_enter Try.func14, Try.ntmps14
  go_wp2_with fail
  refine (l11For_any 101 _).mono ?_
  rintro e w1 ⟨a, c, b, d, b2, d2, f, g, rfl, oz, ls, hb1⟩
  have r0 : w1.cell? ⟨w.heap.size, 0, none⟩ = some (.int .i64 0) := cell_be hb1 (by simp [go_sem])
  have y0 : w1.frozen? ⟨w.heap.size, 0, none⟩ = false := (hb1.frozen (by simp)).trans (by simp [go_sem])
  have r1 : w1.cell? ⟨w.heap.size, 1, none⟩ = some (.slice none 0 0) := cell_be hb1 (by simp [go_sem])
  have y1 : w1.frozen? ⟨w.heap.size, 1, none⟩ = false := (hb1.frozen (by simp)).trans (by simp [go_sem])
  have r2 : w1.cell? ⟨w.heap.size, 2, none⟩ = some (.int .i64 0) := cell_be hb1 (by simp [go_sem])
  have y2 : w1.frozen? ⟨w.heap.size, 2, none⟩ = false := (hb1.frozen (by simp)).trans (by simp [go_sem])
  have r3 : w1.cell? ⟨w.heap.size, 3, none⟩ = some (.slice none 0 0) := cell_be hb1 (by simp [go_sem])
  have y3 : w1.frozen? ⟨w.heap.size, 3, none⟩ = false := (hb1.frozen (by simp)).trans (by simp [go_sem])
  have r4 : w1.cell? ⟨w.heap.size, 4, none⟩ = some (.slice none 0 0) := cell_be hb1 (by simp [go_sem])
  have y4 : w1.frozen? ⟨w.heap.size, 4, none⟩ = false := (hb1.frozen (by simp)).trans (by simp [go_sem])
  have r5 : w1.cell? ⟨w.heap.size, 5, none⟩ = some (.slice none 0 0) := cell_be hb1 (by simp [go_sem])
  have y5 : w1.frozen? ⟨w.heap.size, 5, none⟩ = false := (hb1.frozen (by simp)).trans (by simp [go_sem])
  have hB1 := bnext hb0 hb1
  have z1 : w.heap.size + 1 ≤ w1.heap.size := by have := hb1.size; simp at this; omega
  have pa := bl1 w1 (.cells #[.int .i64 (ndP 101), .slice a (ndM 101).length c, .int .i64 (ndP 101), .slice b (ndA 101).length d, .slice b2 (ndB 101).length d2, .slice f (ndF 101).length g] 28)
  replace y0 := frz_al r0 y0 (.cells #[.int .i64 (ndP 101), .slice a (ndM 101).length c, .int .i64 (ndP 101), .slice b (ndA 101).length d, .slice b2 (ndB 101).length d2, .slice f (ndF 101).length g] 28)
  replace r0 := cell_al r0 (.cells #[.int .i64 (ndP 101), .slice a (ndM 101).length c, .int .i64 (ndP 101), .slice b (ndA 101).length d, .slice b2 (ndB 101).length d2, .slice f (ndF 101).length g] 28)
  replace y1 := frz_al r1 y1 (.cells #[.int .i64 (ndP 101), .slice a (ndM 101).length c, .int .i64 (ndP 101), .slice b (ndA 101).length d, .slice b2 (ndB 101).length d2, .slice f (ndF 101).length g] 28)
  replace r1 := cell_al r1 (.cells #[.int .i64 (ndP 101), .slice a (ndM 101).length c, .int .i64 (ndP 101), .slice b (ndA 101).length d, .slice b2 (ndB 101).length d2, .slice f (ndF 101).length g] 28)
  replace y2 := frz_al r2 y2 (.cells #[.int .i64 (ndP 101), .slice a (ndM 101).length c, .int .i64 (ndP 101), .slice b (ndA 101).length d, .slice b2 (ndB 101).length d2, .slice f (ndF 101).length g] 28)
  replace r2 := cell_al r2 (.cells #[.int .i64 (ndP 101), .slice a (ndM 101).length c, .int .i64 (ndP 101), .slice b (ndA 101).length d, .slice b2 (ndB 101).length d2, .slice f (ndF 101).length g] 28)
  replace y3 := frz_al r3 y3 (.cells #[.int .i64 (ndP 101), .slice a (ndM 101).length c, .int .i64 (ndP 101), .slice b (ndA 101).length d, .slice b2 (ndB 101).length d2, .slice f (ndF 101).length g] 28)
  replace r3 := cell_al r3 (.cells #[.int .i64 (ndP 101), .slice a (ndM 101).length c, .int .i64 (ndP 101), .slice b (ndA 101).length d, .slice b2 (ndB 101).length d2, .slice f (ndF 101).length g] 28)
  replace y4 := frz_al r4 y4 (.cells #[.int .i64 (ndP 101), .slice a (ndM 101).length c, .int .i64 (ndP 101), .slice b (ndA 101).length d, .slice b2 (ndB 101).length d2, .slice f (ndF 101).length g] 28)
  replace r4 := cell_al r4 (.cells #[.int .i64 (ndP 101), .slice a (ndM 101).length c, .int .i64 (ndP 101), .slice b (ndA 101).length d, .slice b2 (ndB 101).length d2, .slice f (ndF 101).length g] 28)
  replace y5 := frz_al r5 y5 (.cells #[.int .i64 (ndP 101), .slice a (ndM 101).length c, .int .i64 (ndP 101), .slice b (ndA 101).length d, .slice b2 (ndB 101).length d2, .slice f (ndF 101).length g] 28)
  replace r5 := cell_al r5 (.cells #[.int .i64 (ndP 101), .slice a (ndM 101).length c, .int .i64 (ndP 101), .slice b (ndA 101).length d, .slice b2 (ndB 101).length d2, .slice f (ndF 101).length g] 28)
  replace oz := oz.below pa
  have fa := hB1.trans (pa.mono (by omega))
  clear hb1 pa
  go_wp2
  refine bodyPost_ret (v := dsk (ndP 101) a (ndM 101).length c (ndP 101) b (ndA 101).length d b2 (ndB 101).length d2 f (ndF 101).length g) (by simp [results, Try.results14, go_sem, r0, r1, r2, r3, r4, r5]) rfl ?_
  have q := ((((((oz.setLow (x := ⟨w.heap.size, 0, none⟩) (by simp <;> omega) (.int .i64 (ndP 101))).setLow (x := ⟨w.heap.size, 1, none⟩) (by simp <;> omega) (.slice a (ndM 101).length c)).setLow (x := ⟨w.heap.size, 2, none⟩) (by simp <;> omega) (.int .i64 (ndP 101))).setLow (x := ⟨w.heap.size, 3, none⟩) (by simp <;> omega) (.slice b (ndA 101).length d)).setLow (x := ⟨w.heap.size, 4, none⟩) (by simp <;> omega) (.slice b2 (ndB 101).length d2)).setLow (x := ⟨w.heap.size, 5, none⟩) (by simp <;> omega) (.slice f (ndF 101).length g))
  exact ⟨a, c, b, d, b2, d2, f, g, rfl, q.mono (by simp) (by simp), ls, ((((((fa.setCell (by simp <;> omega) _).setCell (by simp <;> omega) _).setCell (by simp <;> omega) _).setCell (by simp <;> omega) _).setCell (by simp <;> omega) _).setCell (by simp <;> omega) _)⟩
set_option maxRecDepth 100000 in
set_option maxHeartbeats 3200000 in
theorem specNewDesk (w : World) : Calls Try.prog 5 #[] w (ResD1 w (ndP 101) (ndM 101) (ndP 101) (ndA 101) (ndB 101) (ndF 101)) := by
  have hb0 := bl1 w (.cells #[.int .i64 0, .slice none 0 0, .int .i64 0, .slice none 0 0, .slice none 0 0, .slice none 0 0] 28)
  go_enter Try.func5, Try.ntmps5
  go_wp2_with fail
  refine (l11New_any _).mono ?_
  rintro e w1 ⟨a, c, b, d, b2, d2, f, g, rfl, oz, ls, hb1⟩
  have r0 : w1.cell? ⟨w.heap.size, 0, none⟩ = some (.int .i64 0) := cell_be hb1 (by simp [go_sem])
  have y0 : w1.frozen? ⟨w.heap.size, 0, none⟩ = false := (hb1.frozen (by simp)).trans (by simp [go_sem])
  have r1 : w1.cell? ⟨w.heap.size, 1, none⟩ = some (.slice none 0 0) := cell_be hb1 (by simp [go_sem])
  have y1 : w1.frozen? ⟨w.heap.size, 1, none⟩ = false := (hb1.frozen (by simp)).trans (by simp [go_sem])
  have r2 : w1.cell? ⟨w.heap.size, 2, none⟩ = some (.int .i64 0) := cell_be hb1 (by simp [go_sem])
  have y2 : w1.frozen? ⟨w.heap.size, 2, none⟩ = false := (hb1.frozen (by simp)).trans (by simp [go_sem])
  have r3 : w1.cell? ⟨w.heap.size, 3, none⟩ = some (.slice none 0 0) := cell_be hb1 (by simp [go_sem])
  have y3 : w1.frozen? ⟨w.heap.size, 3, none⟩ = false := (hb1.frozen (by simp)).trans (by simp [go_sem])
  have r4 : w1.cell? ⟨w.heap.size, 4, none⟩ = some (.slice none 0 0) := cell_be hb1 (by simp [go_sem])
  have y4 : w1.frozen? ⟨w.heap.size, 4, none⟩ = false := (hb1.frozen (by simp)).trans (by simp [go_sem])
  have r5 : w1.cell? ⟨w.heap.size, 5, none⟩ = some (.slice none 0 0) := cell_be hb1 (by simp [go_sem])
  have y5 : w1.frozen? ⟨w.heap.size, 5, none⟩ = false := (hb1.frozen (by simp)).trans (by simp [go_sem])
  have hB1 := bnext hb0 hb1
  have z1 : w.heap.size + 1 ≤ w1.heap.size := by have := hb1.size; simp at this; omega
  clear hb1
  go_wp2
  refine bodyPost_ret (v := dsk (ndP 101) a (ndM 101).length c (ndP 101) b (ndA 101).length d b2 (ndB 101).length d2 f (ndF 101).length g) (by simp [results, Try.results5, go_sem, r0, r1, r2, r3, r4, r5]) rfl ?_
  have q := ((((((oz.setLow (x := ⟨w.heap.size, 0, none⟩) (by simp <;> omega) (.int .i64 (ndP 101))).setLow (x := ⟨w.heap.size, 1, none⟩) (by simp <;> omega) (.slice a (ndM 101).length c)).setLow (x := ⟨w.heap.size, 2, none⟩) (by simp <;> omega) (.int .i64 (ndP 101))).setLow (x := ⟨w.heap.size, 3, none⟩) (by simp <;> omega) (.slice b (ndA 101).length d)).setLow (x := ⟨w.heap.size, 4, none⟩) (by simp <;> omega) (.slice b2 (ndB 101).length d2)).setLow (x := ⟨w.heap.size, 5, none⟩) (by simp <;> omega) (.slice f (ndF 101).length g))
  exact ⟨a, c, b, d, b2, d2, f, g, rfl, q.mono (by simp) (by simp), ls, ((((((hB1.setCell (by simp <;> omega) _).setCell (by simp <;> omega) _).setCell (by simp <;> omega) _).setCell (by simp <;> omega) _).setCell (by simp <;> omega) _).setCell (by simp <;> omega) _)⟩
end Go.Proofs.Ytpoabedlcljibaa
