/- Merged texts. -/
import Derived.Test.YtllcgoachgfpjaaYD324
import Derived.Test.YtllcgoachgfpjaaProg
import Derived.WalkMore
import Derived.ScopeJumps
/- Contracts: AffineJacobi where it succeeds, lessNumber (program). -/
namespace Go.Proofs.Ytllcgoachgfpjaa
open Go.RowKit
set_option linter.unusedVariables false
set_option linter.unusedSimpArgs false

theorem affine_ok (p : Int) (x : Option Addr) (n c : Nat) (xs : List Int) (y : Option Addr) (d : Nat) (ys : List Int) (a k : Int) (w : World) (hs : SL w x n c xs) (ht : SL w y n d ys) (hj : jacB p xs ys = true) (ha0 : 1 ≤ a) (ha1 : a < p) (hk0 : 0 ≤ k) (hk1 : k < p) :
    Calls Try.prog 74 #[jac p x n c y n d, .int .i64 a, .int .i64 k] w fun e w' => ∃ a' c' b' d', e = .returned (.tuple #[jac p a' n c' b' n d', .int .i64 0]) ∧ JZ w.heap.size w'.heap.size w' a' n c' (tab n (afA p a k xs n)) b' n d' (tab n (afB p a ys n)) ∧ Below w.heap.size w w' := by
  obtain ⟨hpr, n1, n2, n3, hx, hy⟩ := jacB_rng hj
  have hl := hs.len
  have HC : affC p xs ys a k = 0 := by simp only [affC, hj, if_true]; rw [if_pos (by omega)]
  have HV : affV p xs ys a k = tab n (afA p a k xs n) := by rw [affV, if_pos HC, hl]
  have HU : affU p xs ys a k = tab n (afB p a ys n) := by rw [affU, if_pos HC, hl]
  have HQ : affP p xs ys a k = p := by rw [affP, if_pos HC]
  refine (implAffineJacobi p x n c xs y n d ys a k w hs ht (by omega) (by omega)).mono ?_
  rintro e w' ⟨a', c', b', d', rfl, ho, _, hb⟩
  rw [HV, HU, tab_len, tab_len] at ho
  exact ⟨a', c', b', d', by rw [HQ, HV, HU, HC, tab_len, tab_len], ho, hb⟩
set_option maxRecDepth 100000 in
set_option maxHeartbeats 3200000 in
theorem lessNumber_any (p : Int) (a : Option Addr) (n c : Nat) (xs : List Int) (b : Option Addr) (d : Nat) (ys : List Int) (x : Int) (w : World) (hs : SL w a n c xs) (ht : SL w b n d ys) (hj : jacB p xs ys = true) (x0 : 0 ≤ x) (x1 : x < p) :
    Calls Try.prog 73 #[jac p a n c b n d, .int .i64 x] w fun e w' => ∃ a' c' b' d', e = .returned (jac p a' n c' b' n d') ∧ JZ w.heap.size w'.heap.size w' a' n c' (tab n (afA p 1 (opp p x) xs n)) b' n d' ys ∧ Below w.heap.size w w' := by
  have hl := hide hs.len
  have hl2 := hide ht.len
  obtain ⟨hpr, n1, n2, n3, hx, hy⟩ := jacB_rng hj
  obtain ⟨hp, hp2⟩ := primeB_lo hpr
  rw [hl.out] at n1 n2
  have HB := hide (afB_id hp (posB_are hy) n hl2.out)
  have Hj := hide hj
  have ro := opp_rng (p := p) (x := x) hp
  obtain ⟨w2, hw2⟩ : ∃ w2, w2 = ((w.alloc (.cells #[.int .i64 p, .slice a n c, .slice b n d] 38)).alloc (.cells #[.int .i64 0, .slice none 0 0, .slice none 0 0] 38)) := ⟨_, rfl⟩
  have hB2 := bl2 w (.cells #[.int .i64 p, .slice a n c, .slice b n d] 38) (.cells #[.int .i64 0, .slice none 0 0, .slice none 0 0] 38)
  have f0 : w2.cell? ⟨w.heap.size, 0, none⟩ = some (.int .i64 p) := by rw [hw2]; simp [go_sem]
  have f1 : w2.cell? ⟨w.heap.size, 1, none⟩ = some (.slice a n c) := by rw [hw2]; simp [go_sem]
  have f2 : w2.cell? ⟨w.heap.size, 2, none⟩ = some (.slice b n d) := by rw [hw2]; simp [go_sem]
  have r0 : w2.cell? ⟨w.heap.size + 1, 0, none⟩ = some (.int .i64 0) := by rw [hw2]; simp [go_sem]
  have r1 : w2.cell? ⟨w.heap.size + 1, 1, none⟩ = some (.slice none 0 0) := by rw [hw2]; simp [go_sem]
  have r2 : w2.cell? ⟨w.heap.size + 1, 2, none⟩ = some (.slice none 0 0) := by rw [hw2]; simp [go_sem]
  have y0 : w2.frozen? ⟨w.heap.size + 1, 0, none⟩ = false := by rw [hw2]; simp [go_sem]
  have y1 : w2.frozen? ⟨w.heap.size + 1, 1, none⟩ = false := by rw [hw2]; simp [go_sem]
  have y2 : w2.frozen? ⟨w.heap.size + 1, 2, none⟩ = false := by rw [hw2]; simp [go_sem]
  have z2 : w.heap.size + 1 + 1 = w2.heap.size := by rw [hw2]; simp
  rw [← hw2] at hB2
  have g1 := hs.below hB2
  have g2 := ht.below hB2
  have z2' : w.heap.size + 1 + 1 ≤ w2.heap.size := by omega
  clear hj hx hy hpr
  go_enter Try.func73, Try.ntmps73
  go_upto_region 1 with fail
  rw [← hw2]
  clear hw2 z2
  have F2 : ∀ w', Below w2.heap.size w2 w' → Below w2.heap.size w2 w' ∧ w'.cell? ⟨w.heap.size, 0, none⟩ = some (.int .i64 p) ∧ w'.cell? ⟨w.heap.size, 1, none⟩ = some (.slice a n c) ∧ w'.cell? ⟨w.heap.size, 2, none⟩ = some (.slice b n d) := fun w' h => ⟨h, cell_be h f0, cell_be h f1, cell_be h f2⟩
  have GK : ∀ w', (Below w2.heap.size w2 w' ∧ w'.cell? ⟨w.heap.size, 0, none⟩ = some (.int .i64 p) ∧ w'.cell? ⟨w.heap.size, 1, none⟩ = some (.slice a n c) ∧ w'.cell? ⟨w.heap.size, 2, none⟩ = some (.slice b n d)) → Below w2.heap.size w2 w' := fun w' h => h.1
  go_cut [5] (fun sq wx => ∃ (q ga gb c' d' : Nat), sq = .pointer (some ⟨q, 0, none⟩) ∧ Hid (wx.cell? ⟨q, 0, none⟩ = some (.int .i64 p) ∧ wx.cell? ⟨q, 1, none⟩ = some (.slice (some ⟨ga, 0, none⟩) n c') ∧ wx.cell? ⟨q, 2, none⟩ = some (.slice (some ⟨gb, 0, none⟩) n d')) ∧
      Hid (ga ≠ gb ∧ ga ≠ q ∧ gb ≠ q) ∧ Hid (w2.heap.size ≤ ga ∧ w2.heap.size ≤ gb ∧ w2.heap.size ≤ q) ∧ Hid (Own w2.heap.size wx (some ⟨ga, 0, none⟩) c' (tab n (afA p 1 (opp p x) xs n))) ∧ Hid (Own w2.heap.size wx (some ⟨gb, 0, none⟩) d' ys) ∧ Hid (Below w2.heap.size w2 wx))
  case first =>
    go_region_held3 (fun w' => Below w2.heap.size w2 w' ∧ w'.cell? ⟨w.heap.size, 0, none⟩ = some (.int .i64 p) ∧ w'.cell? ⟨w.heap.size, 1, none⟩ = some (.slice a n c) ∧ w'.cell? ⟨w.heap.size, 2, none⟩ = some (.slice b n d))
      (first | exact F2 _ (by assumption) | exact F2 _ (((Below.refl _ _).alloc (Nat.le_refl _) _).drew) | exact F2 _ ((Below.refl _ _).drew) | exact F2 _ (Below.alloc (by assumption) (Below.size (by assumption)) _) | exact F2 _ (Below.setCell (Below.setCell (Below.setCell (by assumption) (by first | omega | (simp; done) | (simp; omega)) _) (by first | omega | (simp; done) | (simp; omega)) _) (by first | omega | (simp; done) | (simp; omega)) _))
      (first
      | (go_at_call 102; go_fit (opposite_any p x _ hp hp2 x0 x1); rintro e w3 ⟨rfl, rfl⟩)
      | (go_at_call 74; go_fit (affine_ok p _ n _ xs _ _ ys 1 (opp p x) _ (g1.below (GK _ (by assumption))) (g2.below (GK _ (by assumption))) Hj.out (by omega) (by omega) ro.1 ro.2); rintro e w4 ⟨a', c', b', d', rfl, ho, hb4⟩; have hm4 := bnext (GK _ (by assumption)) hb4; have zz4 := Below.size hm4; have ts4 := Below.size hb4; (try simp at ts4); first | (with_reducible have alx := alc3 hb4; have al0 := alx.1.1; have al1 := alx.1.2.1; have al2 := alx.1.2.2; have af0 := alx.2.1; have af1 := alx.2.2.1; have af2 := alx.2.2.2; clear alx) | (with_reducible have alx := alcD3 hb4; have al0 := alx.1.1; have al1 := alx.1.2.1; have al2 := alx.1.2.2; have af0 := alx.2.1; have af1 := alx.2.2.1; have af2 := alx.2.2.2; clear alx) | (have af0 := (Below.frozen hb4 (World.block_lt_of_cell? _ _ al0)).trans af0; have af1 := (Below.frozen hb4 (World.block_lt_of_cell? _ _ al1)).trans af1; have af2 := (Below.frozen hb4 (World.block_lt_of_cell? _ _ al2)).trans af2; have al0 := cell_be hb4 al0; have al1 := cell_be hb4 al1; have al2 := cell_be hb4 al2) | skip))
    all_goals go_wp2_with fail
    all_goals go_meet
    all_goals
      rw [HB.out] at ho
      obtain ⟨ga, gb, rfl, rfl, d1, d2, d3, d4, d5, oA, oB⟩ := ho.rows (by omega) (by omega)
      (try simp at d2)
      (try simp at d4)
      first
      | exact ⟨_, ga, gb, c', d', rfl, hide ⟨cell_set2' (cell_set2' (World.cell?_setCell_same _ _ _ al0) (by simp) _) (by simp) _, cell_set2' (World.cell?_setCell_same _ _ _ (cell_set2' al1 (by simp) _)) (by simp) _, World.cell?_setCell_same _ _ _ (cell_set2' (cell_set2' al2 (by simp) _) (by simp) _)⟩, hide ⟨d1, (by first | omega | (simp; done) | (simp; omega)), (by first | omega | (simp; done) | (simp; omega))⟩, hide ⟨(by first | omega | (simp; done) | (simp; omega)), (by first | omega | (simp; done) | (simp; omega)), (by first | omega | (simp; done) | (simp; omega))⟩, hide ((((oA.setLow (by first | omega | (simp; done) | (simp; omega)) _).setLow (by first | omega | (simp; done) | (simp; omega)) _).setLow (by first | omega | (simp; done) | (simp; omega)) _).mono (by first | omega | (simp; done) | (simp; omega))), hide ((((oB.setLow (by first | omega | (simp; done) | (simp; omega)) _).setLow (by first | omega | (simp; done) | (simp; omega)) _).setLow (by first | omega | (simp; done) | (simp; omega)) _).mono (by first | omega | (simp; done) | (simp; omega))), hide (((hm4.setCell (by first | omega | (simp; done) | (simp; omega)) _).setCell (by first | omega | (simp; done) | (simp; omega)) _).setCell (by first | omega | (simp; done) | (simp; omega)) _)⟩
      | exact ⟨_, ga, gb, c', d', rfl, hide ⟨by simp [go_sem], by simp [go_sem], by simp [go_sem]⟩, hide ⟨d1, (by first | omega | (simp; done) | (simp; omega)), (by first | omega | (simp; done) | (simp; omega))⟩, hide ⟨(by first | omega | (simp; done) | (simp; omega)), (by first | omega | (simp; done) | (simp; omega)), (by first | omega | (simp; done) | (simp; omega))⟩, hide ((oA.below (bl1 _ _)).mono (by first | omega | (simp; done) | (simp; omega))), hide ((oB.below (bl1 _ _)).mono (by first | omega | (simp; done) | (simp; omega))), hide (hm4.alloc (Below.size hm4) _)⟩
  case rest =>
    obtain ⟨q, ga, gb, c', d', rfl, hq, hd, hge, oA, oB, hW⟩ := hcut
    obtain ⟨w5, hu⟩ : ∃ u, u = wc := ⟨wc, rfl⟩
    subst hu
    clear F2 GK
    obtain ⟨d1, d2, d3⟩ := hd.out
    obtain ⟨e1, e2, e3⟩ := hge.out
    obtain ⟨q0, q1, q2⟩ := hq.out
    replace r0 := cell_be hW.out r0
    replace r1 := cell_be hW.out r1
    replace r2 := cell_be hW.out r2
    have y0' := (hW.out.frozen (p := ⟨w.heap.size + 1, 0, none⟩) (by simp; omega)).trans y0
    have y1' := (hW.out.frozen (p := ⟨w.heap.size + 1, 1, none⟩) (by simp; omega)).trans y1
    have y2' := (hW.out.frozen (p := ⟨w.heap.size + 1, 2, none⟩) (by simp; omega)).trans y2
    have hB := hB2.trans (hW.out.mono (by omega))
    clear y0 y1 y2 hq f0 f1 f2
    go_wp2
    refine bodyPost_ret (v := jac p (some ⟨ga, 0, none⟩) n c' (some ⟨gb, 0, none⟩) n d') (by simp [results, Try.results73, go_sem, r0, r1, r2]) rfl ?_
    have jz : JZ w2.heap.size w5.heap.size w5 (some ⟨ga, 0, none⟩) n c' (tab n (afA p 1 (opp p x) xs n)) (some ⟨gb, 0, none⟩) n d' ys := ⟨OZ.of oA.out (tab_len _ _).symm, OZ.of oB.out hl2.out.symm, .inr (.inr (by simp [blk]; omega))⟩
    have jz2 := ((jz.setLow (x := ⟨w.heap.size + 1, 0, none⟩) (by simp; omega) (.int .i64 p)).setLow (x := ⟨w.heap.size + 1, 1, none⟩) (by simp; omega) (.slice (some ⟨ga, 0, none⟩) n c')).setLow (x := ⟨w.heap.size + 1, 2, none⟩) (by simp; omega) (.slice (some ⟨gb, 0, none⟩) n d')
    exact ⟨_, c', _, d', rfl, by simpa using jz2.mono (lo' := w.heap.size) (by omega) (Nat.le_refl _), ((hB.setCell (by simp) _).setCell (by simp) _).setCell (by simp) _⟩
end Go.Proofs.Ytllcgoachgfpjaa
/- A scope with two labels: what holds at a jump to the first, and what is left to be done at a jump to the second. -/
namespace Go.Proofs.Ytllcgoachgfpjaa
open Go
/-- By a goto to label l: J; to label q: K; by any other goto: no way out; else Q. -/
def jumpTwo (l q : Nat) (J K : Act → World → Prop) (Q : Exit → Act → World → Prop) : Exit → Act → World → Prop
  | .goto x, a, w => (x = l ∧ J a w) ∨ (x = q ∧ K a w)
  | e, a, w => Q e a w
section
variable {P : Program} {a : Act} {w : World} {Q : Exit → Act → World → Prop}
theorem wp_scope_two {c rl rq : Code} (l q : Nat) (J : Act → World → Prop) (μ : Act → World → Nat) (hl : findLabel c l = some rl) (hq : findLabel c q = some rq)
    (first : c.wp P (jumpTwo l q J (fun a' w' => rq.wp P (Exit.jump l J Q) a' w') Q) a w)
    (pass : ∀ a w, J a w → rl.wp P (jumpTwo l q (fun a' w' => J a' w' ∧ μ a' w' < μ a w) (fun a' w' => rq.wp P (Exit.jump l (fun a2 w2 => J a2 w2 ∧ μ a2 w2 < μ a w) Q) a' w') Q) a w) : (Code.scope c).wp P Q a w := by
  intro b k cs
  have gl : gotoIn l (.inScope c :: k) = some (.code rl :: .inScope c :: k) := by simp [gotoIn, hl]
  have gq : gotoIn q (.inScope c :: k) = some (.code rq :: .inScope c :: k) := by simp [gotoIn, hq]
  -- a way that ends otherwise than by a jump is the scope's own
  have out : ∀ {s : Nat → Prop} {J' : Act → World → Prop} (a w), rq.wp P (Exit.jump l J' Q) a w →
      (∀ a' w', J' a' w' → ∃ e a'' w'', Q e a'' w'' ∧ Arrives P (lone (b.at a' (.code rl :: .inScope c :: k)) cs w') b k cs e a'' w'') →
      ∃ e a' w', Q e a' w' ∧ Arrives P (lone (b.at a (.code rq :: .inScope c :: k)) cs w) b k cs e a' w' := by
    intro _ J' a w h hJ
    obtain ⟨e, a1, w1, h1, h2⟩ := h b (.inScope c :: k) cs
    cases e with
    | normal => exact ⟨.normal, a1, w1, h1, Steps.trans h2 (.one step_inScope)⟩
    | exit id => exact ⟨.exit id, a1, w1, h1, fun k' hk => h2 k' (by simp [exitTo, hk])⟩
    | goto x =>
      obtain ⟨rfl, hj⟩ := h1
      obtain ⟨e2, a2, w2, h3, h4⟩ := hJ _ _ hj
      exact ⟨e2, a2, w2, h3, .of_steps (h2 _ gl) h4⟩
    | ret => exact ⟨_, a1, w1, h1, h2⟩
    | panic ch => exact ⟨_, a1, w1, h1, h2⟩
    | outgrown => exact ⟨_, a1, w1, h1, h2⟩
  have key : ∀ n a w, μ a w = n → J a w → ∃ e a' w', Q e a' w' ∧ Arrives P (lone (b.at a (.code rl :: .inScope c :: k)) cs w) b k cs e a' w' := by
    intro n
    induction n using Nat.strongRecOn with
    | _ n ih =>
      intro a w hn hJ
      obtain ⟨e, a1, w1, h1, h2⟩ := pass a w hJ b (.inScope c :: k) cs
      cases e with
      | normal => exact ⟨.normal, a1, w1, h1, Steps.trans h2 (.one step_inScope)⟩
      | exit id => exact ⟨.exit id, a1, w1, h1, fun k' hk => h2 k' (by simp [exitTo, hk])⟩
      | goto x =>
        rcases h1 with ⟨rfl, hj, hlt⟩ | ⟨rfl, hk⟩
        · obtain ⟨e2, a2, w2, h3, h4⟩ := ih _ (by omega) a1 w1 rfl hj
          exact ⟨e2, a2, w2, h3, .of_steps (h2 _ gl) h4⟩
        · obtain ⟨e2, a2, w2, h3, h4⟩ := out (s := fun _ => True) _ _ hk (fun a' w' hj => ih _ (by omega) a' w' rfl hj.1)
          exact ⟨e2, a2, w2, h3, .of_steps (h2 _ gq) h4⟩
      | ret => exact ⟨_, a1, w1, h1, h2⟩
      | panic ch => exact ⟨_, a1, w1, h1, h2⟩
      | outgrown => exact ⟨_, a1, w1, h1, h2⟩
  obtain ⟨e, a1, w1, h1, h2⟩ := first b (.inScope c :: k) cs
  cases e with
  | normal => exact ⟨.normal, a1, w1, h1, .head step_scope (Steps.trans h2 (.one step_inScope))⟩
  | exit id => exact ⟨.exit id, a1, w1, h1, fun k' hk => .head step_scope (h2 k' (by simp [exitTo, hk]))⟩
  | goto x =>
    rcases h1 with ⟨rfl, hj⟩ | ⟨rfl, hk⟩
    · obtain ⟨e2, a2, w2, h3, h4⟩ := key _ a1 w1 rfl hj
      exact ⟨e2, a2, w2, h3, .of_steps (.head step_scope (h2 _ gl)) h4⟩
    · obtain ⟨e2, a2, w2, h3, h4⟩ := out (s := fun _ => True) _ _ hk (fun a' w' hj => key _ a' w' rfl hj)
      exact ⟨e2, a2, w2, h3, .of_steps (.head step_scope (h2 _ gq)) h4⟩
  | ret => exact ⟨_, a1, w1, h1, .of_steps (.one step_scope) h2⟩
  | panic ch => exact ⟨_, a1, w1, h1, .of_steps (.one step_scope) h2⟩
  | outgrown => exact ⟨_, a1, w1, h1, .of_steps (.one step_scope) h2⟩
/-- The same, told once: the way to the first label leads to J, whatever is asked behind it. -/
theorem wp_scope_lab {c x rq : Code} (l q : Nat) (J : Act → World → Prop) (μ : Act → World → Nat) (hl : findLabel c l = some (Code.skip.seq x)) (hq : findLabel c q = some rq)
    (first : ∀ Q', (∀ a w, J a w → x.wp P Q' a w) → c.wp P Q' a w)
    (pass : ∀ a w, J a w → x.wp P (jumpTwo l q (fun a' w' => J a' w' ∧ μ a' w' < μ a w) (fun a' w' => rq.wp P (Exit.jump l (fun a2 w2 => J a2 w2 ∧ μ a2 w2 < μ a w) Q) a' w') Q) a w) : (Code.scope c).wp P Q a w := by
  refine wp_scope_two l q J μ hl hq (first _ fun a w hJ => wp_mono (pass a w hJ) ?_) fun a w hJ => wp_seq (wp_skip (pass a w hJ))
  intro e a' w' h
  cases e with
  | goto y =>
    rcases h with ⟨rfl, h1, _⟩ | ⟨rfl, h1⟩
    · exact .inl ⟨rfl, h1⟩
    · refine .inr ⟨rfl, wp_mono h1 ?_⟩
      intro e a2 w2 h2
      cases e with
      | goto z => exact ⟨h2.1, h2.2.1⟩
      | normal => exact h2
      | exit id => exact h2
      | ret => exact h2
      | panic ch => exact h2
      | outgrown => exact h2
  | normal => exact h
  | exit id => exact h
  | ret => exact h
  | panic ch => exact h
  | outgrown => exact h
end
end Go.Proofs.Ytllcgoachgfpjaa
