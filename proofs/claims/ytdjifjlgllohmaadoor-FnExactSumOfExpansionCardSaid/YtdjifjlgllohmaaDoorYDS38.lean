/- Merged texts. -/
import Derived.Test.YtdjifjlgllohmaaDoorYDS37
import Derived.Test.YtdjifjlgllohmaaDoorYDS33
import Derived.Test.YtdjifjlgllohmaaDoorYDS36
/- Contracts: SumOfExpansion of the program. -/
namespace Go.Proofs.YtdjifjlgllohmaaDoor
open Go.RowKit Go.Shelf
set_option linter.unusedVariables false
set_option linter.unusedSimpArgs false
attribute [local go_sem] Oper.semAt_some

/-- The sum of the first k multiples. -/
def soeL (p : Int) (xs ys : List Int) : Nat → List Int
  | 0 => []
  | k + 1 => addM p (soeL p xs ys k) (opL p xs k) (ys.getD k 0)
theorem soeL_small {p : Int} (hp : 2 ≤ p) (xs ys : List Int) : ∀ k, k ≤ 24 → Small p k (soeL p xs ys k)
  | 0, _ => Small.nil p 0
  | k + 1, h => by
    have h1 := soeL_small hp xs ys k (by omega)
    have h2 := opL_small hp xs k (by omega)
    refine ⟨addM_poly hp (by have := h1.2; omega) (by have := h2.2; omega) h1.are, ?_⟩
    have := addM_up (p := p) (f := soeL p xs ys k) (g := opL p xs k) (k := ys.getD k 0)
    have := h1.2
    have := h2.2
    show (addM p (soeL p xs ys k) (opL p xs k) (ys.getD k 0)).length ≤ k + 1
    omega
def soeC (p : Int) (xs ys : List Int) : Int := if momB p xs = true then (if ys.length ≤ 12 ∧ areB p ys = true then (if regB p xs (ys.length - 1) = true then 0 else 5) else 2) else 1
def soeV (p : Int) (xs ys : List Int) : List Int := if soeC p xs ys = 0 then soeL p xs ys ys.length else []
set_option maxRecDepth 100000 in
set_option maxHeartbeats 1600000 in
theorem soeWork (p : Int) (a2 : Option Addr) (n2 c2 : Nat) (xs : List Int) (a4 : Option Addr) (k c4 : Nat) (ys : List Int) (bm bn : Nat) (ae : Addr) (w : World) (hb : (w.cell? ⟨bm, 0, none⟩ = some (.int .i64 p) ∧ w.cell? ⟨bm, 1, none⟩ = some (.slice a2 n2 c2) ∧ w.cell? ⟨bn, 0, none⟩ = some (.slice a4 k c4) ∧ ErrV w ae ∧ SL w a2 n2 c2 xs)) (h4 : SL w a4 k c4 ys) (hP : primeB p = true) (hx : areB p xs = true) (hy : areB p ys = true) (b2 : n2 ≤ 24) (hk : k ≤ 12) :
    Calls Tryd.prog 71 #[.pointer (some ⟨bm, 0, none⟩), .pointer (some ⟨bn, 0, none⟩)] w fun e w' => Below w.heap.size w w' ∧ ((∃ f g, e = .returned (.slice f (soeL p xs ys k).length g) ∧ TL p xs (k - 1) ∧ Own w.heap.size w' f g (soeL p xs ys k)) ∨ (e = .panicked (chE ae) ∧ ¬ TL p xs (k - 1))) := by
  obtain ⟨c0, c1, c2', he, h2⟩ := hb
  have hl2 := hide h2.len
  have hl4 := hide h4.len
  obtain ⟨hp, hp2⟩ := primeB_lo hP
  have d0 := cell_al c0 (.cells #[.slice none 0 0] 22)
  have d1 := cell_al c1 (.cells #[.slice none 0 0] 22)
  have d2' := cell_al c2' (.cells #[.slice none 0 0] 22)
  refine (callsIn_wide (n := 3)).1 ?_
  refine callsIn_of_wp_marks Tryd.func71 rfl trivial ?_ rfl
  simp only [Tryd.ntmps71, List.size_toArray, List.length_cons, List.length_nil, Nat.reduceAdd, Nat.reduceSub, Array.replicate_succ, Array.replicate_zero, List.push_toArray, List.append_toArray, List.nil_append, List.cons_append]
  gi_wp2_with fail
  refine ⟨trivial, (callsIn_wide.2 (orthogonals_any _ _ _ _ _ _)).mono ?_⟩
  rintro e w' ⟨rfl, rfl⟩
  have hI0 : AcI p a2 n2 c2 k (soeL p xs ys) w [] (fun _ => False) (((w.alloc (.cells #[.slice none 0 0] 22)).alloc (.cells #[.int .i64 p, .slice a2 n2 c2] 30)).alloc (.cells #[.int .i64 (k : Int)] 2)) := by
    have hb4 := bl3 w (.cells #[.slice none 0 0] 22) (.cells #[.int .i64 p, .slice a2 n2 c2] 30) (.cells #[.int .i64 (k : Int)] 2)
    refine ⟨hb4, ?_, ?_, ?_, ⟨none, 0, ?_, ?_, fun g hg => by cases hg⟩, ?_⟩
    · simp [go_sem]
    · simp [go_sem]
    · simp [go_sem]
    · simp [go_sem, soeL]
    · exact ⟨by simp [soeL], .inl ⟨rfl, rfl⟩⟩
    · simp [go_sem]
  obtain ⟨w3, hw3⟩ : ∃ w3, ((w.alloc (.cells #[.slice none 0 0] 22)).alloc (.cells #[.int .i64 p, .slice a2 n2 c2] 30)).alloc (.cells #[.int .i64 (k : Int)] 2) = w3 := ⟨_, rfl⟩
  simp only [World.size_alloc] at *
  rw [hw3] at hI0 ⊢
  have z3 : w.heap.size + 1 + 1 + 1 ≤ w3.heap.size := by rw [← hw3]; simp
  clear hw3 d0 d1 d2'
  have hit := ortho_iter p a2 n2 c2 xs k (w.heap.size + 1) (w.heap.size + 1 + 1) ae w3 (¬ TL p xs (k - 1)) hP hx b2 hl2.out (by omega) (fun h => h)
  gi_wp2
  refine wpIn_rangeQ (gf := 95) (lb := #[.pointer (some ⟨w.heap.size + 1, 0, none⟩), .pointer (some ⟨w.heap.size + 1 + 1, 0, none⟩)]) rfl (enters_of Tryd.func95 (by kernel_rfl) rfl) hit (Below.refl _ _) (fun _ => rfl)
    (fun pre S A => AcI p a2 n2 c2 k (soeL p xs ys) w pre S A) (fun pre S A A' h hA => h.agr hA (fun b hb => .inl (by omega)) (fun b hb => .inr hb)) (fun pre S A h => ⟨h.m0, h.m1, h.m2, he.below h.below, h2.below h.below⟩) (fun pre A l o r hl h => OrF.putLoop pre A l o r hl h) hI0 ?round ?done ?panic
  case round =>
    intro l pre S x A hl1 hl3 hS h hh hlo
    obtain ⟨r, hlo⟩ := hlo
    obtain ⟨hxk, hxn, hxT, ⟨_, _, hof⟩, hnS⟩ := hh
    have hx12 := hide (show x.k ≤ 12 ∧ x.k < k from ⟨by omega, hxn⟩)
    have hp12 := hide (show pre.length ≤ 12 by omega)
    replace hxk := hide hxk
    have hlk : (x.k : Int) < (k : Int) := by omega
    have hl0 : (0 : Int) ≤ (x.k : Int) := by omega
    have v1 : IntKind.i64.wrap (((x.k + 1 : Nat) : Int) - 1) = (x.k : Int) := by rw [IntWalk.i64_in _ (by omega)]; omega
    obtain ⟨bl, ol, rfl, hwl, hcl4⟩ := h4.at (by omega)
    have YK0 := hcl4 x.k hxn
    have ykr := areB_at hy x.k (by rw [hl4.out]; exact hxn)
    obtain ⟨yk, hyk⟩ : ∃ yk, ys.getD x.k 0 = yk := ⟨_, rfl⟩
    rw [hyk] at YK0 ykr
    obtain ⟨yk0, yk1⟩ := ykr
    unfold RoundR oxE
    gi_wp2
    refine ⟨Agr.refl _ _, fun A₂ g2 z2 => ?_⟩
    have nl : ∀ g, blk x.f = some g → g ≠ l := fun g hg e => by
      subst e
      rcases hof.shape with ⟨h', _, _⟩ | ⟨g', cur, h', _, hgc, _⟩
      · rw [h'] at hg; cases hg
      · rw [h'] at hg; cases hg
        rw [hlo] at hgc; cases hgc
    have sf := hide (hof.agr g2 nl).sl
    have h' := h.agr (P := fun b => b ≠ l) g2 (fun b hb => by omega) (fun b hb => by have := (hS b hb).1; omega)
    have H' := hide h'
    obtain ⟨a, c, hc, ho, hSa⟩ := h'.acc
    have m0 := cell_be h'.below c0
    have m1 := cell_be h'.below c2'
    have YK := cell_be h'.below YK0
    have fz := h'.z
    have LO := hide (opL_len hp xs x.k (by have := hx12.out; omega)).1
    rw [LO.out] at sf
    have AO := hide (opL_small hp xs x.k (by have := hx12.out; omega)).are
    have hVn := hide (show soeL p xs ys (pre.length + 1) = addM p (soeL p xs ys pre.length) (opL p xs x.k) yk by rw [← hyk, hxk.out]; rfl)
    have hVs := soeL_small hp xs ys pre.length (by have := hp12.out; omega)
    obtain ⟨vs, hvs⟩ : ∃ vs, soeL p xs ys pre.length = vs := ⟨_, rfl⟩
    rw [hvs] at hc ho hVn hVs
    have hge := own_blk_ge ho
    have hBA := h'.below.size
    have vsl : vs.length ≤ 12 := by have := hp12.out; have := hVs.2; omega
    have AV := hide hVs.are
    have zA : w.heap.size + 1 + 1 + 1 ≤ A₂.heap.size := by have := hl3; omega
    have HP := hide hP
    replace hvs := hide hvs
    replace hyk := hide hyk
    clear h' h hof hnS nl hP hx hVs hy
    gi_wp2_with fail
    have FF : ∀ v, Agr (fun b => blk a ≠ some b) A₂ v → (v.cell? ⟨w.heap.size, 0, none⟩ = some (.slice a vs.length c) ∧ v.cell? ⟨bm, 0, none⟩ = some (.int .i64 p) ∧ v.cell? ⟨bn, 0, none⟩ = some (.slice (some ⟨bl, ol, none⟩) k c4) ∧ v.cell? ⟨bl, ol + x.k, none⟩ = some (.int .i64 yk)) := fun v hv =>
      have lb : bm < w.heap.size := World.block_lt_of_cell? _ _ c0
      have lb2 : bn < w.heap.size := World.block_lt_of_cell? _ _ c2'
      have lb3 : bl < w.heap.size := World.block_lt_of_cell? _ _ YK0
      ⟨hv.cell hc (fun e => by have := hge _ e; omega), hv.cell m0 (fun e => by have := hge _ e; omega), hv.cell m1 (fun e => by have := hge _ e; omega), hv.cell YK (fun e => by have := hge _ e; omega)⟩
    have hm : Below A₂.heap.size A₂ A₂.drew := (Below.refl A₂.heap.size A₂).drew
    refine region_EC (fun v => v.cell? ⟨w.heap.size, 0, none⟩ = some (.slice a vs.length c) ∧ v.cell? ⟨bm, 0, none⟩ = some (.int .i64 p) ∧ v.cell? ⟨bn, 0, none⟩ = some (.slice (some ⟨bl, ol, none⟩) k c4) ∧ v.cell? ⟨bl, ol + x.k, none⟩ = some (.int .i64 yk)) 10 (wideF_round _ l _) (by kernel_rfl) (by kernel_rfl) (FF _ (Agr.new hm)) ?_
    intro hS1
    refine anyE_takeL 0 rfl (by kernel_rfl) (fun _ _ _ h => h) hS1 (by rfl) (v := ?_) ?_ ?_
    rotate_left
    · intro w' hSw; (try dsimp only at hSw); go_simp; (try with_reducible rfl)
    try simp only [Act.put, List.setIfInBounds_toArray, List.set_cons_zero, List.set_cons_succ]
    refine anyE_takeL 1 rfl (by kernel_rfl) (fun _ _ _ h => h) hS1 (by rfl) (v := ?_) ?_ ?_
    rotate_left
    · intro w' hSw; (try dsimp only at hSw); go_simp; (try with_reducible rfl)
    try simp only [Act.put, List.setIfInBounds_toArray, List.set_cons_zero, List.set_cons_succ]
    refine anyE_takeL 2 rfl (by kernel_rfl) (fun _ _ _ h => h) hS1 (by rfl) (v := ?_) ?_ ?_
    rotate_left
    · intro w' hSw; (try dsimp only at hSw); go_simp; (try with_reducible rfl)
    try simp only [Act.put, List.setIfInBounds_toArray, List.set_cons_zero, List.set_cons_succ]
    refine anyE_takeL 3 rfl (by kernel_rfl) (fun _ _ _ h => h) hS1 (by rfl) (v := ?_) ?_ ?_
    rotate_left
    · intro w' hSw; (try dsimp only at hSw); go_simp; (try with_reducible rfl)
    try simp only [Act.put, List.setIfInBounds_toArray, List.set_cons_zero, List.set_cons_succ]
    refine anyE_takeL 4 rfl (by kernel_rfl) (fun _ _ _ h => h) hS1 (by rfl) (v := ?_) ?_ ?_
    rotate_left
    · intro w' hSw; (try dsimp only at hSw); go_simp; (try with_reducible rfl)
    try simp only [Act.put, List.setIfInBounds_toArray, List.set_cons_zero, List.set_cons_succ]
    refine anyE_takeL 5 rfl (by kernel_rfl) (fun _ _ _ h => h) hS1 (by rfl) (v := ?_) ?_ ?_
    rotate_left
    · intro w' hSw; (try dsimp only at hSw); go_simp; (try with_reducible rfl)
    try simp only [Act.put, List.setIfInBounds_toArray, List.set_cons_zero, List.set_cons_succ]
    clear hS1
    obtain ⟨y0, hy0⟩ : ∃ u, u = A₂.drew := ⟨_, rfl⟩
    rw [← hy0] at hm ⊢
    clear hy0
    refine anyE_oneL 6 (by kernel_rfl) rfl (fun K hK => ?_)
    go_simp
    refine (degree_any x.f (x.k + 1) x.g _ (by have := hx12.out; omega)).mono ?_
    rintro e y0' ⟨rfl, rfl⟩
    dsimp only
    rw [show ((x.k + 1 : Nat) : Int) - 1 = (x.k : Int) by omega]
    refine hK.out _ _ (FF _ (Agr.new hm)) ?_
    clear hK K
    try simp only [Act.put, List.setIfInBounds_toArray, List.set_cons_zero, List.set_cons_succ]
    have S8 := FF _ (Agr.new hm)
    refine anyE_takeL 7 rfl (by kernel_rfl) (fun _ _ _ h => h) S8 (by rfl) (v := ?_) ?_ ?_
    rotate_left
    · intro w' hSw; (try dsimp only at hSw); go_simp; (try with_reducible rfl)
    try simp only [Act.put, List.setIfInBounds_toArray, List.set_cons_zero, List.set_cons_succ]
    refine anyE_takeL 8 rfl (by kernel_rfl) (fun _ _ _ h => h) S8 (by rfl) (v := ?_) ?_ ?_
    rotate_left
    · intro w' hSw; (try dsimp only at hSw); go_simp; (try with_reducible rfl)
    try simp only [Act.put, List.setIfInBounds_toArray, List.set_cons_zero, List.set_cons_succ]
    clear S8
    refine anyE_oneL 9 (by kernel_rfl) rfl (fun K hK => ?_)
    go_simp
    refine (addMultiple_any p yk a vs.length c vs x.f (x.k + 1) x.g (opL p xs x.k) _ (ho.sl.below hm) (sf.out.below hm) (by omega) (by have := hx12.out; omega) hp hp2 yk0 yk1 AV.out AO.out).mono ?_
    rintro e y1 ⟨ad', cap', rfl, hown2, tt⟩
    dsimp only
    have hm2 := bnext hm tt
    have gA : Agr (fun b => blk a ≠ some b) A₂ y1 := Agr.new hm2
    refine hK.out _ _ (FF _ gA) ?_
    clear hK K
    try simp only [Act.put, List.setIfInBounds_toArray, List.set_cons_zero, List.set_cons_succ]
    have S9 := (FF _ gA).1
    have fz9 : y1.frozen? ⟨w.heap.size, 0, none⟩ = false := gA.frozen hc fz (fun e => by have := hge _ e; omega)
    refine anyE_lastL (by kernel_rfl) rfl (by kernel_rfl) (fun K hK => ?_)
    go_simp
    refine hK.out _ _ ?_
    clear hK K
    try simp only [Act.put, List.setIfInBounds_toArray, List.set_cons_zero, List.set_cons_succ]
    have z9 := hm.size
    have z10 := hm2.size
    have I' := H'.out.put (S' := fun b => S b ∨ (A₂.heap.size ≤ b ∧ b < y1.heap.size)) (a' := ad') (c' := cap') (m' := (addM p vs (opL p xs x.k) yk).length) x ⟨_, hc⟩ gA hge (by rw [hVn.out]; exact hown2.mono (by omega)) (by rw [hVn.out]) (fun g hg => by
      have lg := own_ltO hown2 g hg
      have l2 := own_blk_ge hown2 g hg
      exact .inr ⟨by omega, lg⟩)
    try simp only [onlyN]
    try gi_wp2
    refine ⟨(gA.mono fun b _ hb e => hb.2 (hSa b e)).trans (Agr.setCell _ _ (fun h' => by have := h'.1; simp at this; omega)), _, fun b hb => ?_, fun b hb => ?_, I'⟩
    · rcases hb with hb | hb
      · exact .inl hb
      · exact .inr (by omega)
    · rcases hb with hb | hb
      · have := (hS b hb).2; simp; omega
      · simpa using hb.2
  case done =>
    intro D pre S A hD h hF hK
    obtain ⟨hpl, hTT, _, _⟩ := hF
    obtain ⟨a, c, hc, ho, hSa⟩ := h.acc
    rw [hpl] at hc ho
    have hB := h.below
    have lD : D < A.heap.size := (Array.getElem?_eq_some_iff.1 hK).1
    obtain ⟨vs, hvs⟩ : ∃ vs, soeL p xs ys k = vs := ⟨_, rfl⟩
    rw [hvs] at hc ho
    have Hvs := hide hvs
    clear hvs
    have hge := own_blk_ge ho
    have nD : ∀ cs t f, (Obj.deferred (some [])) ≠ .cells cs t f := fun cs t f e => by cases e
    have o1 : Own w.heap.size (A.putObj D (.deferred none)) a c vs := (ho.putLoop hK nD _).mono (by omega)
    have hB2 : Below w.heap.size w (A.putObj D (.deferred none)) := hB.trans ((Below.refl _ _).grown (grownBy_putObj' A D (.deferred none)) (by have := hB.size; omega) (fun r e => by cases e; omega))
    clear h hSa hpl
    gi_wp2
    refine ⟨by simp, .inl ⟨_, _, rfl, run_takeDeferred hK, ?_⟩⟩
    exact ⟨.slice a vs.length c, by simp [results, Tryd.results71, go_sem], hB2, .inl ⟨a, c, by rw [Hvs.out], hTT, by rw [Hvs.out]; exact o1⟩⟩
  case panic =>
    intro D pre S A hD hR h hK
    gi_wp2
    exact ⟨by simp, .inl ⟨_, _, rfl, run_takeDeferred hK, ⟨h.below.trans ((Below.refl _ _).grown (grownBy_putObj' A D (.deferred none)) (by have := h.below.size; omega) (fun r e => by cases e; omega)), .inr ⟨rfl, hR⟩⟩⟩⟩
set_option maxRecDepth 100000 in
set_option maxHeartbeats 1600000 in
theorem implSumOfExpansion (p : Int) (a2 : Option Addr) (n2 c2 : Nat) (xs : List Int) (a4 : Option Addr) (k c4 : Nat) (ys : List Int) (ae : Addr) (w : World) (he : ErrV w ae) (h2 : SL w a2 n2 c2 xs) (h4 : SL w a4 k c4 ys) (hn : n2 ≤ 4000000) (hk : k ≤ 4000000) :
    Calls Tryd.prog 34 #[mom p a2 n2 c2, .slice a4 k c4] w (Res1 w (soeV p xs ys) (soeC p xs ys)) := by
  have hb0 := bl2 w (.cells #[.int .i64 p, .slice a2 n2 c2] 30) (.cells #[.slice a4 k c4] 22)
  have hl2 := hide h2.len
  have hl4 := hide h4.len
  replace h2 := h2.below hb0
  replace h4 := h4.below hb0
  replace he := he.below hb0
  cases hm : momB p xs
  · have HC := hide (show soeC p xs ys = 1 by unfold soeC; rw [hm]; rfl)
    have HE := hide (show soeV p xs ys = [] by unfold soeV; rw [HC.out]; rfl)
    replace hm := hide hm
    go_enter Tryd.func34, Tryd.ntmps34
    go_wp2_with fail
    refine (areMoments_any p _ _ _ xs _ h2 hn).mono ?_
    rintro e w1 ⟨rfl, hb1⟩
    rw [hm.out]
    have hB1 := bnext hb0 hb1
    clear hb1
    go_wp2
    go_ret2
    exact Res1.nil HE.out HC.out hB1
  obtain ⟨hP, q1, q2, hx⟩ := momB_rng hm
  rw [hl2.out] at q2
  have Hm := hide hm
  go_enter Tryd.func34, Tryd.ntmps34
  go_wp2_with fail
  refine (areMoments_any p _ _ _ xs _ h2 hn).mono ?_
  rintro e w1 ⟨rfl, hb1⟩
  rw [Hm.out]
  have m0 : w1.cell? ⟨w.heap.size, 0, none⟩ = some (.int .i64 p) := cell_be hb1 (by simp [go_sem])
  have m1 : w1.cell? ⟨w.heap.size, 1, none⟩ = some (.slice a2 n2 c2) := cell_be hb1 (by simp [go_sem])
  have m2 : w1.cell? ⟨w.heap.size + 1, 0, none⟩ = some (.slice a4 k c4) := cell_be hb1 (by simp [go_sem])
  have hB1 := bnext hb0 hb1
  replace h2 := h2.below hb1
  replace h4 := h4.below hb1
  replace he := he.below hb1
  have z1 := hb1.size
  simp at z1
  clear hb1
  by_cases hk12 : k ≤ 12
  rotate_left
  · have HC := hide (show soeC p xs ys = 2 by unfold soeC; rw [if_pos hm, if_neg (by rw [hl4.out]; omega)])
    have HE := hide (show soeV p xs ys = [] by unfold soeV; rw [HC.out]; rfl)
    have hg : (12 : Int) < (k : Int) := by omega
    clear hm hk12
    go_wp2
    go_ret2
    exact Res1.nil HE.out HC.out hB1
  have hg : ¬ (12 : Int) < (k : Int) := by omega
  cases hy : areB p ys
  · have HC := hide (show soeC p xs ys = 2 by unfold soeC; rw [if_pos hm, if_neg (by rw [hy]; simp)])
    have HE := hide (show soeV p xs ys = [] by unfold soeV; rw [HC.out]; rfl)
    have Hy := hide hy
    clear hm hy
    go_wp2_with fail
    refine (areNumbers_any p _ _ _ ys _ h4 (by omega)).mono ?_
    rintro e w2 ⟨rfl, rfl⟩
    rw [Hy.out]
    go_wp2
    go_ret2
    exact Res1.nil HE.out HC.out hB1
  have Hy := hide hy
  have hreg := hide (reg_TL hP hx (by rw [hl2.out]; exact q2) (k - 1))
  have HG := hide (show TL p xs (k - 1) → soeC p xs ys = 0 by intro h; unfold soeC; rw [if_pos hm, if_pos ⟨by rw [hl4.out]; exact hk12, hy⟩, hl4.out, if_pos (hreg.out.2 h)])
  have HBd := hide (show ¬ TL p xs (k - 1) → soeC p xs ys = 5 by intro h; unfold soeC; rw [if_pos hm, if_pos ⟨by rw [hl4.out]; exact hk12, hy⟩, hl4.out, if_neg (fun h' => h (hreg.out.1 h'))])
  have hent : EnterF 71 := fun args w => by kernel_rfl
  have hsm := hide (soeL_small (primeB_lo hP).1 xs ys k (by omega)).2
  clear hm q1
  go_wp2_with fail
  refine (areNumbers_any p _ _ _ ys _ h4 (by omega)).mono ?_
  rintro e w2 ⟨rfl, rfl⟩
  rw [Hy.out]
  go_wp2_with fail
  refine (doorS 71 #[.pointer (some ⟨w.heap.size, 0, none⟩), .pointer (some ⟨w.heap.size + 1, 0, none⟩)] ae _ (¬ TL p xs (k - 1)) (fun v W => ∃ f g, v = .slice f (soeL p xs ys k).length g ∧ TL p xs (k - 1) ∧ Own (w1.heap.size + 1) W f g (soeL p xs ys k)) hent ?_ ?_).mono ?_
  · rintro v W W' ⟨f, g, rfl, hT, of⟩ hA
    exact ⟨f, g, rfl, hT, of.agr hA (fun g hg => of.low g hg)⟩
  · intro W hW hz
    refine (soeWork p a2 n2 c2 xs a4 k c4 ys w.heap.size (w.heap.size + 1) ae W ⟨cell_be hW m0, cell_be hW m1, cell_be hW m2, he.below hW, h2.below hW⟩ (h4.below hW) hP hx hy q2 hk12).mono ?_
    rintro e w' ⟨hb, (⟨f, g, rfl, hT, of⟩ | ⟨rfl, hno⟩)⟩
    · exact ⟨hb, .inl ⟨f, _, g, rfl, f, g, rfl, hT, of.mono hz⟩⟩
    · exact ⟨hb, .inr ⟨rfl, hno⟩⟩
  rintro e w2 ⟨hb2', (⟨a', n', c', hee, f, g, hv, hT, of⟩ | ⟨rfl, hno⟩)⟩
  · rw [hv] at hee
    subst hee
    clear hv
    have HC := hide (HG.out hT)
    have HO := hide (show soeV p xs ys = soeL p xs ys k by unfold soeV; rw [HC.out, if_pos rfl, hl4.out])
    have hB2 := bnext hB1 hb2'
    clear hb2' m0 m1 m2
    go_wp2
    go_ret2
    exact Res1.own HC.out (by rw [HO.out]) (by rw [HO.out]; exact of.mono (by omega)) (by rw [HO.out]; have := hsm.out; omega) hB2
  · have HC := hide (HBd.out hno)
    have HE := hide (show soeV p xs ys = [] by unfold soeV; rw [HC.out]; rfl)
    have hB2 := bnext hB1 hb2'
    clear hb2' m0 m1 m2
    go_wp2
    go_ret2
    exact Res1.nil HE.out HC.out hB2
end Go.Proofs.YtdjifjlgllohmaaDoor
/- Contract: l04Polys of the model: P(0) to P(n), each in a block of its own. -/
namespace Go.Proofs.YtdjifjlgllohmaaDoor
open Go.RowKit
set_option linter.unusedVariables false
set_option linter.unusedSimpArgs false

/-- The last norm that was met before P(t). -/
def lsN (p : Int) (xs : List Int) (t : Nat) : Int := if t = 0 then 1 else opH p xs (t - 1)
theorem lsN_rng {p : Int} (hp : 2 ≤ p) (xs : List Int) (t : Nat) : 0 ≤ lsN p xs t ∧ lsN p xs t < p := by
  unfold lsN
  split
  · omega
  · exact opH_rng hp xs _
theorem lsN_next (p : Int) (xs : List Int) (t : Nat) : lsN p xs (t + 1) = opH p xs t := by simp [lsN]
theorem opB_ls {p : Int} (hp : primeB p = true) {xs : List Int} {t : Nat} (h : Told p xs t) : opB p xs t = opH p xs t * invM p (lsN p xs t) % p := by
  unfold opB nxB lsN
  cases t with
  | zero => rfl
  | succ t => rw [if_neg (by omega), prB_norm hp xs t h]; rfl
theorem own_sq {p : Int} (hp : primeB p = true) (xs : List Int) {k : Nat} (hk : k ≤ 24) : trimL (mulM p (opL p xs k) (opL p xs k)) = mulM p (opL p xs k) (opL p xs k) :=
  mulM_trim hp (opL_small (primeB_lo hp).1 xs k hk).1 (opL_small (primeB_lo hp).1 xs k hk).1
theorem neg_mul_mod (p x y : Int) : (-x * y) % p = opp p (x * y % p) := by
  rw [Int.neg_mul, opp_neg]
  unfold opp
  rw [show p - x * y % p = (p - x * y) + p * (x * y / p) by rw [Int.emod_def]; generalize p * (x * y / p) = z; omega, Int.add_mul_emod_self_left]
set_option maxRecDepth 100000 in
set_option maxHeartbeats 3200000 in
theorem l04Polys_any (p : Int) (a2 : Option Addr) (n2 c2 : Nat) (xs : List Int) (n : Nat) (w : World) (h2 : SL w a2 n2 c2 xs) (hM : momB p xs = true) (hn : 2 * n ≤ n2) (hT : Told p xs n) :
    Calls Tryd.prog 43 #[mom p a2 n2 c2, .int .i64 n] w fun e w' => ∃ (a' : Option Addr) (c' : Nat) (vs : List Value) (RA : Nat → Option Addr) (RC : Nat → Nat),
      e = .returned (.slice a' (n + 1) c') ∧ vs.length = n + 1 ∧ OwnV w.heap.size w' a' c' vs ∧ KeptQ w.heap.size w' a' vs (opL p xs) RA RC (n + 1) ∧ Below w.heap.size w w' := by
  have hb0 := bl1 w (.cells #[.int .i64 p, .slice a2 n2 c2] 30)
  have hl := h2.len
  obtain ⟨hP, m1', m2', hx⟩ := momB_rng hM
  obtain ⟨hp, hp2⟩ := primeB_lo hP
  have hp0 : ¬ p = 0 := by omega
  rw [hl] at m1' m2'
  replace hP := hide hP
  have HX := hide hx
  replace hM := hide hM
  replace hl := hide hl
  replace hT := hide hT
  clear hx
  go_enter Tryd.func43, Tryd.ntmps43
  go_upto_region 1 with fail
  generalize hwx : w.alloc (.cells #[.int .i64 p, .slice a2 n2 c2] 30) = wx at *
  have m0 : wx.cell? ⟨w.heap.size, 0, none⟩ = some (.int .i64 p) := by rw [← hwx]; simp [go_sem]
  have m1 : wx.cell? ⟨w.heap.size, 1, none⟩ = some (.slice a2 n2 c2) := by rw [← hwx]; simp [go_sem]
  clear hwx
  have zw : w.heap.size < wx.heap.size := World.block_lt_of_cell? _ _ m0
  have hm := (Below.refl wx.heap.size wx).drew
  have FF : ∀ w', Below wx.heap.size wx w' → w'.cell? ⟨w.heap.size, 0, none⟩ = some (.int .i64 p) ∧ w'.cell? ⟨w.heap.size, 1, none⟩ = some (.slice a2 n2 c2) := fun w' hb => ⟨cell_be hb m0, cell_be hb m1⟩
  refine region_E (fun w' => w'.cell? ⟨w.heap.size, 0, none⟩ = some (.int .i64 p) ∧ w'.cell? ⟨w.heap.size, 1, none⟩ = some (.slice a2 n2 c2)) 99 (by kernel_rfl) (FF _ hm) ?_
  intro hS
  refine anyE_takeH 2 rfl (by kernel_rfl) (fun _ _ _ h => h) hS (by rfl) (v := ?_) ?_ ?_
  rotate_left
  · intro w' hSw; (try dsimp only at hSw); go_simp; (try with_reducible rfl)
  try simp only [Act.put, List.setIfInBounds_toArray, List.set_cons_zero, List.set_cons_succ]
  refine anyE_takeH 3 rfl (by kernel_rfl) (fun _ _ _ h => h) hS (by rfl) (v := ?_) ?_ ?_
  rotate_left
  · intro w' hSw; (try dsimp only at hSw); go_simp; (try with_reducible rfl)
  try simp only [Act.put, List.setIfInBounds_toArray, List.set_cons_zero, List.set_cons_succ]
  clear hS
  obtain ⟨u0, hu0⟩ : ∃ u, u = wx.drew := ⟨_, rfl⟩
  rw [← hu0] at hm ⊢
  clear hu0
  refine anyE_oneL 0 (by kernel_rfl) rfl (fun K' hK' => ?_)
  go_simp
  have l1 := bl1 u0 (.cells #[.int .i64 1] 2)
  have HO1 := litOwn u0 _ (Nat.le_refl _) 1
  have Hz1 : u0.heap.size + 1 ≤ (u0.alloc (.cells #[.int .i64 1] 2)).heap.size := by simp
  generalize (u0.alloc (.cells #[.int .i64 1] 2)) = u1 at *
  have hz0 := hm.size
  replace hm := bnext hm l1
  refine hK'.out _ _ (FF _ hm) ?_
  clear hK' K'
  try simp only [Act.put, List.setIfInBounds_toArray, List.set_cons_zero, List.set_cons_succ]
  refine anyE_oneL 1 (by kernel_rfl) rfl (fun K' hK' => ?_)
  go_simp
  have l2 := bl1 u1 (.cells #[.slice (some ⟨u0.heap.size, 0, none⟩) 1 1] 22)
  have HV : Hid (OwnV (w.heap.size + 1) (u1.alloc (.cells #[.slice (some ⟨u0.heap.size, 0, none⟩) 1 1] 22)) (some ⟨u1.heap.size, 0, none⟩) 1 [.slice (some ⟨u0.heap.size, 0, none⟩) 1 1]) := hide (World.ownsRow_lit u1 (base := w.heap.size + 1) (e := 22) (size := 1) #[.slice (some ⟨u0.heap.size, 0, none⟩) 1 1] 1 (by omega) (by decide) rfl)
  have Hz2 : u1.heap.size + 1 ≤ (u1.alloc (.cells #[.slice (some ⟨u0.heap.size, 0, none⟩) 1 1] 22)).heap.size := by simp
  generalize (u1.alloc (.cells #[.slice (some ⟨u0.heap.size, 0, none⟩) 1 1] 22)) = u2 at *
  have hm1 := hm
  replace hm := bnext hm l2
  refine hK'.out _ _ (FF _ hm) ?_
  clear hK' K'
  try simp only [Act.put, List.setIfInBounds_toArray, List.set_cons_zero, List.set_cons_succ]
  refine anyE_oneL 4 (by kernel_rfl) rfl (fun K' hK' => ?_)
  go_simp
  refine hK'.out _ _ (FF _ hm) ?_
  clear hK' K'
  try simp only [Act.put, List.setIfInBounds_toArray, List.set_cons_zero, List.set_cons_succ]
  refine anyE_oneL 5 (by kernel_rfl) rfl (fun K' hK' => ?_)
  go_simp
  refine hK'.out _ _ (FF _ hm) ?_
  clear hK' K'
  refine anyE_doneL (by kernel_rfl) ?_
  have HK : Hid (KeptQ w.heap.size u2 (some ⟨u1.heap.size, 0, none⟩) [.slice (some ⟨u0.heap.size, 0, none⟩) 1 1] (opL p xs) (fun _ => some ⟨u0.heap.size, 0, none⟩) (fun _ => 1) 1) := hide (by
    refine ⟨fun j hj => ?_, fun j hj => ?_, fun j hj q hq => ?_, fun x y hxy hy => by omega⟩
    · obtain rfl : j = 0 := by omega
      rfl
    · obtain rfl : j = 0 := by omega
      exact (HO1.mono (by omega)).below l2
    · have hq' : u0.heap.size = q := by simpa [blk] using hq
      intro e
      have e' : u1.heap.size = q := by simpa [blk] using e
      omega)
  have HB := hide (hb0.trans (hm.mono hb0.size))
  obtain ⟨f0, f1⟩ := FF _ hm
  have HF := hide (And.intro f0 f1)
  have Zt : w.heap.size + 1 ≤ u2.heap.size := by have := hm.size; omega
  clear zw f0 f1 hm hm1 hz0 Hz1 Hz2 l1 l2 HO1 FF m0 m1 hb0
  generalize (some (⟨u1.heap.size, 0, none⟩ : Addr)) = ad0 at *
  generalize (some (⟨u0.heap.size, 0, none⟩ : Addr)) = ad1 at *
  go_wp2
  go_loopw [5, 7, 8] (fun sv lv iv wr => ∃ (t : Nat) (a' : Option Addr) (c' : Nat) (vs : List Value) (RA : Nat → Option Addr) (RC : Nat → Nat), t ≤ n ∧ iv = .int .i64 t ∧ lv = .int .i64 (lsN p xs t) ∧ sv = .slice a' (t + 1) c' ∧ Hid (vs.length = t + 1) ∧ Hid (OwnV (w.heap.size + 1) wr a' c' vs) ∧ Hid (KeptQ w.heap.size wr a' vs (opL p xs) RA RC (t + 1)) ∧ Hid (Below w.heap.size w wr) ∧ Hid (wr.cell? ⟨w.heap.size, 0, none⟩ = some (.int .i64 p) ∧ wr.cell? ⟨w.heap.size, 1, none⟩ = some (.slice a2 n2 c2)) ∧ w.heap.size + 1 ≤ wr.heap.size) (fun _ _ iv _ => n - (intOf iv).toNat)
  case atStart => exact ⟨0, _, _, _, _, _, by omega, rfl, rfl, rfl, hide rfl, HV, HK, HB, HF, Zt⟩
  case round =>
    obtain ⟨t, a', c', vs, RA, RC, ht, rfl, rfl, rfl, hvl, hO, hK, hW, hF, hz⟩ := hrel
    clear HV HK HB HF Zt
    by_cases hlt : t < n
    · have hlt' : (t : Int) < (n : Int) := by omega
      have q0 : (0 : Int) ≤ (t : Int) := by omega
      have q1 : (t : Int) < (t : Int) + 1 := by omega
      have t24 : t ≤ 24 := by omega
      obtain ⟨G, rfl, hcG⟩ := hO.out.at (by rw [hvl.out]; omega)
      have ec := hcG t (by rw [hvl.out]; omega)
      rw [hK.out.1 t (by omega)] at ec
      have ep : 1 ≤ t → wr.cell? ⟨G, t - 1, none⟩ = some (.slice (RA (t - 1)) (opL p xs (t - 1)).length (RC (t - 1))) := fun h => by
        rw [hcG (t - 1) (by rw [hvl.out]; omega)]
        exact hK.out.1 (t - 1) (by omega)
      have sO := (hK.out.2.1 t (by omega)).sl
      have sP : 1 ≤ t → SL wr (RA (t - 1)) (opL p xs (t - 1)).length (RC (t - 1)) (opL p xs (t - 1)) := fun h => (hK.out.2.1 (t - 1) (by omega)).sl
      have LO := (opL_len hp xs t t24).1
      have LP : (opL p xs (t - 1)).length ≤ 25 := by rw [(opL_len hp xs (t - 1) (by omega)).1]; omega
      have SO := opL_small hp xs t t24
      have SP := hide (opL_small hp xs (t - 1) (by omega))
      have AO := hide SO.are
      have QO := hide (own_sq hP.out xs t24)
      have h1r := hide (show 0 ≤ nrI p (opL p xs t) xs 1 ∧ nrI p (opL p xs t) xs 1 < p from dotK_rng hp _ _ _ _)
      have h0r := opH_rng hp xs t
      have lr := lsN_rng hp xs t
      have HB := hide (opB_ls hP.out (fun j hj => hT.out j (by omega) : Told p xs t))
      have HA := hide (show opA p xs t = nrI p (opL p xs t) xs 1 * invM p (opH p xs t) % p from rfl)
      have HN := hide (opL_next p xs t)
      have ir := powM_rng (p := p) (x := opH p xs t) (k := p - 2) hp
      have ir2 : 0 ≤ invM p (opH p xs t) ∧ invM p (opH p xs t) < p := ir
      have jr := powM_rng (p := p) (x := lsN p xs t) (k := p - 2) hp
      have jr2 : 0 ≤ invM p (lsN p xs t) ∧ invM p (lsN p xs t) < p := jr
      have lsx := hide (lsN_next p xs t)
      have TR := hide (stp_trim hP.out (opA p xs t) SO)
      have LM : (mulM p (linM p (opA p xs t)) (opL p xs t)).length ≤ 26 := by have := lin_len p (opA p xs t) (opL p xs t); omega
      have CM := hide (mulM_comm hp (opL p xs t) (linM p (opA p xs t)))
      have arng : 0 ≤ opA p xs t ∧ opA p xs t < p := modb hp
      have LAp := hide (linM_poly (a := opA p xs t) hp)
      obtain ⟨H, hH⟩ : ∃ H, H = opH p xs t := ⟨_, rfl⟩
      obtain ⟨H1, hH1⟩ : ∃ H1, H1 = nrI p (opL p xs t) xs 1 := ⟨_, rfl⟩
      obtain ⟨V, hV⟩ : ∃ V, V = invM p H := ⟨_, rfl⟩
      obtain ⟨A, hA⟩ : ∃ A, A = opA p xs t := ⟨_, rfl⟩
      obtain ⟨f, hf⟩ : ∃ f, f = opL p xs t := ⟨_, rfl⟩
      obtain ⟨g, hg⟩ : ∃ g, g = opL p xs (t - 1) := ⟨_, rfl⟩
      obtain ⟨L, hL⟩ : ∃ L, L = lsN p xs t := ⟨_, rfl⟩
      obtain ⟨V2, hV2⟩ : ∃ V2, V2 = invM p L := ⟨_, rfl⟩
      rw [← hH] at h0r HB HA ir2 lsx
      rw [← hV] at HA ir2
      rw [← hf] at ec sO LO QO AO HA HN TR LM CM h1r hH1
      rw [← hH1] at h1r HA
      rw [← hA] at HA HN TR LM CM arng LAp
      rw [← hg] at ep sP LP SP
      rw [← hL] at lr HB jr2
      rw [← hV2] at HB jr2
      clear ir jr SO hcG
      obtain ⟨h1a, h1b⟩ := h1r.out
      obtain ⟨h0a, h0b⟩ := h0r
      obtain ⟨ir3, ir4⟩ := ir2
      obtain ⟨jr3, jr4⟩ := jr2
      obtain ⟨lr3, lr4⟩ := lr
      obtain ⟨ar3, ar4⟩ := arng
      obtain ⟨x1, x2⟩ := mulb h1a h1b ir3 ir4 hp2
      obtain ⟨y1, y2⟩ := mulb h0a h0b jr3 jr4 hp2
      have em : (H1 * V).tmod p = A := by rw [Int.tmod_eq_emod_of_nonneg x1]; exact HA.out.symm
      have v1 : IntKind.i64.wrap (H1 * V) = H1 * V := IntWalk.i64_in _ (by omega)
      have v2 : IntKind.i64.wrap (-A) = -A := IntWalk.i64_in _ (by omega)
      have v3 : IntKind.i64.wrap (-H) = -H := IntWalk.i64_in _ (by omega)
      have w3 : -H * V2 = -(H * V2) := Int.neg_mul _ _
      have v4 : IntKind.i64.wrap (-H * V2) = -H * V2 := IntWalk.i64_in _ (by omega)
      have v5 : IntKind.i64.wrap ((t : Int) + 1) = (t : Int) + 1 := IntWalk.i64_in _ (by omega)
      have oA := hide (opp_neg p A)
      have oB := hide (show (-H * V2) % p = opp p (opB p xs t) by rw [neg_mul_mod, HB.out])
      have orng := opp_rng (p := p) (x := opB p xs t) hp
      have HH0 := hide (show opH p xs t = nrI p (opL p xs t) xs 0 from rfl)
      rw [← hf, ← hH] at HH0
      rw [LO] at ec sO
      replace LO := hide LO
      replace hH := hide hH
      replace hH1 := hide hH1
      replace hV := hide hV
      replace hA := hide hA
      replace hf := hide hf
      replace hg := hide hg
      replace hL := hide hL
      replace hV2 := hide hV2
      replace em := hide em
      have z3 : -100140049 ≤ -H * V2 := by omega
      have z4 : -H * V2 ≤ 0 := by omega
      clear w3 h1r
      have zw := hW.out.size
      obtain ⟨f0, f1⟩ := hF.out
      have s2 := h2.below hW.out
      have hbw := Below.refl wr.heap.size wr
      have emm := em.out
      clear em
      go_wp2_with fail
      refine (l04Norm_any p _ _ _ xs _ _ _ f 0 _ _ s2 sO (by omega) (by omega) (by omega) rfl (by omega) hp hp2 AO.out HX.out QO.out).mono ?_
      rintro e u1 ⟨rfl, t1⟩
      rw [← HH0.out]
      replace f0 := cell_be t1 f0
      replace f1 := cell_be t1 f1
      go_wp2_with fail
      refine (l01Inverse_any p H _ hp hp2 h0a h0b).mono ?_
      rintro e u1' ⟨rfl, rfl⟩
      rw [← hV.out]
      go_wp2_with fail
      refine (l04Norm_any p _ _ _ xs _ _ _ f 1 _ _ (s2.below t1) (sO.below t1) (by omega) (by omega) (by omega) rfl (by omega) hp hp2 AO.out HX.out QO.out).mono ?_
      rintro e u3 ⟨rfl, t2⟩
      rw [← hH1.out]
      have b3 := bnext t1 t2
      replace f0 := cell_be t2 f0
      replace f1 := cell_be t2 f1
      clear t1 t2
      go_wp2_with fail
      refine (l01Mod_any p (-A) _ hp hp2 (by omega) (by omega)).mono ?_
      rintro e u3' ⟨rfl, rfl⟩
      rw [oA.out]
      have l4 := bl1 u3 (.cells #[.int .i64 (opp p A), .int .i64 1] 2)
      have k4 := litSL2 u3 (opp p A) 1
      go_wp2_with fail
      refine (l01Trim_any _ _ _ _ [opp p A, 1] _ k4 (by omega)).mono ?_
      rintro e u5 ⟨a5, c5, rfl, o5, t5⟩
      have b5 := bnext (bnext b3 l4) t5
      rw [show trimL [opp p A, 1] = linM p A from trimL_self (by simp)] at o5 ⊢
      replace f0 := cell_be t5 (cell_be l4 f0)
      replace f1 := cell_be t5 (cell_be l4 f1)
      clear k4 t5 l4 b3
      go_wp2_with fail
      refine (l01Times_any p _ _ _ f _ _ _ (linM p A) _ (sO.below b5) o5.sl (by omega) (by simp [linM]) hp hp2 AO.out (polyB_rng LAp.out).2.1).mono ?_
      rintro e u6 ⟨a6, c6, rfl, o6, t6⟩
      rw [CM.out, TR.out] at o6 ⊢
      have b6 := bnext b5 t6
      have g6 := b5.size
      replace f0 := cell_be t6 f0
      replace f1 := cell_be t6 f1
      have o6' : Own wr.heap.size u6 a6 c6 (mulM p (linM p A) f) := o6.mono g6
      clear o6 o5 t6 g6
      by_cases h0t : t = 0
      · have hgt : ¬ (0 : Int) < (t : Int) := by omega
        replace h0t := hide h0t
        have hba := bl1 u6 (.cells #[.slice a6 (mulM p (linM p A) f).length c6] 22)
        have hcl : (u6.alloc (.cells #[.slice a6 (mulM p (linM p A) f).length c6] 22)).cell? ⟨u6.heap.size, 0, none⟩ = some (.slice a6 (mulM p (linM p A) f).length c6) := by simp [go_sem]
        have HZa := hide (show (u6.alloc (.cells #[.slice a6 (mulM p (linM p A) f).length c6] 22)).heap.size = u6.heap.size + 1 by simp)
        have hOa := hide ((hO.out.below b6).below hba)
        have hblt := hide (OwnV.blkLtQ hO.out)
        have zn := (b6).size
        have nxt : Hid (mulM p (linM p A) f = opL p xs (t + 1)) := hide (by
          rw [HN.out]
          rw [if_pos h0t.out]; exact (addM_nil TR.out).symm)
        go_wp2_with (at_builtin; refine wp_appVQ rfl _ _ rfl (w.heap.size + 1) _ _ _ vs rfl hvl.out.symm hOa.out _ _ _ rfl hcl rfl (by omega) (by have := HZa.out; omega) ?_; intro ad' cap' w' hown' hgr hloc)
        have hvl2 := hide (show (vs ++ [Value.slice a6 (mulM p (linM p A) f).length c6]).length = t + 1 + 1 by rw [List.length_append, hvl.out]; rfl)
        have hW3 := hW.out.trans ((b6).mono zw)
        have hbg := OwnV.blkG hOa.out
        have hW2 : Hid (Below w.heap.size w w') := hide ((hW3.trans (hba.mono hW3.size)).grown hgr (by have := HZa.out; omega) (fun k e => by have := hbg k e; omega))
        have hK2 : Hid (KeptQ w.heap.size w' ad' (vs ++ [Value.slice a6 (mulM p (linM p A) f).length c6]) (opL p xs) (fun j => if j = t + 1 then a6 else RA j) (fun j => if j = t + 1 then c6 else RC j) (t + 1 + 1)) := hide (by
          have k := hK.out.push (X := opL p xs) (a3 := a6) (c3 := c6) (ad' := ad') (w' := w') hvl.out hblt.out zw b6 (by rw [← nxt.out]; exact o6') hba (by have := HZa.out; omega) hgr hloc
          rw [← nxt.out] at k
          exact k)
        have hGw : (some G : Option Nat) ≠ some w.heap.size := fun e => by
          have := hbg G rfl
          simp only [Option.some.injEq] at e
          omega
        have hF2 := hide (And.intro (cell_ne hgr (cell_be hba f0) hGw) (cell_ne hgr (cell_be hba f1) hGw))
        have hzn : w.heap.size + 1 ≤ w'.heap.size := by have := hgr.size; have := HZa.out; omega
        have Hown := hide hown'
        clear hown' hgr hloc hOa hO hK hblt hcl hba f0 f1 hW3 hbg
        go_roundw
        case rel => exact ⟨t + 1, ad', cap', _, _, _, by omega, by go_num, by rw [lsx.out], by rw [hvl.out], hvl2, Hown, hK2, hW2, hF2, hzn⟩
        case measure => simp [intOf]; omega
      · have hgt : (0 : Int) < (t : Int) := by omega
        have q2 : (0 : Int) ≤ (t : Int) - 1 := by omega
        have q5 : (1 : Int) ≤ (t : Int) := by omega
        have q6 : 1 ≤ t := by omega
        have q3 : (t : Int) - 1 < (t : Int) + 1 := by omega
        have q4 : ((t : Int) - 1).toNat = t - 1 := by omega
        have v6 : IntKind.i64.wrap ((t : Int) - 1) = (t : Int) - 1 := IntWalk.i64_in _ (by omega)
        have hm := b6.drew
        have FG : ∀ w', Below wr.heap.size wr w' → w'.cell? ⟨G, t - 1, none⟩ = some (.slice (RA (t - 1)) g.length (RC (t - 1))) := fun w' hb => cell_be hb (ep (by omega))
        have sP' := sP (by omega)
        have AG := hide SP.out.are
        have fd := And.intro f0 f1
        obtain ⟨u7, hu7⟩ : ∃ u, u = u6.drew := ⟨_, rfl⟩
        have o7 : Own wr.heap.size u7 a6 c6 (mulM p (linM p A) f) := by rw [hu7]; exact o6'.below (Below.refl _ _).drew
        have e0 : u7.cell? ⟨w.heap.size, 0, none⟩ = some (.int .i64 p) := by rw [hu7]; exact cell_be (Below.refl _ _).drew f0
        have e1 : u7.cell? ⟨w.heap.size, 1, none⟩ = some (.slice a2 n2 c2) := by rw [hu7]; exact cell_be (Below.refl _ _).drew f1
        go_upto_region 12 with fail
        refine region_E (fun w' => w'.cell? ⟨G, t - 1, none⟩ = some (.slice (RA (t - 1)) g.length (RC (t - 1)))) 99 (by kernel_rfl) (FG _ hm) ?_
        intro hS
        refine anyE_takeH 0 rfl (by kernel_rfl) (fun _ _ _ h => h) hS (by rfl) (v := ?_) ?_ ?_
        rotate_left
        · intro w' hSw; (try dsimp only at hSw); go_simp; (try with_reducible rfl)
        try simp only [Act.put, List.setIfInBounds_toArray, List.set_cons_zero, List.set_cons_succ]
        refine anyE_takeH 1 rfl (by kernel_rfl) (fun _ _ _ h => h) hS (by rfl) (v := ?_) ?_ ?_
        rotate_left
        · intro w' hSw; (try dsimp only at hSw); go_simp; (try with_reducible rfl)
        try simp only [Act.put, List.setIfInBounds_toArray, List.set_cons_zero, List.set_cons_succ]
        refine anyE_takeH 2 rfl (by kernel_rfl) (fun _ _ _ h => h) hS (by rfl) (v := ?_) ?_ ?_
        rotate_left
        · intro w' hSw; (try dsimp only at hSw); go_simp; (try with_reducible rfl)
        try simp only [Act.put, List.setIfInBounds_toArray, List.set_cons_zero, List.set_cons_succ]
        refine anyE_takeH 3 rfl (by kernel_rfl) (fun _ _ _ h => h) hS (by rfl) (v := ?_) ?_ ?_
        rotate_left
        · intro w' hSw; (try dsimp only at hSw); go_simp; (try with_reducible rfl)
        try simp only [Act.put, List.setIfInBounds_toArray, List.set_cons_zero, List.set_cons_succ]
        refine anyE_takeH 4 rfl (by kernel_rfl) (fun _ _ _ h => h) hS (by rfl) (v := ?_) ?_ ?_
        rotate_left
        · intro w' hSw; (try dsimp only at hSw); go_simp; (try with_reducible rfl)
        try simp only [Act.put, List.setIfInBounds_toArray, List.set_cons_zero, List.set_cons_succ]
        refine anyE_takeH 5 rfl (by kernel_rfl) (fun _ _ _ h => h) hS (by rfl) (v := ?_) ?_ ?_
        rotate_left
        · intro w' hSw; (try dsimp only at hSw); go_simp; (try with_reducible rfl)
        try simp only [Act.put, List.setIfInBounds_toArray, List.set_cons_zero, List.set_cons_succ]
        refine anyE_takeH 6 rfl (by kernel_rfl) (fun _ _ _ h => h) hS (by rfl) (v := ?_) ?_ ?_
        rotate_left
        · intro w' hSw; (try dsimp only at hSw); go_simp; (try with_reducible rfl)
        try simp only [Act.put, List.setIfInBounds_toArray, List.set_cons_zero, List.set_cons_succ]
        refine anyE_takeH 7 rfl (by kernel_rfl) (fun _ _ _ h => h) hS (by rfl) (v := ?_) ?_ ?_
        rotate_left
        · intro w' hSw; (try dsimp only at hSw); go_simp; (try with_reducible rfl)
        try simp only [Act.put, List.setIfInBounds_toArray, List.set_cons_zero, List.set_cons_succ]
        refine anyE_takeH 8 rfl (by kernel_rfl) (fun _ _ _ h => h) hS (by rfl) (v := ?_) ?_ ?_
        rotate_left
        · intro w' hSw; (try dsimp only at hSw); go_simp; (try with_reducible rfl)
        try simp only [Act.put, List.setIfInBounds_toArray, List.set_cons_zero, List.set_cons_succ]
        refine anyE_takeH 9 rfl (by kernel_rfl) (fun _ _ _ h => h) hS (by rfl) (v := ?_) ?_ ?_
        rotate_left
        · intro w' hSw; (try dsimp only at hSw); go_simp; (try with_reducible rfl)
        try simp only [Act.put, List.setIfInBounds_toArray, List.set_cons_zero, List.set_cons_succ]
        refine anyE_takeH 10 rfl (by kernel_rfl) (fun _ _ _ h => h) hS (by rfl) (v := ?_) ?_ ?_
        rotate_left
        · intro w' hSw; (try dsimp only at hSw); go_simp; (try with_reducible rfl)
        try simp only [Act.put, List.setIfInBounds_toArray, List.set_cons_zero, List.set_cons_succ]
        refine anyE_takeH 11 rfl (by kernel_rfl) (fun _ _ _ h => h) hS (by rfl) (v := ?_) ?_ ?_
        rotate_left
        · intro w' hSw; (try dsimp only at hSw); go_simp; (try with_reducible rfl)
        try simp only [Act.put, List.setIfInBounds_toArray, List.set_cons_zero, List.set_cons_succ]
        clear hS
        rw [← hu7] at hm ⊢
        clear hu7
        refine anyE_oneL 12 (by kernel_rfl) rfl (fun K' hK' => ?_)
        go_simp
        refine (l01Inverse_any p (lsN p xs t) _ hp hp2 (by rw [← hL.out]; exact lr3) (by rw [← hL.out]; exact lr4)).mono ?_
        rintro e u7' ⟨rfl, rfl⟩
        dsimp only
        rw [← hL.out, ← hV2.out]
        refine hK'.out _ _ (FG _ hm) ?_
        clear hK' K'
        try simp only [Act.put, List.setIfInBounds_toArray, List.set_cons_zero, List.set_cons_succ]
        refine anyE_oneL 13 (by kernel_rfl) rfl (fun K' hK' => ?_)
        go_simp
        refine hK'.out _ _ (FG _ hm) ?_
        clear hK' K'
        try simp only [Act.put, List.setIfInBounds_toArray, List.set_cons_zero, List.set_cons_succ]
        refine anyE_oneL 14 (by kernel_rfl) rfl (fun K' hK' => ?_)
        go_simp
        refine (l01Mod_any p (-H * V2) _ hp hp2 (by omega) (by omega)).mono ?_
        rintro e u7' ⟨rfl, rfl⟩
        dsimp only
        rw [oB.out]
        refine hK'.out _ _ (FG _ hm) ?_
        clear hK' K'
        try simp only [Act.put, List.setIfInBounds_toArray, List.set_cons_zero, List.set_cons_succ]
        refine anyE_oneL 15 (by kernel_rfl) rfl (fun K' hK' => ?_)
        go_simp
        refine (l01Add_any p (opp p (opB p xs t)) _ _ _ (mulM p (linM p A) f) _ _ _ g _ o7.sl (sP'.below hm) (by omega) (by omega) hp hp2 orng.1 orng.2 (mulM_are hp) AG.out).mono ?_
        rintro e u8 ⟨a8, c8, rfl, o8, t8⟩
        dsimp only
        have hm8 := bnext hm t8
        refine hK'.out _ _ (FG _ hm8) ?_
        clear hK' K'
        try simp only [Act.put, List.setIfInBounds_toArray, List.set_cons_zero, List.set_cons_succ]
        refine anyE_oneL 16 (by kernel_rfl) rfl (fun K' hK' => ?_)
        go_simp
        refine hK'.out _ _ (FG _ hm8) ?_
        clear hK' K'
        refine anyE_doneL (by kernel_rfl) ?_
        have g8 := hm.size
        have o8' : Own wr.heap.size u8 a8 c8 (addM p (mulM p (linM p A) f) g (opp p (opB p xs t))) := o8.mono g8
        replace f0 := cell_be t8 e0
        replace f1 := cell_be t8 e1
        obtain ⟨N, hN⟩ : ∃ N, N = addM p (mulM p (linM p A) f) g (opp p (opB p xs t)) := ⟨_, rfl⟩
        rw [← hN] at o8' ⊢
        replace hN := hide hN
        clear o8 o7 hm t8 e0 e1 fd FG g8
        have hba := bl1 u8 (.cells #[.slice a8 (N).length c8] 22)
        have hcl : (u8.alloc (.cells #[.slice a8 (N).length c8] 22)).cell? ⟨u8.heap.size, 0, none⟩ = some (.slice a8 (N).length c8) := by simp [go_sem]
        have HZa := hide (show (u8.alloc (.cells #[.slice a8 (N).length c8] 22)).heap.size = u8.heap.size + 1 by simp)
        have hOa := hide ((hO.out.below hm8).below hba)
        have hblt := hide (OwnV.blkLtQ hO.out)
        have zn := (hm8).size
        have nxt : Hid (N = opL p xs (t + 1)) := hide (by
          rw [HN.out]
          rw [if_neg h0t, hN.out, hg.out]; rfl)
        go_wp2_with (at_builtin; refine wp_appVQ rfl _ _ rfl (w.heap.size + 1) _ _ _ vs rfl hvl.out.symm hOa.out _ _ _ rfl hcl rfl (by omega) (by have := HZa.out; omega) ?_; intro ad' cap' w' hown' hgr hloc)
        have hvl2 := hide (show (vs ++ [Value.slice a8 (N).length c8]).length = t + 1 + 1 by rw [List.length_append, hvl.out]; rfl)
        have hW3 := hW.out.trans ((hm8).mono zw)
        have hbg := OwnV.blkG hOa.out
        have hW2 : Hid (Below w.heap.size w w') := hide ((hW3.trans (hba.mono hW3.size)).grown hgr (by have := HZa.out; omega) (fun k e => by have := hbg k e; omega))
        have hK2 : Hid (KeptQ w.heap.size w' ad' (vs ++ [Value.slice a8 (N).length c8]) (opL p xs) (fun j => if j = t + 1 then a8 else RA j) (fun j => if j = t + 1 then c8 else RC j) (t + 1 + 1)) := hide (by
          have k := hK.out.push (X := opL p xs) (a3 := a8) (c3 := c8) (ad' := ad') (w' := w') hvl.out hblt.out zw hm8 (by rw [← nxt.out]; exact o8') hba (by have := HZa.out; omega) hgr hloc
          rw [← nxt.out] at k
          exact k)
        have hGw : (some G : Option Nat) ≠ some w.heap.size := fun e => by
          have := hbg G rfl
          simp only [Option.some.injEq] at e
          omega
        have hF2 := hide (And.intro (cell_ne hgr (cell_be hba f0) hGw) (cell_ne hgr (cell_be hba f1) hGw))
        have hzn : w.heap.size + 1 ≤ w'.heap.size := by have := hgr.size; have := HZa.out; omega
        have Hown := hide hown'
        clear hown' hgr hloc hOa hO hK hblt hcl hba f0 f1 hW3 hbg
        go_roundw
        case rel => exact ⟨t + 1, ad', cap', _, _, _, by omega, by go_num, by rw [lsx.out], by rw [hvl.out], hvl2, Hown, hK2, hW2, hF2, hzn⟩
        case measure => simp [intOf]; omega
    · have hte : Hid (t = n) := hide (by omega)
      have hge : ¬ (t : Int) < (n : Int) := by omega
      go_wp2
      go_ret
      exact ⟨a', c', by rw [← hte.out]; rfl, vs, by rw [hvl.out, hte.out], hO.out.mono (by omega), ⟨RA, RC, by rw [← hte.out]; exact hK.out⟩, hW.out⟩
end Go.Proofs.YtdjifjlgllohmaaDoor
