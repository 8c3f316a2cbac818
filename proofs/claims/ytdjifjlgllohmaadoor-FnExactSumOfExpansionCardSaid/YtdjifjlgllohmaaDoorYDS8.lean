/- Merged texts. -/
import Derived.Test.YtdjifjlgllohmaaDoorYDS3
import Derived.Test.YtdjifjlgllohmaaDoorYDS7
/- Contracts: multiply, MultiplyPolys (program), l01Times, MultiplyPolys (model). -/
namespace Go.Proofs.YtdjifjlgllohmaaDoor
open Go.RowKit
set_option linter.unusedVariables false
set_option linter.unusedSimpArgs false

theorem mulM_nil {p : Int} {f g : List Int} (h : f = [] ∨ g = []) : mulM p f g = [] := by
  unfold mulM
  rcases h with rfl | rfl <;> simp
theorem mulM_tab {p : Int} {f g : List Int} (h1 : f.length ≠ 0) (h2 : g.length ≠ 0) : mulM p f g = tab (f.length + g.length - 1) (mulH p f g f.length) := by
  unfold mulM
  have e1 : f.isEmpty = false := by cases f <;> simp at *
  have e2 : g.isEmpty = false := by cases g <;> simp at *
  rw [e1, e2]; rfl
set_option maxRecDepth 100000 in
set_option maxHeartbeats 1600000 in
theorem multiply_any (p : Int) (a1 : Option Addr) (n1 c1 : Nat) (f : List Int) (a2 : Option Addr) (n2 c2 : Nat) (g : List Int) (w : World) (h1 : SL w a1 n1 c1 f) (h2 : SL w a2 n2 c2 g)
    (b1 : n1 ≤ 1000) (b2 : n2 ≤ 1000) (hp : 2 ≤ p) (hp2 : p ≤ 10007) (hf : areB p f = true) (hg : areB p g = true) :
    Calls Tryd.prog 85 #[.int .i64 p, .slice a1 n1 c1, .slice a2 n2 c2] w fun e w' => ∃ a' c', e = .returned (.slice a' (mulM p f g).length c') ∧ Own w.heap.size w' a' c' (mulM p f g) ∧ Below w.heap.size w w' := by
  have hl1 := hide h1.len
  have hl2 := hide h2.len
  by_cases h0 : n1 = 0
  · have Hm := hide (mulM_nil (p := p) (f := f) (g := g) (.inl (List.eq_nil_of_length_eq_zero (by rw [hl1.out, h0]))))
    subst h0
    go_enter Tryd.func85, Tryd.ntmps85
    go_wp2
    go_ret
    exact ⟨none, 0, by rw [Hm.out]; rfl, by rw [Hm.out]; exact Own.nil _ _, Below.refl _ _⟩
  have h0b : ((n1 : Int) == 0) = false := by simpa using h0
  by_cases h0' : n2 = 0
  · have Hm := hide (mulM_nil (p := p) (f := f) (g := g) (.inr (List.eq_nil_of_length_eq_zero (by rw [hl2.out, h0']))))
    subst h0'
    go_enter Tryd.func85, Tryd.ntmps85
    go_wp2
    go_ret
    exact ⟨none, 0, by rw [Hm.out]; rfl, by rw [Hm.out]; exact Own.nil _ _, Below.refl _ _⟩
  have h0c : ((n2 : Int) == 0) = false := by simpa using h0'
  obtain ⟨N, hN⟩ : ∃ N, n1 + n2 - 1 = N := ⟨_, rfl⟩
  have HN : (n1 : Int) + (n2 : Int) - 1 = (N : Int) := by omega
  have hN1 : n1 + n2 ≤ N + 1 := by omega
  have hN2 : N + 1 ≤ n1 + n2 := by omega
  have hm : Hid (mulM p f g = tab N (mulH p f g n1)) := hide (by rw [mulM_tab (by rw [hl1.out]; exact h0) (by rw [hl2.out]; exact h0'), hl1.out, hl2.out, hN])
  have Hf := hide hf
  have Hg := hide hg
  have HN' := hide HN
  clear hf hg hN HN h0 h0'
  go_enter Tryd.func85, Tryd.ntmps85
  go_wp2_with (first | (at_make; refine wp_make rfl _ _ rfl _ _ N rfl rfl HN'.out HN'.out (by omega) ?_; intro w1 hrow hb hsz))
  have hrow2 : Hid (RowI w1 w.heap.size (tab N (mulH p f g 0))) := hide (by have := hrow.out; rwa [tab_zero] at this)
  clear hrow
  go_loopw [29] (fun v wr => ∃ i : Nat, i ≤ n1 ∧ v = .int .i64 i ∧ Hid (RowI wr w.heap.size (tab N (mulH p f g i))) ∧ Below w.heap.size w wr ∧ w.heap.size < wr.heap.size) (fun v _ => n1 - (intOf v).toNat)
  case atStart => exact ⟨0, by omega, rfl, hrow2, hb, hsz⟩
  case round =>
    obtain ⟨i, hi, rfl, hR, hbr, hsr⟩ := hrel
    clear hrow2 hb hsz
    by_cases hlt : i < n1
    · obtain ⟨bf, off, ha, hbw, hcell⟩ := (h1.below hbr).at (by omega)
      subst ha
      have e1 := hcell i hlt
      have hr1 := getD_rng Hf.out hp i
      have hstep : Hid (mulH p f g (i + 1) = mulIn p (f.getD i 0) g (mulH p f g i) i n2) := hide (by rw [mulH, hl2.out])
      obtain ⟨x, hx⟩ : ∃ x, f.getD i 0 = x := ⟨_, rfl⟩
      rw [hx] at e1 hr1 hstep
      obtain ⟨r1, r2⟩ := hr1
      clear hcell hx
      have hlt' : (i : Int) < (n1 : Int) := by omega
      go_wp2
      obtain ⟨wo, hwo⟩ : ∃ wo : World, wo = wr := ⟨_, rfl⟩
      subst hwo
      have hR0 : Hid (RowI wo w.heap.size (tab N (mulIn p x g (mulH p f g i) i 0))) := hide (by rw [mulIn_zero]; exact hR.out)
      go_loopw [36] (fun v wr => ∃ k : Nat, k ≤ n2 ∧ v = .int .i64 k ∧ Hid (RowI wr w.heap.size (tab N (mulIn p x g (mulH p f g i) i k))) ∧ Below w.heap.size w wr ∧ w.heap.size < wr.heap.size) (fun v _ => n2 - (intOf v).toNat)
      case atStart => exact ⟨0, by omega, rfl, hR0, hbr, hsr⟩
      case round =>
        obtain ⟨k, hk, rfl, hRk, hbk, hsk⟩ := hrel
        clear hR0 hR e1
        by_cases hkt : k < n2
        · obtain ⟨bg, offg, hag, hbwg, hcellg⟩ := (h2.below hbk).at (by omega)
          subst hag
          have e2 := hcellg k hkt
          have hr2 := getD_rng Hg.out hp k
          have e3 := hRk.out.cell (i + k) (by rw [tab_len]; omega)
          rw [tab_at _ _ _ (by omega)] at e3
          have hz := mulIn_rng hp (a := x) (g := g) (i := i) (k := k) (mulH_rng hp f g i) (i + k)
          have hzz : mulIn p x g (mulH p f g i) i k (i + k) = mulH p f g i (i + k) := by unfold mulIn; rw [if_neg (by omega)]
          rw [hzz] at e3 hz
          have hfr := hRk.out.free (i + k)
          have hset := hRk.out.set (i + k) ((mulH p f g i (i + k) + x * g.getD k 0) % p)
          rw [mulIn_step] at hset
          obtain ⟨y, hy⟩ : ∃ y, g.getD k 0 = y := ⟨_, rfl⟩
          obtain ⟨z, hzd⟩ : ∃ z, mulH p f g i (i + k) = z := ⟨_, rfl⟩
          rw [hy] at e2 hr2 hset
          rw [hzd] at e3 hz hset
          have Hset := hide hset
          obtain ⟨r3, r4⟩ := hr2
          obtain ⟨r5, r6⟩ := hz
          obtain ⟨q1, q2⟩ := mulb r1 r2 r3 r4 hp2
          clear hset hcellg hy hzd hzz
          have hkt' : (k : Int) < (n2 : Int) := by omega
          have hiN : (i : Int) + (k : Int) < (N : Int) := by omega
          have hik : ((i : Int) + (k : Int)).toNat = i + k := by omega
          go_wp2
          go_roundw
          case rel => exact ⟨k + 1, by omega, by go_num, Hset, hbk.setCell (by simp) _, by simpa using hsk⟩
          case measure => simp [intOf]; omega
        · obtain rfl : k = n2 := by omega
          have hnext : Hid (RowI wr w.heap.size (tab N (mulH p f g (i + 1)))) := hide (by rw [hstep.out]; exact hRk.out)
          clear hRk
          go_wp2
          go_roundw
          case rel => exact ⟨i + 1, by omega, by go_num, hnext, hbk, hsk⟩
          case measure => simp [intOf]; omega
    · obtain rfl : i = n1 := by omega
      have hfin : Own w.heap.size wr (some ⟨w.heap.size, 0, none⟩) N (mulM p f g) ∧ (mulM p f g).length = N := by
        have h3 := hR.out.own' (Nat.le_refl _) (by rw [tab_len]; unfold maxLen; omega)
        rw [tab_len, ← hm.out] at h3
        exact ⟨h3, by rw [hm.out, tab_len]⟩
      obtain ⟨ho, hlen⟩ := hfin
      have Hlen := hide hlen
      clear hlen
      go_wp2
      go_ret
      exact ⟨_, N, by rw [Hlen.out]; rfl, ho, hbr⟩
set_option maxRecDepth 100000 in
set_option maxHeartbeats 1600000 in
theorem l01Times_any (p : Int) (a1 : Option Addr) (n1 c1 : Nat) (f : List Int) (a2 : Option Addr) (n2 c2 : Nat) (g : List Int) (w : World) (h1 : SL w a1 n1 c1 f) (h2 : SL w a2 n2 c2 g)
    (b1 : n1 ≤ 1000) (b2 : n2 ≤ 1000) (hp : 2 ≤ p) (hp2 : p ≤ 10007) (hf : areB p f = true) (hg : areB p g = true) :
    Calls Tryd.prog 82 #[.int .i64 p, .slice a1 n1 c1, .slice a2 n2 c2] w fun e w' => ∃ a' c', e = .returned (.slice a' (trimL (mulM p f g)).length c') ∧ Own w.heap.size w' a' c' (trimL (mulM p f g)) ∧ Below w.heap.size w w' := by
  have hl1 := hide h1.len
  have hl2 := hide h2.len
  have hown0 : ∀ w' : World, Own w'.heap.size (w'.alloc (.cells #[] 2)) (some ⟨w'.heap.size, 0, none⟩) 0 [] := fun w' => by
    have := World.ownsRow_lit w' (base := w'.heap.size) (e := 2) (size := 1) #[] 0 (Nat.le_refl _) (by simp) rfl
    exact this
  by_cases h0 : n1 = 0
  · have Hm := hide (mulM_nil (p := p) (f := f) (g := g) (.inl (List.eq_nil_of_length_eq_zero (by rw [hl1.out, h0]))))
    subst h0
    clear hown0
    go_enter Tryd.func82, Tryd.ntmps82
    go_wp2
    go_ret
    exact ⟨some ⟨w.heap.size, 0, none⟩, 0, by rw [Hm.out]; rfl, by rw [Hm.out]; exact World.ownsRow_lit w (base := w.heap.size) (e := 2) (size := 1) #[] 0 (Nat.le_refl _) (by simp) rfl, bl1 _ _⟩
  have h0b : ((n1 : Int) == 0) = false := by simpa using h0
  by_cases h0' : n2 = 0
  · have Hm := hide (mulM_nil (p := p) (f := f) (g := g) (.inr (List.eq_nil_of_length_eq_zero (by rw [hl2.out, h0']))))
    subst h0'
    clear hown0
    go_enter Tryd.func82, Tryd.ntmps82
    go_wp2
    go_ret
    exact ⟨some ⟨w.heap.size, 0, none⟩, 0, by rw [Hm.out]; rfl, by rw [Hm.out]; exact World.ownsRow_lit w (base := w.heap.size) (e := 2) (size := 1) #[] 0 (Nat.le_refl _) (by simp) rfl, bl1 _ _⟩
  clear hown0
  have h0c : ((n2 : Int) == 0) = false := by simpa using h0'
  obtain ⟨N, hN⟩ : ∃ N, n1 + n2 - 1 = N := ⟨_, rfl⟩
  have HN : (n1 : Int) + (n2 : Int) - 1 = (N : Int) := by omega
  have hN1 : n1 + n2 ≤ N + 1 := by omega
  have hN2 : N + 1 ≤ n1 + n2 := by omega
  have hm : Hid (mulM p f g = tab N (mulH p f g n1)) := hide (by rw [mulM_tab (by rw [hl1.out]; exact h0) (by rw [hl2.out]; exact h0'), hl1.out, hl2.out, hN])
  have Hf := hide hf
  have Hg := hide hg
  have HN' := hide HN
  clear hf hg hN HN h0 h0'
  go_enter Tryd.func82, Tryd.ntmps82
  go_wp2_with (first | (at_make; refine wp_make rfl _ _ rfl _ _ N rfl rfl HN'.out HN'.out (by omega) ?_; intro w1 hrow hb hsz))
  have hrow2 : Hid (RowI w1 w.heap.size (tab N (mulH p f g 0))) := hide (by have := hrow.out; rwa [tab_zero] at this)
  clear hrow
  go_loopw [8] (fun v wr => ∃ i : Nat, i ≤ n1 ∧ v = .int .i64 i ∧ Hid (RowI wr w.heap.size (tab N (mulH p f g i))) ∧ Below w.heap.size w wr ∧ w.heap.size < wr.heap.size) (fun v _ => n1 - (intOf v).toNat)
  case atStart => exact ⟨0, by omega, rfl, hrow2, hb, hsz⟩
  case round =>
    obtain ⟨i, hi, rfl, hR, hbr, hsr⟩ := hrel
    clear hrow2 hb hsz
    by_cases hlt : i < n1
    · have hr1 := getD_rng Hf.out hp i
      have hstep : Hid (mulH p f g (i + 1) = mulIn p (f.getD i 0) g (mulH p f g i) i n2) := hide (by rw [mulH, hl2.out])
      obtain ⟨x, hx⟩ : ∃ x, f.getD i 0 = x := ⟨_, rfl⟩
      rw [hx] at hr1 hstep
      have Hx := hide hx
      obtain ⟨r1, r2⟩ := hr1
      clear hx
      have hlt' : (i : Int) < (n1 : Int) := by omega
      go_wp2
      obtain ⟨wo, hwo⟩ : ∃ wo : World, wo = wr := ⟨_, rfl⟩
      subst hwo
      have hR0 : Hid (RowI wo w.heap.size (tab N (mulIn p x g (mulH p f g i) i 0))) := hide (by rw [mulIn_zero]; exact hR.out)
      go_loopw [9] (fun v wr => ∃ k : Nat, k ≤ n2 ∧ v = .int .i64 k ∧ Hid (RowI wr w.heap.size (tab N (mulIn p x g (mulH p f g i) i k))) ∧ Below w.heap.size w wr ∧ w.heap.size < wr.heap.size) (fun v _ => n2 - (intOf v).toNat)
      case atStart => exact ⟨0, by omega, rfl, hR0, hbr, hsr⟩
      case round =>
        obtain ⟨k, hk, rfl, hRk, hbk, hsk⟩ := hrel
        clear hR0 hR
        by_cases hkt : k < n2
        · obtain ⟨bf, off, ha, hbw, hcell⟩ := (h1.below hbk).at (by omega)
          obtain ⟨bg, offg, hag, hbwg, hcellg⟩ := (h2.below hbk).at (by omega)
          subst ha
          subst hag
          have e1 := hcell i hlt
          rw [Hx.out] at e1
          have e2 := hcellg k hkt
          have hr2 := getD_rng Hg.out hp k
          have e3 := hRk.out.cell (i + k) (by rw [tab_len]; omega)
          rw [tab_at _ _ _ (by omega)] at e3
          have hz := mulIn_rng hp (a := x) (g := g) (i := i) (k := k) (mulH_rng hp f g i) (i + k)
          have hzz : mulIn p x g (mulH p f g i) i k (i + k) = mulH p f g i (i + k) := by unfold mulIn; rw [if_neg (by omega)]
          rw [hzz] at e3 hz
          have hfr := hRk.out.free (i + k)
          have hset := hRk.out.set (i + k) ((mulH p f g i (i + k) + x * g.getD k 0) % p)
          rw [mulIn_step] at hset
          obtain ⟨y, hy⟩ : ∃ y, g.getD k 0 = y := ⟨_, rfl⟩
          obtain ⟨z, hzd⟩ : ∃ z, mulH p f g i (i + k) = z := ⟨_, rfl⟩
          rw [hy] at e2 hr2 hset
          rw [hzd] at e3 hz hset
          have Hset := hide hset
          obtain ⟨r3, r4⟩ := hr2
          obtain ⟨r5, r6⟩ := hz
          obtain ⟨q1, q2⟩ := mulb r1 r2 r3 r4 hp2
          clear hset hcellg hcell hy hzd hzz
          have hkt' : (k : Int) < (n2 : Int) := by omega
          have hiN : (i : Int) + (k : Int) < (N : Int) := by omega
          have hi0 : (0 : Int) ≤ (i : Int) + (k : Int) := by omega
          have v1 : IntKind.i64.wrap (x * y) = x * y := IntWalk.i64_in _ (by omega)
          have v2 : IntKind.i64.wrap (z + x * y) = z + x * y := IntWalk.i64_in _ (by omega)
          have v4 : (z + x * y).tmod p = (z + x * y) % p := Int.tmod_eq_emod_of_nonneg (by omega)
          have v3 : IntKind.i64.wrap ((i : Int) + (k : Int)) = (i : Int) + (k : Int) := IntWalk.i64_in _ (by omega)
          have v6 := modb (x := z + x * y) hp
          have v5 : IntKind.i64.wrap ((z + x * y) % p) = (z + x * y) % p := IntWalk.i64_in _ (by omega)
          have hik : ((i : Int) + (k : Int)).toNat = i + k := by omega
          have hp0 : ¬ p = 0 := by omega
          go_wp2
          refine wp_region_still_tail 23 (by kernel_rfl) (by kernel_rfl) ?_
          simp only [List.take_succ_cons, List.take_zero, List.drop_succ_cons, List.drop_zero]
          repeat still_step
          refine wpStill_nil ?_
          clear v1 v2 v3 v4 v5 hik
          go_wp2
          go_roundw
          case rel => exact ⟨k + 1, by omega, by go_num, Hset, (hbk.setCell (by simp) _).drew, by simpa using hsk⟩
          case measure => simp [intOf]; omega
        · obtain rfl : k = n2 := by omega
          have hnext : Hid (RowI wr w.heap.size (tab N (mulH p f g (i + 1)))) := hide (by rw [hstep.out]; exact hRk.out)
          clear hRk
          go_wp2
          go_roundw
          case rel => exact ⟨i + 1, by omega, by go_num, hnext, hbk, hsk⟩
          case measure => simp [intOf]; omega
    · obtain rfl : i = n1 := by omega
      have hsl := hR.out.slN (tab_len _ _)
      have Hlen := hide (show (trimL (mulM p f g)).length = (trimL (tab N (mulH p f g i))).length by rw [hm.out])
      go_wp2_with (go_at_call 86; refine (l01Trim_any _ _ _ _ _ _ hsl (by omega)).mono ?_; rintro e w3 ⟨a', c', rfl, hown, hb3⟩)
      go_ret
      refine ⟨a', c', by rw [Hlen.out]; rfl, ?_, hbr.trans (hb3.mono hbr.size)⟩
      rw [hm.out]
      exact hown.mono (by omega)
end Go.Proofs.YtdjifjlgllohmaaDoor
/- Contracts: MultiplyPolys; monic, MonicPoly (program and model). -/
namespace Go.Proofs.YtdjifjlgllohmaaDoor
open Go.RowKit
set_option linter.unusedVariables false
set_option linter.unusedSimpArgs false

def mulC (p : Int) (f g : List Int) : Int := if chk2 p f g = 0 then (if (mulM p f g).length ≤ 25 then 0 else 3) else chk2 p f g
def mulV (p : Int) (f g : List Int) : List Int := if mulC p f g = 0 then mulM p f g else []
theorem mulM_le (p : Int) (f g : List Int) : (mulM p f g).length ≤ f.length + g.length := by
  unfold mulM
  split
  · simp
  · rw [tab_len]; omega
def monM (p : Int) (f : List Int) : List Int := if f.isEmpty then [] else addM p [] f (invM p (f.getD (f.length - 1) 0))
def monC (p : Int) (f : List Int) : Int := if chk1 p f = 0 then (if f.isEmpty then 5 else 0) else chk1 p f
def monV (p : Int) (f : List Int) : List Int := if monC p f = 0 then monM p f else []
theorem monM_nil (p : Int) : monM p [] = [] := rfl
theorem monM_cons {p : Int} {f : List Int} {n : Nat} (hl : f.length = n) (h : n ≠ 0) : monM p f = addM p [] f (invM p (f.getD (n - 1) 0)) := by
  unfold monM
  cases f with
  | nil => simp at hl; omega
  | cons a f => simp [← hl]
theorem invM_rng {p : Int} (x : Int) (hp : 2 ≤ p) : 0 ≤ invM p x ∧ invM p x < p := powM_rng hp
theorem areB_nil (p : Int) : areB p [] = true := rfl
theorem monM_len {p : Int} {f : List Int} (h : f.length ≤ 1000) : (monM p f).length ≤ 1000 := by
  unfold monM
  split
  · simp
  · exact addM_len (by simp) h
end Go.Proofs.YtdjifjlgllohmaaDoor
