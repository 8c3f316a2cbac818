/- Merged texts. -/
import Derived.Test.YtdjifjlgllohmaaDoorYDS0
import Derived.Test.YtdjifjlgllohmaaDoorYDS1
import Derived.Laws.EntriesVeiled
import Derived.WalkLawsBesides
import Derived.KernelRfl
/- Contracts: powers and inverses of numbers (the program's closures, the model's loop). -/
namespace Go.Proofs.YtdjifjlgllohmaaDoor
open Go.RowKit
set_option linter.unusedVariables false
set_option linter.unusedSimpArgs false


/-- What a number is as a value. -/
abbrev num (x : Int) : Value := .agg #[.int .i64 x]
abbrev clo (k : Nat) (b : Nat) : Value := .func (.func k) #[] #[.pointer (some ⟨b, 0, none⟩)]



set_option maxHeartbeats 400000 in
theorem numConst (x : Int) (w : World) :
    Calls Tryd.prog 116 #[num x] w fun e w' => e = .returned (num x) ∧ Below w.heap.size w w' := by
  go_enter Tryd.func116, Tryd.ntmps116
  go_wp2
  refine bodyPost_ret (v := num x) (by simp [results, Tryd.results116, go_sem]) rfl ⟨rfl, ?_⟩
  exact bl2 _ _ _
set_option maxHeartbeats 400000 in
theorem numMul (p x y : Int) (b : Nat) (w : World) (hc : w.cell? ⟨b, 0, none⟩ = some (.int .i64 p)) (hx : 0 ≤ x * y) (hy : x * y ≤ 100140049) (hp : 2 ≤ p) :
    Calls Tryd.prog 118 #[num x, num y, .pointer (some ⟨b, 0, none⟩)] w fun e w' => e = .returned (num (x * y % p)) ∧ Below w.heap.size w w' := by
  have hc3 := cell_al3 hc
  go_enter Tryd.func118, Tryd.ntmps118
  go_wp2
  refine bodyPost_ret (v := num (x * y % p)) (by simp [results, Tryd.results118, go_sem]) rfl ⟨rfl, ?_⟩
  exact bl3 _ _ _ _
set_option maxHeartbeats 400000 in
theorem numbersModulo_any (p : Int) (w : World) :
    Calls Tryd.prog 104 #[.int .i64 p] w fun e w' => e = .returned (.agg #[.func (.func 116) #[] #[], clo 117 w.heap.size, clo 118 w.heap.size]) ∧
      w'.cell? ⟨w.heap.size, 0, none⟩ = some (.int .i64 p) ∧ Below w.heap.size w w' ∧ w.heap.size < w'.heap.size := by
  go_enter Tryd.func104, Tryd.ntmps104
  go_wp2
  refine bodyPost_ret (v := .agg #[.func (.func 116) #[] #[], clo 117 w.heap.size, clo 118 w.heap.size]) (by simp [results, Tryd.results104, go_sem]) rfl ⟨rfl, by simp [go_sem], bl2 _ _ _, by simp; omega⟩
/-- What the loop of 'power' keeps of memory: the closure for products, the base, the result, the modulus. -/
structure PInv (w : World) (B g b : Nat) (p bb r : Int) : Prop where
  hA : w.cell? ⟨B, 2, none⟩ = some (clo 118 b)
  hX : w.cell? ⟨B + 1, 0, none⟩ = some (.int .i64 bb)
  hR : w.cell? ⟨g, 0, none⟩ = some (.int .i64 r)
  hP : w.cell? ⟨b, 0, none⟩ = some (.int .i64 p)
  hS : ∃ v, w.cell? ⟨B + 1 + 1, 0, none⟩ = some v
  fX : w.frozen? ⟨B + 1, 0, none⟩ = false
  fR : w.frozen? ⟨g, 0, none⟩ = false
  fS : w.frozen? ⟨B + 1 + 1, 0, none⟩ = false
theorem PInv.below {w w' : World} {B g b : Nat} {p bb r : Int} (h : PInv w B g b p bb r) (hb : Below w.heap.size w w') : PInv w' B g b p bb r := by
  have k : ∀ {a : Addr} {v : Value}, w.cell? a = some v → w'.cell? a = some v := fun hh => (hb.cell (World.block_lt_of_cell? w _ hh)).trans hh
  have f : ∀ {a : Addr} {v : Value}, w.cell? a = some v → w.frozen? a = false → w'.frozen? a = false := fun hh hf => (hb.frozen (World.block_lt_of_cell? w _ hh)).trans hf
  obtain ⟨v, hv⟩ := h.hS
  exact ⟨k h.hA, k h.hX, k h.hR, k h.hP, ⟨v, k hv⟩, f h.hX h.fX, f h.hR h.fR, f hv h.fS⟩
theorem PInv.setR {w : World} {B g b : Nat} {p bb r : Int} (h : PInv w B g b p bb r) (hg : B + 2 < g) (hbB : b < B) (u : Int) : PInv (w.setCell ⟨g, 0, none⟩ (.int .i64 u)) B g b p bb u := by
  obtain ⟨v, hv⟩ := h.hS
  have o : ∀ {c : Addr} {v : Value}, c.block ≠ g → w.cell? c = some v → (w.setCell ⟨g, 0, none⟩ (.int .i64 u)).cell? c = some v := fun hne hh =>
    (World.cell?_setCell_other _ _ _ _ (fun e => hne (by rw [← e]))).trans hh
  exact ⟨o (by simp; omega) h.hA, o (by simp; omega) h.hX, World.cell?_setCell_same _ _ _ h.hR, o (by simp; omega) h.hP, ⟨v, o (by simp; omega) hv⟩, by simpa using h.fX, by simpa using h.fR, by simpa using h.fS⟩
theorem PInv.setX {w : World} {B g b : Nat} {p bb r : Int} (h : PInv w B g b p bb r) (hg : B + 2 < g) (hbB : b < B) (u : Int) : PInv (w.setCell ⟨B + 1, 0, none⟩ (.int .i64 u)) B g b p u r := by
  obtain ⟨v, hv⟩ := h.hS
  have o : ∀ {c : Addr} {v : Value}, c.block ≠ B + 1 → w.cell? c = some v → (w.setCell ⟨B + 1, 0, none⟩ (.int .i64 u)).cell? c = some v := fun hne hh =>
    (World.cell?_setCell_other _ _ _ _ (fun e => hne (by rw [← e]))).trans hh
  exact ⟨o (by simp) h.hA, World.cell?_setCell_same _ _ _ h.hX, o (by simp; omega) h.hR, o (by simp; omega) h.hP, ⟨v, o (by simp) hv⟩, by simpa using h.fX, by simpa using h.fR, by simpa using h.fS⟩

set_option maxHeartbeats 1600000 in
theorem power_num (p x k : Int) (b : Nat) (w : World) (hc : w.cell? ⟨b, 0, none⟩ = some (.int .i64 p)) (hp : 2 ≤ p) (hp2 : p ≤ 10007) (hx : 0 ≤ x) (hx2 : x < p) (hk : 0 ≤ k) (hk2 : k ≤ 1000000000) :
    Calls Tryd.prog 123 #[.agg #[.func (.func 116) #[] #[], clo 117 b, clo 118 b], num x, .int .i64 k] w
      fun e w' => e = .returned (num (powM p x k)) ∧ Below w.heap.size w w' := by
  have hbw : b < w.heap.size := World.block_lt_of_cell? w _ hc
  go_enter Tryd.func123, Tryd.ntmps123
  go_wp2_with fail
  refine (numConst _ _).mono ?_
  rintro e w1 ⟨rfl, hb1⟩
  have hs1 : w.heap.size + 2 < w1.heap.size := by have := hb1.size; simp at this; omega
  have hc1 := fun {a : Addr} {v : Value} hh => (hb1.cell (p := a) (World.block_lt_of_cell? _ _ hh)).trans (hh : _ = some v)
  have hB1 : Below w.heap.size w w1 := (bl3 _ _ _ _).trans (hb1.mono (by simp; omega))
  have inv1 : PInv (w1.alloc (.cells #[.int .i64 1] 97)) w.heap.size w1.heap.size b p x 1 := by
    have fr : ∀ j, (hj : j ≤ w.heap.size + 2) → w.heap.size ≤ j → w1.frozen? ⟨j, 0, none⟩ = false := by
      intro j h1 h2
      rw [hb1.frozen (p := ⟨j, 0, none⟩) (by simp; omega)]
      rcases (show j = w.heap.size ∨ j = w.heap.size + 1 ∨ j = w.heap.size + 2 by omega) with rfl | rfl | rfl <;> simp [go_sem]
    refine ⟨cell_al (hc1 (by simp [go_sem])) _, cell_al (hc1 (by simp [go_sem])) _, by simp [go_sem], cell_al (hc1 (cell_al3 hc _ _ _)) _, ⟨_, cell_al (hc1 (by simp [go_sem]; rfl)) _⟩, ?_, by simp [go_sem], ?_⟩
    · rw [World.frozen?_alloc_past _ _ _ (by omega)]; exact fr _ (by omega) (by omega)
    · rw [World.frozen?_alloc_past _ _ _ (by omega)]; exact fr _ (by omega) (by omega)
  go_wp2
  have hB2 : Below w.heap.size w (w1.alloc (.cells #[.int .i64 1] 97)) := hB1.alloc (by omega) _
  go_loopw [2] (fun kv wr => ∃ (f : Nat) (kk bb r : Int), kv = .int .i64 kk ∧ PInv wr w.heap.size w1.heap.size b p bb r ∧ Below w.heap.size w wr ∧ w1.heap.size < wr.heap.size ∧ 0 ≤ kk ∧ kk ≤ 1000000000 ∧ 0 ≤ bb ∧ bb < p ∧ 0 ≤ r ∧ r < p ∧ Few f kk ∧ Hid (powM p x k = powLoop f p r bb kk)) (fun kv _ => (intOf kv).toNat)
  case atStart => exact ⟨64, k, x, 1, rfl, inv1, hB2, by simp, hk, hk2, hx, hx2, by omega, by omega, few64 hk2, rfl⟩
  case round =>
    obtain ⟨f, kk, bb, r, rfl, inv, hBr, hsz, hk0, hk1, hb0, hbp, hr0, hrp, hf, hval⟩ := hrel
    clear hc1 inv1 hB1 hB2 hb1
    by_cases hpos : 0 < kk
    · obtain ⟨f, rfl⟩ : ∃ g, f = g + 1 := by
        cases f with
        | zero => exact absurd hpos hf.zero
        | succ g => exact ⟨g, rfl⟩
      have m1 := mulb hr0 hrp hb0 hbp hp2
      have m2 := mulb hb0 hbp hb0 hbp hp2
      have n1 : 0 ≤ r * bb % p ∧ r * bb % p < p := modb hp
      have n2 : 0 ≤ bb * bb % p ∧ bb * bb % p < p := modb hp
      by_cases hodd : kk % 2 = 1
      · have hv2 : Hid (powM p x k = powLoop f p (r * bb % p) (bb * bb % p) (kk / 2)) := hide (hval.out.trans (by rw [powLoop, if_pos hpos, if_pos hodd]))
        have ob : (kk % 2 == 1) = true := by simpa using hodd
        clear hodd
        obtain ⟨hA, hX, hR, hP, hS, fX, fR, fS⟩ := inv
        go_wp2_with fail
        refine (numMul p r bb b _ hP m1.1 m1.2 hp).mono ?_
        rintro e w2 ⟨rfl, hb2⟩
        have inv2 := (PInv.below ⟨hA, hX, hR, hP, hS, fX, fR, fS⟩ hb2)
        have hs2 : w1.heap.size < w2.heap.size := Nat.lt_of_lt_of_le hsz hb2.size
        have hB2 := hBr.trans (hb2.mono (by omega))
        have inv3 := inv2.setR (by omega) hbw (r * bb % p)
        clear hA hX hR hP hS fX fR fS hb2
        obtain ⟨hA, hX, hR, hP, hS, fX, fR, fS⟩ := inv2
        obtain ⟨hA', hX', hR', hP', hS', fX', fR', fS'⟩ := inv3
        go_wp2_with fail
        refine (numMul p bb bb b _ hP' m2.1 m2.2 hp).mono ?_
        rintro e w3 ⟨rfl, hb3⟩
        have inv4 := (PInv.below ⟨hA', hX', hR', hP', hS', fX', fR', fS'⟩ hb3)
        have hs3 : w1.heap.size < w3.heap.size := by have := hb3.size; simp at this; omega
        have hB3 := (hB2.setCell (p := ⟨w1.heap.size, 0, none⟩) (by simp; omega) (.int .i64 (r * bb % p))).trans (hb3.mono (by simp; omega))
        have inv5 := inv4.setX (by omega) hbw (bb * bb % p)
        clear hA hX hR hP hS fX fR fS hA' hX' hR' hP' hS' fX' fR' fS' hb3
        obtain ⟨hA, hX, hR, hP, hS, fX, fR, fS⟩ := inv4
        go_wp2
        go_roundw
        case rel => exact ⟨f, kk / 2, _, _, rfl, inv5, hB3.setCell (by simp) _, by simpa using hs3, by omega, by omega, n2.1, n2.2, n1.1, n1.2, hf.half, hv2⟩
        case measure => simp [intOf]; omega
      · have hv2 : Hid (powM p x k = powLoop f p r (bb * bb % p) (kk / 2)) := hide (hval.out.trans (by rw [powLoop, if_pos hpos, if_neg hodd]))
        have ob : (kk % 2 == 1) = false := by simpa using hodd
        clear hodd
        obtain ⟨hA, hX, hR, hP, hS, fX, fR, fS⟩ := inv
        go_wp2_with fail
        refine (numMul p bb bb b _ hP m2.1 m2.2 hp).mono ?_
        rintro e w3 ⟨rfl, hb3⟩
        have inv4 := (PInv.below ⟨hA, hX, hR, hP, hS, fX, fR, fS⟩ hb3)
        have hs3 : w1.heap.size < w3.heap.size := Nat.lt_of_lt_of_le hsz hb3.size
        have hB3 := hBr.trans (hb3.mono (by omega))
        have inv5 := inv4.setX (by omega) hbw (bb * bb % p)
        clear hA hX hR hP hS fX fR fS hb3
        obtain ⟨hA, hX, hR, hP, hS, fX, fR, fS⟩ := inv4
        go_wp2
        go_roundw
        case rel => exact ⟨f, kk / 2, _, _, rfl, inv5, hB3.setCell (by simp) _, by simpa using hs3, by omega, by omega, n2.1, n2.2, hr0, hrp, hf.half, hv2⟩
        case measure => simp [intOf]; omega
    · have hv : powM p x k = r := hval.out.trans (powLoop_zero _ _ _ _ _ hpos)
      have Hv := Lib.hid hv
      clear hv hval
      obtain ⟨hA, hX, hR, hP, ⟨vs, hS⟩, fX, fR, fS⟩ := inv
      have hS2 : ∀ u, (wr.setCell ⟨w.heap.size + 1 + 1, 0, none⟩ u).cell? ⟨w.heap.size + 1 + 1, 0, none⟩ = some u := fun u => World.cell?_setCell_same _ _ _ hS
      go_wp2
      refine bodyPost_ret (v := num r) (by simp [results, Tryd.results123, go_sem, hS2]) rfl ⟨by rw [Hv.out], hBr.setCell (by simp; omega) _⟩
end Go.Proofs.YtdjifjlgllohmaaDoor
/- Contracts: inverse, InverseOf, PowerOf (program and model). -/
namespace Go.Proofs.YtdjifjlgllohmaaDoor
open Go.RowKit
set_option linter.unusedVariables false
set_option linter.unusedSimpArgs false

theorem num_index (v : Int) (w : World) : (Instr.index 97 (.agg #[.int .i64 v]) (.int .i64 0)).run Tryd.prog w = .ok (.int .i64 v) w := by kernel_rfl
set_option maxRecDepth 100000 in
set_option maxHeartbeats 400000 in
theorem inverse_any (p x : Int) (w : World) (hp : 2 ≤ p) (hp2 : p ≤ 10007) (hx : 0 ≤ x) (hx2 : x < p) :
    Calls Tryd.prog 115 #[.int .i64 p, .int .i64 x] w fun e w' => e = .returned (.int .i64 (invM p x)) ∧ Below w.heap.size w w' := by
  go_enter Tryd.func115, Tryd.ntmps115
  go_wp2_with fail
  refine (numbersModulo_any p _).mono ?_
  rintro e w1 ⟨rfl, hc1, hb1, hs1⟩
  go_wp2_with fail
  refine (power_num p x (p - 2) _ _ hc1 hp hp2 hx hx2 (by omega) (by omega)).mono ?_
  rintro e w2 ⟨rfl, hb2⟩
  have i0 := num_index (powM p x (p - 2))
  go_wp2
  go_ret
  exact ⟨rfl, hb1.trans (hb2.mono (by omega))⟩
set_option maxHeartbeats 400000 in
theorem l01Mod_any (p x : Int) (w : World) (hp : 2 ≤ p) (hp2 : p ≤ 10007) (_h1 : -9223372036854775808 ≤ x) (_h2 : x ≤ 9223372036854775807) :
    Calls Tryd.prog 63 #[.int .i64 p, .int .i64 x] w fun e w' => e = .returned (.int .i64 (x % p)) ∧ w = w' := by
  have h1 : -p < x.tmod p := by have := Int.lt_tmod_of_pos x (show 0 < p by omega); omega
  have h2 : x.tmod p < p := Int.tmod_lt_of_pos x (by omega)
  by_cases hx : 0 ≤ x
  · have h3 : x % p < p := (modb hp).2
    have h4 : 0 ≤ x % p := (modb hp).1
    have H : Hid ((x % p + p) % p = x % p) := Lib.hid (by rw [Int.add_emod_right]; exact Int.emod_eq_of_lt h4 h3)
    go_enter Tryd.func63, Tryd.ntmps63
    go_wp2
    go_ret
    exact ⟨ret_int H.out, rfl⟩
  · have H : Hid (x.tmod p % p = x % p) := Lib.hid (tmod_emod x hp)
    go_enter Tryd.func63, Tryd.ntmps63
    go_wp2
    go_ret
    exact ⟨ret_int H.out, rfl⟩
set_option maxHeartbeats 800000 in
theorem l01Power_any (p x k : Int) (w : World) (hp : 2 ≤ p) (hp2 : p ≤ 10007) (hx : 0 ≤ x) (hx2 : x < p) (hk : 0 ≤ k) (hk2 : k ≤ 1000000000) :
    Calls Tryd.prog 87 #[.int .i64 p, .int .i64 x, .int .i64 k] w fun e w' => e = .returned (.int .i64 (powM p x k)) ∧ w = w' := by
  have hmod := Lib.hid (Int.emod_eq_of_lt hx hx2)
  go_enter Tryd.func87, Tryd.ntmps87
  go_wp2_with fail
  refine (l01Mod_any p x _ hp hp2 (by omega) (by omega)).mono ?_
  rintro e w1 ⟨rfl, rfl⟩
  rw [hmod.out]
  go_wp2
  go_loop [2, 7, 8] (fun kv rv bv => ∃ (f : Nat) (kk bb r : Int), kv = .int .i64 kk ∧ rv = .int .i64 r ∧ bv = .int .i64 bb ∧ 0 ≤ kk ∧ kk ≤ 1000000000 ∧ 0 ≤ bb ∧ bb < p ∧ 0 ≤ r ∧ r < p ∧ Few f kk ∧ Hid (powM p x k = powLoop f p r bb kk)) (fun kv _ _ => (intOf kv).toNat)
  case atStart => exact ⟨64, k, x, 1, rfl, rfl, rfl, hk, hk2, hx, hx2, by omega, by omega, few64 hk2, rfl⟩
  case round =>
    obtain ⟨f, kk, bb, r, rfl, rfl, rfl, hk0, hk1, hb0, hbp, hr0, hrp, hf, hval⟩ := hrel
    by_cases hpos : 0 < kk
    · obtain ⟨f, rfl⟩ : ∃ g, f = g + 1 := by
        cases f with
        | zero => exact absurd hpos hf.zero
        | succ g => exact ⟨g, rfl⟩
      have m1 := mulb hr0 hrp hb0 hbp hp2
      have m2 := mulb hb0 hbp hb0 hbp hp2
      obtain ⟨m1a, m1b⟩ := m1
      obtain ⟨m2a, m2b⟩ := m2
      have n1 : 0 ≤ r * bb % p ∧ r * bb % p < p := modb hp
      have n2 : 0 ≤ bb * bb % p ∧ bb * bb % p < p := modb hp
      by_cases hodd : kk % 2 = 1
      · have hv2 : Hid (powM p x k = powLoop f p (r * bb % p) (bb * bb % p) (kk / 2)) := hide (hval.out.trans (by rw [powLoop, if_pos hpos, if_pos hodd]))
        have ob : (kk % 2 == 1) = true := by simpa using hodd
        clear hodd
        go_wp2
        go_round
        case rel => exact ⟨f, kk / 2, _, _, rfl, rfl, rfl, by omega, by omega, n2.1, n2.2, n1.1, n1.2, hf.half, hv2⟩
        case measure => simp [intOf]; omega
      · have hv2 : Hid (powM p x k = powLoop f p r (bb * bb % p) (kk / 2)) := hide (hval.out.trans (by rw [powLoop, if_pos hpos, if_neg hodd]))
        have ob : (kk % 2 == 1) = false := by simpa using hodd
        clear hodd
        go_wp2
        go_round
        case rel => exact ⟨f, kk / 2, _, _, rfl, rfl, rfl, by omega, by omega, n2.1, n2.2, hr0, hrp, hf.half, hv2⟩
        case measure => simp [intOf]; omega
    · have Hv := Lib.hid (hval.out.trans (powLoop_zero _ _ _ _ _ hpos))
      have Hm := Lib.hid (Int.emod_eq_of_lt hr0 hrp)
      go_wp2
      go_ret
      exact ⟨ret_int (by rw [Hv.out, Hm.out]), rfl⟩
set_option maxHeartbeats 400000 in
theorem l01Inverse_any (p x : Int) (w : World) (hp : 2 ≤ p) (hp2 : p ≤ 10007) (hx : 0 ≤ x) (hx2 : x < p) :
    Calls Tryd.prog 45 #[.int .i64 p, .int .i64 x] w fun e w' => e = .returned (.int .i64 (invM p x)) ∧ w = w' := by
  go_enter Tryd.func45, Tryd.ntmps45
  go_wp2_with fail
  refine (l01Power_any p x (p - 2) _ hp hp2 hx hx2 (by omega) (by omega)).mono ?_
  rintro e w1 ⟨rfl, rfl⟩
  go_wp2
  go_ret
  exact ⟨rfl, rfl⟩
/-- What InverseOf and PowerOf answer. -/
def invOk (p x : Int) : Bool := primeB p && decide (1 ≤ x ∧ x < p)
def invOfV (p x : Int) : Int := if invOk p x then invM p x else 0
def invOfC (p x : Int) : Int := if invOk p x then 0 else 2
def powOk (p x k : Int) : Bool := primeB p && decide (0 ≤ x ∧ x < p ∧ 0 ≤ k ∧ k ≤ 1000000000)
def powOfV (p x k : Int) : Int := if powOk p x k then powM p x k else 0
def powOfC (p x k : Int) : Int := if powOk p x k then 0 else 2
theorem ret_int2 {a b c d : Int} (h : a = c) (h' : b = d) : Ending.returned (.tuple #[.int .i64 a, .int .i64 b]) = .returned (.tuple #[.int .i64 c, .int .i64 d]) := by rw [h, h']
end Go.Proofs.YtdjifjlgllohmaaDoor
