/- Merged texts. -/
import Derived.Test.YthahcnmfaghohaaYTC31
import Derived.Test.YthahcnmfaghohaaYTC22
import Derived.BigRegion
import Derived.Deep.QuietTactic
import Derived.Test.YthahcnmfaghohaaYTC25
/- Lists of strings in a law: eqStringS, markText, markStringS, heldStringS. -/
namespace Go.Proofs.Ythahcnmfaghohaa
open Go.RowKit
set_option linter.unusedVariables false
set_option linter.unusedSimpArgs false

theorem Touch.put' {lo hi : Nat} {a w : World} (h : Touch lo hi a w) {x : Addr} (h1 : lo ≤ x.block) (h2 : x.block < hi) (u : Value) : Touch lo hi a (w.setCell x u) :=
  h.trans ⟨rfl, rfl, rfl, by simp, fun k hk hd => Below.heap_setCell _ _ _ _ (by omega)⟩
/-- strings that can be read -/
def RdT (w : World) (a : Option Addr) (l : List ByteArray) : Prop := l = [] ∨ ∃ g, a = some ⟨g, 0, none⟩ ∧ ∀ j, j < l.length → w.cell? ⟨g, j, none⟩ = some (.string (l.getD j ⟨#[]⟩))
theorem RdT.below {w w' : World} {a : Option Addr} {l : List ByteArray} (h : RdT w a l) (t : Below w.heap.size w w') : RdT w' a l := by
  rcases h with h | ⟨g, h1, h2⟩
  · exact .inl h
  · exact .inr ⟨g, h1, fun j hj => cell_be t (h2 j hj)⟩
theorem OwnT.rd {B : Nat} {w : World} {a : Option Addr} {c : Nat} {l : List ByteArray} (h : OwnT B w a c (l.map Value.string)) : RdT w a l := by
  by_cases h0 : l = []
  · exact .inl h0
  · obtain ⟨g, h1, h2⟩ := h.at (by rw [List.length_map]; intro e; exact h0 (List.eq_nil_of_length_eq_zero e))
    refine .inr ⟨g, h1, fun j hj => ?_⟩
    rw [h2 j (by rw [List.length_map]; exact hj)]
    simp [List.getD_eq_getElem?_getD, List.getElem?_eq_getElem hj]
set_option maxRecDepth 100000 in
set_option maxHeartbeats 1600000 in
theorem eqT (a b : Option Addr) (c d : Nat) (l : List ByteArray) (w : World) (h1 : RdT w a l) (h2 : RdT w b l) (hl : l.length ≤ 1000) :
    Calls Try.prog 21 #[.slice a l.length c, .slice b l.length d] w fun e w' => e = .returned (.bool true) ∧ Below w.heap.size w w' := by
  have H1 := hide h1
  have H2 := hide h2
  have hr : Below w.heap.size w w := Below.refl _ _
  obtain ⟨n, hn⟩ : ∃ n, l.length = n := ⟨_, rfl⟩
  have HN := hide hn
  rw [hn] at hl ⊢
  clear hn h1 h2
  go_enter Try.func21, Try.ntmps21
  go_wp2
  go_loopw [5] (fun kv wr => ∃ k : Nat, k ≤ n ∧ kv = .int .i64 k ∧ Below w.heap.size w wr) (fun kv _ => n - (intOf kv).toNat)
  case atStart => exact ⟨0, by omega, rfl, hr⟩
  case round =>
    obtain ⟨k, hk, rfl, hb⟩ := hrel
    clear hr
    by_cases hlt : k < n
    · have hlt' : (k : Int) < (n : Int) := by omega
      have p0 : (0 : Int) ≤ (k : Int) := by omega
      have v1 : IntKind.i64.wrap ((k : Int) + 1) = (k : Int) + 1 := IntWalk.i64_in _ (by omega)
      have n0 : l ≠ [] := fun e => by have := HN.out; rw [e] at this; simp at this; omega
      obtain ⟨g, rfl, hc⟩ := H1.out.resolve_left n0
      obtain ⟨g', rfl, hc'⟩ := H2.out.resolve_left n0
      have e1 := cell_be hb (hc k (by rw [HN.out]; exact hlt))
      have e2 := cell_be hb (hc' k (by rw [HN.out]; exact hlt))
      obtain ⟨X, hX⟩ : ∃ X, l.getD k ⟨#[]⟩ = X := ⟨_, rfl⟩
      rw [hX] at e1 e2
      clear hX hc hc' n0
      go_wp2
      go_quiet (fail)
      go_wp2
      go_roundw
      case rel => exact ⟨k + 1, by omega, by go_num, below_drewN hb _⟩
      case measure => simp [intOf]; omega
    · have hge : ¬ (k : Int) < (n : Int) := by omega
      go_wp2
      refine bodyPost_ret (v := .bool true) (by simp [results, Try.results21]) rfl ?_
      exact ⟨rfl, hb⟩
/-- the text of a number, by decimals -/
def txL : Nat → Int → ByteArray → ByteArray
  | 0, _, s => s
  | f + 1, n, s => if n > 0 then txL f (n / 10) (strOfNums [48 + n % 10] ++ s) else s
def mkT (m : Int) : ByteArray := ⟨#[109]⟩ ++ txL 4 m ⟨#[]⟩
theorem txL_size : ∀ f n s, (txL f n s).size ≤ s.size + f
  | 0, _, s => Nat.le_refl _
  | f + 1, n, s => by
    rw [txL]
    split
    · have := txL_size f (n / 10) (strOfNums [48 + n % 10] ++ s)
      rw [ByteArray.size_append, strOfNums_size] at this
      simp at this
      omega
    · omega
set_option maxRecDepth 100000 in
set_option maxHeartbeats 1600000 in
theorem markText_any (m : Int) (w : World) (h1 : 1 ≤ m) (h2 : m ≤ 9999) :
    Calls Try.prog 41 #[.int .i64 m] w fun e w' => e = .returned (.string (mkT m)) ∧ Below w.heap.size w w' := by
  have hr : Below w.heap.size w w := Below.refl _ _
  have hm0 : ¬ m ≤ 0 := by omega
  have HM := hide (show mkT m = ⟨#[109]⟩ ++ txL 4 m ⟨#[]⟩ from rfl)
  go_enter Try.func41, Try.ntmps41
  go_wp2
  go_loopw [0, 3] (fun nv sv wr => ∃ (f : Nat) (n : Int) (s : ByteArray), f ≤ 4 ∧ 0 ≤ n ∧ Hid (n < 10 ^ f) ∧ nv = .int .i64 n ∧ sv = .string s ∧ s.size + f ≤ 4 ∧ Hid (txL 4 m ⟨#[]⟩ = txL f n s) ∧ Below w.heap.size w wr) (fun nv _ _ => (intOf nv).toNat)
  case atStart => exact ⟨4, m, ⟨#[]⟩, by omega, by omega, hide (by omega), rfl, rfl, by simp [ByteArray.size], hide rfl, hr⟩
  case round =>
    obtain ⟨f, n, s, hf, hn, hnf, rfl, rfl, hs, ht, hb⟩ := hrel
    clear hr
    by_cases hpos : 0 < n
    · obtain ⟨f', rfl⟩ : ∃ f', f = f' + 1 := by
        cases f with
        | zero => have := hnf.out; simp at this; omega
        | succ f => exact ⟨f, rfl⟩
      have hn9 : n < 10000 := by
        have := hnf.out
        have h4 : (10 : Int) ^ (f' + 1) ≤ 10 ^ 4 := by
          have : (10 : Nat) ^ (f' + 1) ≤ 10 ^ 4 := Nat.pow_le_pow_right (by omega) (by omega)
          exact_mod_cast this
        omega
      have hpos' : ¬ n ≤ 0 := by omega
      have v1 : n.tmod 10 = n % 10 := Int.tmod_eq_emod_of_nonneg hn
      have v2 : n.tdiv 10 = n / 10 := Int.tdiv_eq_ediv_of_nonneg hn
      obtain ⟨d, hd⟩ : ∃ d, n % 10 = d := ⟨_, rfl⟩
      obtain ⟨q, hq⟩ : ∃ q, n / 10 = q := ⟨_, rfl⟩
      rw [hd] at v1
      rw [hq] at v2
      have hd0 : 0 ≤ d ∧ d ≤ 9 := by omega
      have hq0 : 0 ≤ q ∧ q ≤ n := by omega
      have Hq := hide (show q < 10 ^ f' by
        have := hnf.out
        rw [Int.pow_succ] at this
        omega)
      have Ht := hide (show txL 4 m ⟨#[]⟩ = txL f' q (strOfNums [48 + d] ++ s) by rw [ht.out, txL, if_pos hpos, hd, hq])
      have v3 : IntKind.i64.wrap (48 + d) = 48 + d := IntWalk.i64_in _ (by omega)
      have v4 : IntKind.u8.wrap (48 + d) = 48 + d := by
        rcases (show d = 0 ∨ d = 1 ∨ d = 2 ∨ d = 3 ∨ d = 4 ∨ d = 5 ∨ d = 6 ∨ d = 7 ∨ d = 8 ∨ d = 9 by omega) with rfl | rfl | rfl | rfl | rfl | rfl | rfl | rfl | rfl | rfl <;> rfl
      have v5 : IntKind.i64.wrap q = q := IntWalk.i64_in _ (by omega)
      have v6 : IntKind.i64.wrap d = d := IntWalk.i64_in _ (by omega)
      have hba := bl1 wr (.cells #[.int .u8 (48 + d)] 5)
      have hcv : (convert 60 9 (.slice (some ⟨wr.heap.size, 0, none⟩) 1 1)).run Try.prog (wr.alloc (.cells #[.int .u8 (48 + d)] 5)) = .ok (.string (strOfNums [48 + d])) (wr.alloc (.cells #[.int .u8 (48 + d)] 5)) := by
        refine run_convert_bytes_arg _ 60 5 Try.underlying60 Try.underlying5 wr.heap.size 0 1 1 [48 + d] rfl (fun i hi => ?_) _ Try.underlying9
        obtain rfl : i = 0 := by omega
        simp [go_sem]
      have hsz : (strOfNums [48 + d] ++ s).size = s.size + 1 := by rw [ByteArray.size_append, strOfNums_size]; simp; omega
      have Hs2 := hide (show (strOfNums [48 + d] ++ s).size + f' ≤ 4 by omega)
      have hs0 : ¬ 9223372036854775807 < (strOfNums [48 + d]).size + s.size := by rw [strOfNums_size]; simp; omega
      have hb2 := hb.trans (hba.mono hb.size)
      have Hm := hide (show q.toNat < n.toNat by omega)
      have Hf := hide (show f' ≤ 4 by omega)
      clear hd hq hsz hba hb hs ht hf
      go_wp2
      go_roundw
      case rel => exact ⟨f', q, _, Hf.out, hq0.1, Hq, rfl, rfl, Hs2.out, Ht, hb2⟩
      case measure => simp [intOf]; have := Hm.out; omega
    · have hpos' : n ≤ 0 := by omega
      have hfin : (⟨#[109]⟩ : ByteArray) ++ s = mkT m := by
        rw [HM.out, ht.out]
        cases f with
        | zero => rfl
        | succ f => rw [txL, if_neg hpos]
      have hs0 : ¬ 9223372036854775807 < (⟨#[109]⟩ : ByteArray).size + s.size := by
        show ¬ 9223372036854775807 < 1 + s.size
        omega
      clear hs ht
      go_wp2
      refine bodyPost_ret (v := .string (mkT m)) (by simp [results, Try.results41, hfin]) rfl ?_
      exact ⟨rfl, hb⟩
def tsV (f : Nat → ByteArray) (n : Nat) : List Value := (List.range n).map (fun j => .string (f j))
theorem tsV_len (f : Nat → ByteArray) (n : Nat) : (tsV f n).length = n := by simp [tsV]
theorem tsV_at (f : Nat → ByteArray) (n : Nat) (j : Nat) (hj : j < n) : (tsV f n)[j]? = some (.string (f j)) := by simp [tsV, hj]
theorem tsV_congr {f g : Nat → ByteArray} {n : Nat} (e : ∀ j, j < n → f j = g j) : tsV f n = tsV g n := by
  unfold tsV
  apply List.map_congr_left
  intro j hj
  rw [e j (List.mem_range.1 hj)]
theorem tsV_set (f : Nat → ByteArray) (n i : Nat) (v : ByteArray) : (tsV f n).set i (.string v) = tsV (fun j => if j = i then v else f j) n := by
  apply List.ext_getElem?
  intro j
  rw [List.getElem?_set]
  by_cases hj : j < n
  · by_cases e : i = j
    · subst e
      simp [tsV, hj]
    · have e' : ¬ j = i := fun h => e h.symm
      simp [tsV, hj, e, e']
  · by_cases e : i = j
    · subst e
      simp [tsV, hj]
    · simp [tsV, hj, e]
theorem tsV_of (l : List ByteArray) : l.map Value.string = tsV (fun j => l.getD j ⟨#[]⟩) l.length := by
  apply List.ext_getElem?
  intro j
  by_cases hj : j < l.length
  · simp [tsV, hj, List.getD_eq_getElem?_getD]
  · simp [tsV, hj]
theorem OwnT.cellG {B : Nat} {w : World} {g c : Nat} {f : Nat → ByteArray} {n : Nat} (h : OwnT B w (some ⟨g, 0, none⟩) c (tsV f n)) (j : Nat) (hj : j < n) : w.cell? ⟨g, j, none⟩ = some (.string (f j)) := by
  have := World.ownsRow.cellAt h j (by rw [tsV_len, Nat.mul_one]; exact hj)
  rw [this, tsV_at _ _ _ hj]
theorem OwnT.freeG {B : Nat} {w : World} {g c : Nat} {ys : List Value} (h : OwnT B w (some ⟨g, 0, none⟩) c ys) (j : Nat) : w.frozen? ⟨g, j, none⟩ = false := World.ownsRow.frozenAt h j
theorem OwnT.setG {B : Nat} {w : World} {g c : Nat} {ys : List Value} (h : OwnT B w (some ⟨g, 0, none⟩) c ys) (j : Nat) (u : Value) : OwnT B (w.setCell ⟨g, j, none⟩ u) (some ⟨g, 0, none⟩) c (ys.set j u) := by
  have := (World.ownsRow.stored h j u).1
  unfold OwnT
  rw [List.length_set]
  exact this
def mxF (k0 : Int) (f : Nat → ByteArray) (k : Nat) : Nat → ByteArray := fun j => if j < k then mkT (k0 + j) else f j
theorem mxF_step (k0 : Int) (f : Nat → ByteArray) (n k : Nat) : (tsV (mxF k0 f k) n).set k (.string (mkT (k0 + k))) = tsV (mxF k0 f (k + 1)) n := by
  rw [tsV_set]
  apply tsV_congr
  intro j hj
  unfold mxF
  by_cases e : j = k
  · subst e
    rw [if_pos rfl, if_pos (by omega)]
  · rw [if_neg e]
    by_cases e2 : j < k
    · rw [if_pos e2, if_pos (by omega)]
    · rw [if_neg e2, if_neg (by omega)]
theorem mxF_zero (k0 : Int) (f : Nat → ByteArray) (n : Nat) : tsV (mxF k0 f 0) n = tsV f n := tsV_congr fun j hj => by unfold mxF; rw [if_neg (by omega)]
theorem mxF_all (k0 : Int) (f : Nat → ByteArray) (n : Nat) : tsV (mxF k0 f n) n = tsV (fun j => mkT (k0 + j)) n := tsV_congr fun j hj => by unfold mxF; rw [if_pos hj]
set_option maxRecDepth 100000 in
set_option maxHeartbeats 1600000 in
theorem markT (B : Nat) (a : Option Addr) (n c : Nat) (f : Nat → ByteArray) (k0 : Int) (w : World) (ho : OwnT B w a c (tsV f n)) (hn : n ≤ 1000) (h1 : 1 ≤ k0) (h2 : k0 ≤ 1000) (hB : B ≤ w.heap.size) :
    Calls Try.prog 22 #[.slice a n c, .int .i64 k0] w fun e w' => e = .returned (.int .i64 (k0 + n)) ∧ OwnT B w' a c (tsV (fun j => mkT (k0 + j)) n) ∧ Below B w w' := by
  by_cases h0 : n = 0
  · subst h0
    have hr : Below B w w := Below.refl _ _
    go_enter Try.func22, Try.ntmps22
    go_wp2
    refine wp_loop_rounds 1 ?_
    rw [rounds_succ]
    go_wp2
    go_ret
    exact ⟨ret_int (by simp), ho, hr⟩
  obtain ⟨g, rfl, _⟩ := ho.at (by rw [tsV_len]; exact h0)
  have HG := hide (ho.blkG g rfl)
  have ho0 : Hid (OwnT B w (some ⟨g, 0, none⟩) c (tsV (mxF k0 f 0) n)) := hide (by rw [mxF_zero]; exact ho)
  have hg0 : Hid (Touch g (g + 1) w w) := hide ⟨rfl, rfl, rfl, Nat.le_refl _, fun _ _ _ => rfl⟩
  clear ho
  go_enter Try.func22, Try.ntmps22
  go_wp2
  go_loopw [1, 5] (fun qv kv wr => ∃ k : Nat, k ≤ n ∧ kv = .int .i64 k ∧ qv = .int .i64 (k0 + k) ∧ Hid (OwnT B wr (some ⟨g, 0, none⟩) c (tsV (mxF k0 f k) n)) ∧ Hid (Touch g (g + 1) w wr)) (fun _ kv _ => n - (intOf kv).toNat)
  case atStart => exact ⟨0, by omega, rfl, by go_num, ho0, hg0⟩
  case round =>
    obtain ⟨k, hk, rfl, rfl, hO, ht⟩ := hrel
    clear ho0 hg0
    by_cases hlt : k < n
    · have hlt' : (k : Int) < (n : Int) := by omega
      have p0 : (0 : Int) ≤ (k : Int) := by omega
      have v1 : IntKind.i64.wrap ((k : Int) + 1) = (k : Int) + 1 := IntWalk.i64_in _ (by omega)
      obtain ⟨q, hq⟩ : ∃ q, k0 + (k : Int) = q := ⟨_, rfl⟩
      rw [hq]
      have v2 : IntKind.i64.wrap (q + 1) = q + 1 := IntWalk.i64_in _ (by omega)
      have Hq := hide hq
      have q1 : 1 ≤ q := by omega
      have q2 : q ≤ 9999 := by omega
      clear hq
      go_wp2_with fail
      refine (markText_any q _ q1 q2).mono ?_
      rintro e w2 ⟨rfl, t2⟩
      have hO2 := hide (hO.out.below t2)
      have ht2 := hide (ht.out.trans (Touch.ofBelow t2))
      have c1 := OwnT.cellG hO2.out k hlt
      have f1 := OwnT.freeG hO2.out k
      have hs := hide (show OwnT B (w2.setCell ⟨g, k, none⟩ (.string (mkT q))) (some ⟨g, 0, none⟩) c (tsV (mxF k0 f (k + 1)) n) by
        have s1 := OwnT.setG hO2.out k (.string (mkT q))
        rwa [← Hq.out, mxF_step, Hq.out] at s1)
      obtain ⟨T, hT⟩ : ∃ T, mkT q = T := ⟨_, rfl⟩
      rw [hT] at hs ⊢
      clear hT t2 hO ht hO2
      go_wp2
      go_roundw
      case rel => exact ⟨k + 1, by omega, by go_num, by rw [← Hq.out]; go_num, hs, hide (ht2.out.put' (by simp) (by simp) _)⟩
      case measure => simp [intOf]; omega
    · have hke := hide (show k = n by omega)
      have hge : ¬ (k : Int) < (n : Int) := by omega
      go_wp2
      refine bodyPost_ret (v := .int .i64 (k0 + (k : Int))) (by simp [results, Try.results22]) rfl ?_
      refine ⟨by rw [hke.out], ?_, below_touch (Below.refl _ _) ht.out HG.out hB⟩
      have q := hO.out
      rwa [hke.out, mxF_all] at q
set_option maxRecDepth 100000 in
set_option maxHeartbeats 1600000 in
theorem heldT (B : Nat) (a : Option Addr) (n c : Nat) (k0 : Int) (w : World) (ho : OwnT B w a c (tsV (fun j => mkT (k0 + j)) n)) (hn : n ≤ 1000) (h1 : 1 ≤ k0) (h2 : k0 ≤ 1000) :
    Calls Try.prog 23 #[.slice a n c, .int .i64 k0] w fun e w' => e = .returned (.int .i64 (k0 + n)) ∧ Below w.heap.size w w' := by
  have hr : Below w.heap.size w w := Below.refl _ _
  by_cases h0 : n = 0
  · subst h0
    go_enter Try.func23, Try.ntmps23
    go_wp2
    refine wp_loop_rounds 1 ?_
    rw [rounds_succ]
    go_wp2
    go_ret
    exact ⟨ret_int (by simp), hr⟩
  obtain ⟨g, rfl, _⟩ := ho.at (by rw [tsV_len]; exact h0)
  have HO := hide ho
  clear ho
  go_enter Try.func23, Try.ntmps23
  go_wp2
  go_loopw [1, 5] (fun qv kv wr => ∃ k : Nat, k ≤ n ∧ kv = .int .i64 k ∧ qv = .int .i64 (k0 + k) ∧ Below w.heap.size w wr) (fun _ kv _ => n - (intOf kv).toNat)
  case atStart => exact ⟨0, by omega, rfl, by go_num, hr⟩
  case round =>
    obtain ⟨k, hk, rfl, rfl, hb⟩ := hrel
    clear hr
    by_cases hlt : k < n
    · have hlt' : (k : Int) < (n : Int) := by omega
      have p0 : (0 : Int) ≤ (k : Int) := by omega
      have v1 : IntKind.i64.wrap ((k : Int) + 1) = (k : Int) + 1 := IntWalk.i64_in _ (by omega)
      have e1 := cell_be hb (OwnT.cellG HO.out k hlt)
      obtain ⟨q, hq⟩ : ∃ q, k0 + (k : Int) = q := ⟨_, rfl⟩
      rw [hq] at e1 ⊢
      have v2 : IntKind.i64.wrap (q + 1) = q + 1 := IntWalk.i64_in _ (by omega)
      have Hq := hide hq
      have q1 : 1 ≤ q := by omega
      have q2 : q ≤ 9999 := by omega
      clear hq
      have hbd := (Below.refl wr.heap.size wr).drew
      have F0 : ∀ w', Below wr.heap.size wr w' → w'.cell? ⟨g, k, none⟩ = some (.string (mkT q)) := fun w' t => cell_be t e1
      obtain ⟨T, hT⟩ : ∃ T, mkT q = T := ⟨_, rfl⟩
      have HT := hide hT
      rw [hT] at e1 F0
      clear hT
      go_wp2_with fail
      go_region_held3 (fun w' => w'.cell? ⟨g, k, none⟩ = some (.string T))
        (exact F0 _ (by assumption))
        (first
        | (go_at_call 41; refine (markText_any q _ q1 q2).mono ?_; rintro e wn ⟨rfl, hn1⟩; rw [HT.out]; have hm := bnext hbd hn1))
      have hb2 := hb.trans (hm.mono hb.size)
      clear F0 hm hbd e1
      go_wp2
      go_roundw
      case rel => exact ⟨k + 1, by omega, by go_num, by rw [← Hq.out]; go_num, hb2⟩
      case measure => simp [intOf]; omega
    · have hke := hide (show k = n by omega)
      have hge : ¬ (k : Int) < (n : Int) := by omega
      go_wp2
      refine bodyPost_ret (v := .int .i64 (k0 + (k : Int))) (by simp [results, Try.results23]) rfl ?_
      exact ⟨by rw [hke.out], hb⟩
end Go.Proofs.Ythahcnmfaghohaa
/- Contracts: l09Counts (model). -/
namespace Go.Proofs.Ythahcnmfaghohaa
open Go.RowKit
set_option linter.unusedVariables false
set_option linter.unusedSimpArgs false

theorem addAt_nil {p : Int} {row : List Int} (h : rngL p row) (t : Nat) : addAt p row t 0 = row := by
  unfold addAt
  have := h t
  rw [Int.add_zero, Int.emod_eq_of_lt this.1 this.2]
  refine ext_tab (by simp) (fun j hj => ?_)
  rw [getD_setI]
  split
  · rename_i e; rw [e.1]
  · rfl
/-- no sum on the way reaches p -/
theorem cnt_mid {p : Int} {A B v row : List Int} (hA : bitL A) (hB : bitL B) (hv : nnL v) (hn : nnL row) (h : Nat) (hb : totL row + 3 * v.getD h 0 < p) :
    row.getD h 0 + A.getD h 0 * v.getD h 0 < p ∧ (h ≠ 0 → (addAt p row h (A.getD h 0 * v.getD h 0)).getD (h - 1) 0 + v.getD h 0 < p) ∧
    (rndD p B v (addAt p row h (A.getD h 0 * v.getD h 0)) h).getD (h + 1) 0 + v.getD h 0 < p := by
  have hv0 := hv h
  have a1 : 0 ≤ A.getD h 0 * v.getD h 0 ∧ A.getD h 0 * v.getD h 0 ≤ v.getD h 0 := by rcases hA h with e | e <;> rw [e] <;> omega
  have b1 : 0 ≤ B.getD h 0 * v.getD h 0 ∧ B.getD h 0 * v.getD h 0 ≤ v.getD h 0 := by rcases hB h with e | e <;> rw [e] <;> omega
  obtain ⟨_, x1, x2, x3⟩ := addAt_small (p := p) hn h a1.1 (by omega)
  have d : nnL (rndD p B v (addAt p row h (A.getD h 0 * v.getD h 0)) h) ∧ totL (rndD p B v (addAt p row h (A.getD h 0 * v.getD h 0)) h) ≤ totL row + 2 * v.getD h 0 := by
    unfold rndD
    split
    · exact ⟨x1, by omega⟩
    · obtain ⟨_, y1, y2, _⟩ := addAt_small (p := p) x1 (h - 1) b1.1 (by omega)
      exact ⟨y1, by omega⟩
  have c := totL_at _ (h + 1) d.1
  have c2 := totL_at _ (h - 1) x1
  exact ⟨x3, fun _ => by omega, by omega⟩
/-- what the rounds keep: the old row, the new one -/
structure CntI (w wr : World) (g gN : Nat) (v row : List Int) : Prop where
  old : RowI wr g v
  new : RowI wr gN row
  bel : Below w.heap.size w wr
  lg : w.heap.size ≤ g
  lN : w.heap.size ≤ gN
  ne : g ≠ gN
theorem CntI.below {w wr w' : World} {g gN : Nat} {v row : List Int} (h : CntI w wr g gN v row) (t : Below wr.heap.size wr w') : CntI w w' g gN v row :=
  ⟨h.old.next t, h.new.next t, h.bel.trans (t.mono h.bel.size), h.lg, h.lN, h.ne⟩
theorem CntI.put {w wr : World} {g gN : Nat} {v row : List Int} (h : CntI w wr g gN v row) (j : Nat) (x : Int) : CntI w (wr.setCell ⟨gN, j, none⟩ (.int .i64 x)) g gN v (row.set j x) :=
  ⟨h.old.other (fun e => h.ne e.symm) _, h.new.set j x, h.bel.setCell h.lN _, h.lg, h.lN, h.ne⟩
def lvl (b : Bool) : Int := if b then 0 else 1
theorem lvl_bit (b : Bool) : lvl b = 0 ∨ lvl b = 1 := by cases b <;> simp [lvl]
set_option maxRecDepth 100000 in
set_option maxHeartbeats 12800000 in
theorem l09Counts_any (N i M : Nat) (lb : Bool) (w : World) (hN : N ≤ 24) (hi : i ≤ 1000) (hM : M ≤ 1000) :
    Calls Try.prog 50 #[.int .i64 N, .int .i64 i, .int .i64 M, .bool lb] w fun e w' => ∃ a', e = .returned (.slice a' (M + 1) (M + 1)) ∧ Own w.heap.size w' a' (M + 1) (rowP cntP (cntL (M + 1) (lvl lb)) (cntL (M + 1) 1) (M + 1) i N) ∧ Below w.heap.size w w' := by
  have q0 : (0 : Int) ≤ (i : Int) := by omega
  obtain ⟨m, hm⟩ : ∃ m, m = M + 1 := ⟨_, rfl⟩
  have vm : IntKind.i64.wrap ((M : Int) + 1) = (M : Int) + 1 := IntWalk.i64_in _ (by omega)
  have HA := hide (cntL_bit (M + 1) (lvl lb) (lvl_bit lb))
  have HB := hide (cntL_bit (M + 1) 1 (.inr rfl))
  rw [← hm] at HA HB ⊢
  have Hm := hide hm
  have HA0 := hide (fun h (hh : h < m) => show (cntL m (lvl lb)).getD h 0 = lvl lb by rw [cntL_at, if_pos hh])
  have HB0 := hide (fun h (hh : h < m) => show (cntL m 1).getD h 0 = 1 by rw [cntL_at, if_pos hh])
  obtain ⟨A, hAA⟩ : ∃ A, cntL m (lvl lb) = A := ⟨_, rfl⟩
  obtain ⟨B, hBB⟩ : ∃ B, cntL m 1 = B := ⟨_, rfl⟩
  rw [hAA] at HA HA0 ⊢
  rw [hBB] at HB HB0 ⊢
  have hmM2 : M < m := by omega
  have hm1 : m ≤ 1001 := by omega
  clear hm hAA hBB
  go_enter Try.func50, Try.ntmps50
  go_upto_if 17 with (at_make; refine wp_make rfl _ _ rfl _ _ m rfl rfl (by have := Hm.out; omega) (by have := Hm.out; omega) (by omega) ?_; intro w1 hrow hB1 hsz; have hrow2 := hide hrow.out)
  go_cut [] (fun wx => Hid (RowI wx w.heap.size (rowP cntP A B m i 0)) ∧ Hid (Below w.heap.size w wx) ∧ w.heap.size < wx.heap.size)
  case first =>
    by_cases him : i < m
    · have him' : (i : Int) < (m : Int) := by omega
      have him2 : (i : Int) ≤ (M : Int) := by have := Hm.out; omega
      have e1 := hrow2.out.cell i (by rw [List.length_replicate]; exact him)
      rw [zeroD] at e1
      have fr := hrow2.out.free i
      have Z1 := hide (show RowI (w1.setCell ⟨w.heap.size, i, none⟩ (.int .i64 1)) w.heap.size (rowP cntP A B m i 0) from hrow2.out.set i 1)
      have Z3 := hide (hB1.setCell (p := ⟨w.heap.size, i, none⟩) (Nat.le_refl _) (.int .i64 1))
      have Z4 : w.heap.size < (w1.setCell ⟨w.heap.size, i, none⟩ (.int .i64 1)).heap.size := by simpa using hsz
      go_wp2
      go_meet
      exact ⟨Z1, Z3, Z4⟩
    · have him2 : ¬ (i : Int) ≤ (M : Int) := by have := Hm.out; omega
      have Z1 := hide (show RowI w1 w.heap.size (rowP cntP A B m i 0) from by
        rw [rowP, List.set_eq_of_length_le (by simp; omega)]
        exact hrow2.out)
      have Z3 := hide hB1
      go_wp2
      go_meet
      exact ⟨Z1, Z3, hsz⟩
  case rest =>
    obtain ⟨Z1, Z3, Z4⟩ := hcut
    obtain ⟨wy, hwy⟩ : ∃ w6, w6 = wc := ⟨wc, rfl⟩
    subst hwy
    clear hrow2 hrow hsz hB1
    go_wp2_with fail
    go_loopw [0, 9] (fun nv ov wr => ∃ (t g : Nat), t ≤ N ∧ nv = .int .i64 ((N - t : Nat) : Int) ∧ ov = .slice (some ⟨g, 0, none⟩) m m ∧ Hid (RowI wr g (rowP cntP A B m i t)) ∧ Hid (Below w.heap.size w wr) ∧ w.heap.size ≤ g ∧ w.heap.size < wr.heap.size) (fun nv _ _ => (intOf nv).toNat)
    case atStart => exact ⟨0, w.heap.size, by omega, rfl, rfl, Z1, Z3, by omega, by omega⟩
    case round =>
      obtain ⟨t, g, ht, rfl, rfl, hR, hW, hg, hz⟩ := hrel
      clear Z1 Z3 Z4
      by_cases hlt : t < N
      · have hpos : (0 : Int) < ((N - t : Nat) : Int) := by omega
        have hne : ¬ N - t = 0 := by omega
        have Hgl := hide hR.out.lt
        go_upto_region 7 with (at_make; refine wp_make rfl _ _ rfl _ _ m rfl rfl (by have := Hm.out; omega) (by have := Hm.out; omega) (by omega) ?_; intro w2 hrow hb hsz)
        have hI : CntI w w2 g wr.heap.size (rowP cntP A B m i t) (rndsP cntP A B (rowP cntP A B m i t) 0) :=
          ⟨hR.out.next hb, by have := hrow.out; rwa [rndsP, rowP_len], hW.out.trans (hb.mono hW.out.size), hg, by omega, by have := Hgl.out; omega⟩
        have HI := hide hI
        obtain ⟨gN, hgN⟩ : ∃ gN, gN = wr.heap.size := ⟨_, rfl⟩
        rw [← hgN] at HI ⊢
        have hz2 : w.heap.size < w2.heap.size := by omega
        have Hvl := hide (rowP_len cntP A B m i t)
        have Hvs := hide (row_small (p := cntP) HA.out HB.out m i (by decide) t (by omega))
        have Hvr := hide (rowP_rng (p := cntP) (by decide) A B m i t)
        have HNx := hide (show rowP cntP A B m i (t + 1) = rndsP cntP A B (rowP cntP A B m i t) m by rw [rowP, sprP, rowP_len])
        have Htt := hide (show 3 * totL (rowP cntP A B m i t) < cntP by
          have h3 : (3 : Int) ^ t ≤ 3 ^ 23 := by
            have : (3 : Nat) ^ t ≤ 3 ^ 23 := Nat.pow_le_pow_right (by omega) (by omega)
            exact_mod_cast this
          have h4 : (3 : Int) ^ 23 = 94143178827 := by decide
          have := Hvs.out.2
          show 3 * totL (rowP cntP A B m i t) < 1099511627776
          omega)
        obtain ⟨v, hv⟩ : ∃ v, rowP cntP A B m i t = v := ⟨_, rfl⟩
        rw [hv] at HI Hvl Hvr HNx Hvs Htt
        clear hI hrow hb hsz hR hW Hgl hv hgN
        go_wp2_with fail
        go_loopw [11] (fun hv wx => ∃ h : Nat, h ≤ m ∧ hv = .int .i64 h ∧ Hid (CntI w wx g gN v (rndsP cntP A B v h)) ∧ w.heap.size < wx.heap.size) (fun hv _ => m - (intOf hv).toNat)
        case atStart => exact ⟨0, by omega, rfl, HI, hz2⟩
        case round =>
          obtain ⟨h, hh, rfl, HIx, hzx⟩ := hrel
          clear HI hz2
          by_cases hhm : h < m
          · have hhm' : (h : Int) < (m : Int) := by omega
            have hhM : (h : Int) ≤ (M : Int) := by have := Hm.out; omega
            have hh0 : (0 : Int) ≤ (h : Int) := by omega
            have rX := Hvr.out h
            have Hsm := hide (rnds_small (p := cntP) HA.out HB.out Hvs.out.1 Htt.out h (by rw [Hvl.out]; exact hh))
            have Hbd := hide (show totL (rndsP cntP A B v h) + 3 * v.getD h 0 < cntP by
              have q := totN_le Hvs.out.1 (h + 1) v.length (by rw [Hvl.out]; exact hhm)
              rw [totN_all, totN] at q
              have := Hsm.out.2
              have := Htt.out
              omega)
            have Hmid := hide (cnt_mid (p := cntP) HA.out HB.out Hvs.out.1 Hsm.out.1 h Hbd.out)
            have Hrr := hide (rndsP_rng (p := cntP) (by decide) A B v h)
            have Hrl := hide (show (rndsP cntP A B v h).length = m by rw [rndsP_len, Hvl.out])
            have HNr := hide (show rndsP cntP A B v (h + 1) = addAt cntP (rndD cntP B v (addAt cntP (rndsP cntP A B v h) h (A.getD h 0 * v.getD h 0)) h) (h + 1) (v.getD h 0) by rw [rndsP, rndP_LDU])
            obtain ⟨row, hrow⟩ : ∃ row, rndsP cntP A B v h = row := ⟨_, rfl⟩
            rw [hrow] at HIx Hrr Hrl HNr Hmid
            have HD0 := hide (fun (e : h = 0) (r : List Int) => show rndD cntP B v r h = r by unfold rndD; rw [if_pos e])
            have HD1 := hide (fun (e : h ≠ 0) (r : List Int) => show rndD cntP B v r h = addAt cntP r (h - 1) (v.getD h 0) by unfold rndD; rw [if_neg e, HB0.out h hhm, Int.one_mul])
            rw [HA0.out h hhm] at HNr Hmid
            obtain ⟨X, hX⟩ : ∃ X, v.getD h 0 = X := ⟨_, rfl⟩
            rw [hX] at rX HNr Hmid HD1
            have HX := hide hX
            clear hX hrow Hsm Hbd
            by_cases hd : h = 0
            · have Hd := hide hd
              clear hd
              by_cases hu : h + 1 < m
              · cases lb
                · have HN2 := hide (show rndsP cntP A B v (h + 1) = addAt cntP (rndD cntP B v (addAt cntP row h X) h) (h + 1) X by have q := HNr.out; rwa [show lvl false = 1 from rfl, Int.one_mul] at q)
                  have Hm2 := hide (show row.getD h 0 + X < cntP ∧ (h ≠ 0 → (addAt cntP row h X).getD (h - 1) 0 + X < cntP) ∧ (rndD cntP B v (addAt cntP row h X) h).getD (h + 1) 0 + X < cntP by have q := Hmid.out; rwa [show lvl false = 1 from rfl, Int.one_mul] at q)
                  clear Hmid HNr
                  have zc := HIx.out.new.cell h (by rw [Hrl.out]; omega)
                  have yc := HIx.out.new.free h
                  have rc := Hrr.out h
                  have bc : (row).getD h 0 + X < cntP := Hm2.out.1
                  obtain ⟨R, hR⟩ : ∃ R, (row).getD h 0 = R := ⟨_, rfl⟩
                  rw [hR] at zc rc bc
                  have HR := hide hR
                  have xc := HIx.out.old.cell h (by rw [Hvl.out]; exact hhm)
                  rw [HX.out] at xc
                  have w1 : IntKind.i64.wrap (R + X) = R + X := IntWalk.i64_in _ (by unfold cntP at bc; omega)
                  have hbd := (Below.refl wr.heap.size wr).drew
                  have w3 := hide (show (R + X) % cntP = R + X from Int.emod_eq_of_lt (by omega) bc)
                  clear hR bc
                  go_upto_region 11 with fail
                  refine region_E (fun w' => w'.cell? ⟨gN, h, none⟩ = some (.int .i64 R) ∧ w'.cell? ⟨g, h, none⟩ = some (.int .i64 X)) 12 (by kernel_rfl) ⟨cell_be hbd zc, cell_be hbd xc⟩ ?_
                  intro hS
                  refine anyE_takeL 0 rfl (by kernel_rfl) (fun _ _ _ h => h) hS (by rfl) (v := ?_) ?_ ?_
                  rotate_left
                  · intro w' hSw; (try dsimp only at hSw); go_simp; (try with_reducible rfl)
                  try simp only [Act.put, List.setIfInBounds_toArray, List.set_cons_zero, List.set_cons_succ]
                  refine anyE_takeL 1 rfl (by kernel_rfl) (fun _ _ _ h => h) hS (by rfl) (v := ?_) ?_ ?_
                  rotate_left
                  · intro w' hSw; (try dsimp only at hSw); go_simp; (try with_reducible rfl)
                  try simp only [Act.put, List.setIfInBounds_toArray, List.set_cons_zero, List.set_cons_succ]
                  refine anyE_takeL 2 rfl (by kernel_rfl) (fun _ _ _ h => h) hS (by rfl) (v := ?_) ?_ ?_
                  rotate_left
                  · intro w' hSw; (try dsimp only at hSw); go_simp; (try with_reducible rfl)
                  try simp only [Act.put, List.setIfInBounds_toArray, List.set_cons_zero, List.set_cons_succ]
                  refine anyE_takeL 3 rfl (by kernel_rfl) (fun _ _ _ h => h) hS (by rfl) (v := ?_) ?_ ?_
                  rotate_left
                  · intro w' hSw; (try dsimp only at hSw); go_simp; (try with_reducible rfl)
                  try simp only [Act.put, List.setIfInBounds_toArray, List.set_cons_zero, List.set_cons_succ]
                  refine anyE_takeL 4 rfl (by kernel_rfl) (fun _ _ _ h => h) hS (by rfl) (v := ?_) ?_ ?_
                  rotate_left
                  · intro w' hSw; (try dsimp only at hSw); go_simp; (try with_reducible rfl)
                  try simp only [Act.put, List.setIfInBounds_toArray, List.set_cons_zero, List.set_cons_succ]
                  refine anyE_takeL 5 rfl (by kernel_rfl) (fun _ _ _ h => h) hS (by rfl) (v := ?_) ?_ ?_
                  rotate_left
                  · intro w' hSw; (try dsimp only at hSw); go_simp; (try with_reducible rfl)
                  try simp only [Act.put, List.setIfInBounds_toArray, List.set_cons_zero, List.set_cons_succ]
                  refine anyE_takeL 6 rfl (by kernel_rfl) (fun _ _ _ h => h) hS (by rfl) (v := ?_) ?_ ?_
                  rotate_left
                  · intro w' hSw; (try dsimp only at hSw); go_simp; (try with_reducible rfl)
                  try simp only [Act.put, List.setIfInBounds_toArray, List.set_cons_zero, List.set_cons_succ]
                  refine anyE_takeL 7 rfl (by kernel_rfl) (fun _ _ _ h => h) hS (by rfl) (v := ?_) ?_ ?_
                  rotate_left
                  · intro w' hSw; (try dsimp only at hSw); go_simp; (try with_reducible rfl)
                  try simp only [Act.put, List.setIfInBounds_toArray, List.set_cons_zero, List.set_cons_succ]
                  refine anyE_takeL 8 rfl (by kernel_rfl) (fun _ _ _ h => h) hS (by rfl) (v := ?_) ?_ ?_
                  rotate_left
                  · intro w' hSw; (try dsimp only at hSw); go_simp; (try with_reducible rfl)
                  try simp only [Act.put, List.setIfInBounds_toArray, List.set_cons_zero, List.set_cons_succ]
                  refine anyE_takeL 9 rfl (by kernel_rfl) (fun _ _ _ h => h) hS (by rfl) (v := ?_) ?_ ?_
                  rotate_left
                  · intro w' hSw; (try dsimp only at hSw); go_simp; (try with_reducible rfl)
                  try simp only [Act.put, List.setIfInBounds_toArray, List.set_cons_zero, List.set_cons_succ]
                  refine anyE_takeL 10 rfl (by kernel_rfl) (fun _ _ _ h => h) hS (by rfl) (v := ?_) ?_ ?_
                  rotate_left
                  · intro w' hSw; (try dsimp only at hSw); go_simp; (try with_reducible rfl)
                  try simp only [Act.put, List.setIfInBounds_toArray, List.set_cons_zero, List.set_cons_succ]
                  refine anyE_takeL 11 rfl (by kernel_rfl) (fun _ _ _ h => h) hS (by rfl) (v := ?_) ?_ ?_
                  rotate_left
                  · intro w' hSw; (try dsimp only at hSw); go_simp; (try with_reducible rfl)
                  try simp only [Act.put, List.setIfInBounds_toArray, List.set_cons_zero, List.set_cons_succ]
                  replace yc := fr_be hbd zc yc
                  replace zc := cell_be hbd zc
                  have HIn := (HIx.out.put h (R + X)).below (Below.refl _ _).drew
                  rw [show (row).set h (R + X) = addAt cntP row h X from by rw [← w3.out]; exact ad_at cntP _ _ _ R HR.out] at HIn
                  have HIm := hide HIn
                  have hzd : w.heap.size < (wr.setCell ⟨gN, h, none⟩ (.int .i64 (R + X))).drew.heap.size := by simp; omega
                  refine anyE_lastL (by kernel_rfl) rfl (by kernel_rfl) (fun K' hK' => ?_)
                  go_simp
                  refine hK'.out _ _ ?_
                  clear hK' K' hS HIn zc yc rc xc w1 w3 hbd HIx HR
                  try simp only [Act.put, List.setIfInBounds_toArray, List.set_cons_zero, List.set_cons_succ]
                  obtain ⟨wa, hwn⟩ : ∃ wn, wn = (wr.setCell ⟨gN, h, none⟩ (.int .i64 (R + X))).drew := ⟨_, rfl⟩
                  rw [← hwn] at HIm hzd ⊢
                  have HIx := HIm
                  replace Hrr := hide (rngL_add (p := cntP) (by decide) Hrr.out h X)
                  replace Hrl := hide (show (addAt cntP row h X).length = m by rw [addAt_len, Hrl.out])
                  clear HIm hwn hzx
                  have hzx := hzd
                  clear hzd
                  have d1 : ¬ (0 : Int) < (h : Int) := by have := Hd.out; omega
                  rw [HD0.out Hd.out] at HN2 Hm2
                  have u1 : IntKind.i64.wrap ((h : Int) + 1) = (h : Int) + 1 := IntWalk.i64_in _ (by omega)
                  have u2 : (h : Int) < (M : Int) := by have := Hm.out; omega
                  have u3 : (0 : Int) ≤ (h : Int) + 1 := by omega
                  have u4 : ((h : Int) + 1).toNat = h + 1 := by omega
                  have u5 : (h : Int) + 1 < (m : Int) := by omega
                  have zc := HIx.out.new.cell (h + 1) (by rw [Hrl.out]; omega)
                  have yc := HIx.out.new.free (h + 1)
                  have rc := Hrr.out (h + 1)
                  have bc : (addAt cntP row h X).getD (h + 1) 0 + X < cntP := Hm2.out.2.2
                  obtain ⟨R, hR⟩ : ∃ R, (addAt cntP row h X).getD (h + 1) 0 = R := ⟨_, rfl⟩
                  rw [hR] at zc rc bc
                  have HR := hide hR
                  have xc := HIx.out.old.cell h (by rw [Hvl.out]; exact hhm)
                  rw [HX.out] at xc
                  have w1 : IntKind.i64.wrap (R + X) = R + X := IntWalk.i64_in _ (by unfold cntP at bc; omega)
                  have hbd := (Below.refl wa.heap.size wa).drew
                  have w3 := hide (show (R + X) % cntP = R + X from Int.emod_eq_of_lt (by omega) bc)
                  clear hR bc
                  go_upto_region 15 with fail
                  refine region_E (fun w' => w'.cell? ⟨gN, (h + 1), none⟩ = some (.int .i64 R) ∧ w'.cell? ⟨g, h, none⟩ = some (.int .i64 X)) 14 (by kernel_rfl) ⟨cell_be hbd zc, cell_be hbd xc⟩ ?_
                  intro hS
                  refine anyE_takeL 0 rfl (by kernel_rfl) (fun _ _ _ h => h) hS (by rfl) (v := ?_) ?_ ?_
                  rotate_left
                  · intro w' hSw; (try dsimp only at hSw); go_simp; (try with_reducible rfl)
                  try simp only [Act.put, List.setIfInBounds_toArray, List.set_cons_zero, List.set_cons_succ]
                  refine anyE_takeL 1 rfl (by kernel_rfl) (fun _ _ _ h => h) hS (by rfl) (v := ?_) ?_ ?_
                  rotate_left
                  · intro w' hSw; (try dsimp only at hSw); go_simp; (try with_reducible rfl)
                  try simp only [Act.put, List.setIfInBounds_toArray, List.set_cons_zero, List.set_cons_succ]
                  refine anyE_takeL 2 rfl (by kernel_rfl) (fun _ _ _ h => h) hS (by rfl) (v := ?_) ?_ ?_
                  rotate_left
                  · intro w' hSw; (try dsimp only at hSw); go_simp; (try with_reducible rfl)
                  try simp only [Act.put, List.setIfInBounds_toArray, List.set_cons_zero, List.set_cons_succ]
                  refine anyE_takeL 3 rfl (by kernel_rfl) (fun _ _ _ h => h) hS (by rfl) (v := ?_) ?_ ?_
                  rotate_left
                  · intro w' hSw; (try dsimp only at hSw); go_simp; (try with_reducible rfl)
                  try simp only [Act.put, List.setIfInBounds_toArray, List.set_cons_zero, List.set_cons_succ]
                  refine anyE_takeL 4 rfl (by kernel_rfl) (fun _ _ _ h => h) hS (by rfl) (v := ?_) ?_ ?_
                  rotate_left
                  · intro w' hSw; (try dsimp only at hSw); go_simp; (try with_reducible rfl)
                  try simp only [Act.put, List.setIfInBounds_toArray, List.set_cons_zero, List.set_cons_succ]
                  refine anyE_takeL 5 rfl (by kernel_rfl) (fun _ _ _ h => h) hS (by rfl) (v := ?_) ?_ ?_
                  rotate_left
                  · intro w' hSw; (try dsimp only at hSw); go_simp; (try with_reducible rfl)
                  try simp only [Act.put, List.setIfInBounds_toArray, List.set_cons_zero, List.set_cons_succ]
                  refine anyE_takeL 6 rfl (by kernel_rfl) (fun _ _ _ h => h) hS (by rfl) (v := ?_) ?_ ?_
                  rotate_left
                  · intro w' hSw; (try dsimp only at hSw); go_simp; (try with_reducible rfl)
                  try simp only [Act.put, List.setIfInBounds_toArray, List.set_cons_zero, List.set_cons_succ]
                  refine anyE_takeL 7 rfl (by kernel_rfl) (fun _ _ _ h => h) hS (by rfl) (v := ?_) ?_ ?_
                  rotate_left
                  · intro w' hSw; (try dsimp only at hSw); go_simp; (try with_reducible rfl)
                  try simp only [Act.put, List.setIfInBounds_toArray, List.set_cons_zero, List.set_cons_succ]
                  refine anyE_takeL 8 rfl (by kernel_rfl) (fun _ _ _ h => h) hS (by rfl) (v := ?_) ?_ ?_
                  rotate_left
                  · intro w' hSw; (try dsimp only at hSw); go_simp; (try with_reducible rfl)
                  try simp only [Act.put, List.setIfInBounds_toArray, List.set_cons_zero, List.set_cons_succ]
                  refine anyE_takeL 9 rfl (by kernel_rfl) (fun _ _ _ h => h) hS (by rfl) (v := ?_) ?_ ?_
                  rotate_left
                  · intro w' hSw; (try dsimp only at hSw); go_simp; (try with_reducible rfl)
                  try simp only [Act.put, List.setIfInBounds_toArray, List.set_cons_zero, List.set_cons_succ]
                  refine anyE_takeL 10 rfl (by kernel_rfl) (fun _ _ _ h => h) hS (by rfl) (v := ?_) ?_ ?_
                  rotate_left
                  · intro w' hSw; (try dsimp only at hSw); go_simp; (try with_reducible rfl)
                  try simp only [Act.put, List.setIfInBounds_toArray, List.set_cons_zero, List.set_cons_succ]
                  refine anyE_takeL 11 rfl (by kernel_rfl) (fun _ _ _ h => h) hS (by rfl) (v := ?_) ?_ ?_
                  rotate_left
                  · intro w' hSw; (try dsimp only at hSw); go_simp; (try with_reducible rfl)
                  try simp only [Act.put, List.setIfInBounds_toArray, List.set_cons_zero, List.set_cons_succ]
                  refine anyE_takeL 12 rfl (by kernel_rfl) (fun _ _ _ h => h) hS (by rfl) (v := ?_) ?_ ?_
                  rotate_left
                  · intro w' hSw; (try dsimp only at hSw); go_simp; (try with_reducible rfl)
                  try simp only [Act.put, List.setIfInBounds_toArray, List.set_cons_zero, List.set_cons_succ]
                  refine anyE_takeL 13 rfl (by kernel_rfl) (fun _ _ _ h => h) hS (by rfl) (v := ?_) ?_ ?_
                  rotate_left
                  · intro w' hSw; (try dsimp only at hSw); go_simp; (try with_reducible rfl)
                  try simp only [Act.put, List.setIfInBounds_toArray, List.set_cons_zero, List.set_cons_succ]
                  replace yc := fr_be hbd zc yc
                  replace zc := cell_be hbd zc
                  have HIn := (HIx.out.put (h + 1) (R + X)).below (Below.refl _ _).drew
                  rw [show (addAt cntP row h X).set (h + 1) (R + X) = addAt cntP (addAt cntP row h X) (h + 1) X from by rw [← w3.out]; exact ad_at cntP _ _ _ R HR.out] at HIn
                  have HIm := hide HIn
                  have hzd : w.heap.size < (wa.setCell ⟨gN, (h + 1), none⟩ (.int .i64 (R + X))).drew.heap.size := by simp; omega
                  refine anyE_lastL (by kernel_rfl) rfl (by kernel_rfl) (fun K' hK' => ?_)
                  go_simp
                  refine hK'.out _ _ ?_
                  clear hK' K' hS HIn zc yc rc xc w1 w3 hbd HIx HR
                  try simp only [Act.put, List.setIfInBounds_toArray, List.set_cons_zero, List.set_cons_succ]
                  obtain ⟨wd, hwn⟩ : ∃ wn, wn = (wa.setCell ⟨gN, (h + 1), none⟩ (.int .i64 (R + X))).drew := ⟨_, rfl⟩
                  rw [← hwn] at HIm hzd ⊢
                  have HIx := HIm
                  replace Hrr := hide (rngL_add (p := cntP) (by decide) Hrr.out (h + 1) X)
                  replace Hrl := hide (show (addAt cntP (addAt cntP row h X) (h + 1) X).length = m by rw [addAt_len, Hrl.out])
                  clear HIm hwn hzx
                  have hzx := hzd
                  clear hzd
                  clear u2 u3 u4 u5
                  have HIz := hide (show CntI w wd g gN v (rndsP cntP A B v (h + 1)) by
                    rw [HN2.out]
                    exact HIx.out)
                  clear HIx Hrr Hrl HN2 Hm2
                  go_wp2
                  go_roundw
                  case rel => exact ⟨h + 1, by omega, by go_num, HIz, hzx⟩
                  case measure => simp [intOf]; omega
                · have HN2 := hide (show rndsP cntP A B v (h + 1) = addAt cntP (rndD cntP B v row h) (h + 1) X by have q := HNr.out; rwa [show lvl true = 0 from rfl, Int.zero_mul, addAt_nil Hrr.out] at q)
                  have Hm2 := hide (show row.getD h 0 + 0 * X < cntP ∧ (h ≠ 0 → row.getD (h - 1) 0 + X < cntP) ∧ (rndD cntP B v row h).getD (h + 1) 0 + X < cntP by have q := Hmid.out; rwa [show lvl true = 0 from rfl, show addAt cntP row h (0 * X) = row by rw [Int.zero_mul]; exact addAt_nil Hrr.out h] at q)
                  clear Hmid HNr
                  have d1 : ¬ (0 : Int) < (h : Int) := by have := Hd.out; omega
                  rw [HD0.out Hd.out] at HN2 Hm2
                  have u1 : IntKind.i64.wrap ((h : Int) + 1) = (h : Int) + 1 := IntWalk.i64_in _ (by omega)
                  have u2 : (h : Int) < (M : Int) := by have := Hm.out; omega
                  have u3 : (0 : Int) ≤ (h : Int) + 1 := by omega
                  have u4 : ((h : Int) + 1).toNat = h + 1 := by omega
                  have u5 : (h : Int) + 1 < (m : Int) := by omega
                  have zc := HIx.out.new.cell (h + 1) (by rw [Hrl.out]; omega)
                  have yc := HIx.out.new.free (h + 1)
                  have rc := Hrr.out (h + 1)
                  have bc : (row).getD (h + 1) 0 + X < cntP := Hm2.out.2.2
                  obtain ⟨R, hR⟩ : ∃ R, (row).getD (h + 1) 0 = R := ⟨_, rfl⟩
                  rw [hR] at zc rc bc
                  have HR := hide hR
                  have xc := HIx.out.old.cell h (by rw [Hvl.out]; exact hhm)
                  rw [HX.out] at xc
                  have w1 : IntKind.i64.wrap (R + X) = R + X := IntWalk.i64_in _ (by unfold cntP at bc; omega)
                  have hbd := (Below.refl wr.heap.size wr).drew
                  have w3 := hide (show (R + X) % cntP = R + X from Int.emod_eq_of_lt (by omega) bc)
                  clear hR bc
                  go_upto_region 15 with fail
                  refine region_E (fun w' => w'.cell? ⟨gN, (h + 1), none⟩ = some (.int .i64 R) ∧ w'.cell? ⟨g, h, none⟩ = some (.int .i64 X)) 14 (by kernel_rfl) ⟨cell_be hbd zc, cell_be hbd xc⟩ ?_
                  intro hS
                  refine anyE_takeL 0 rfl (by kernel_rfl) (fun _ _ _ h => h) hS (by rfl) (v := ?_) ?_ ?_
                  rotate_left
                  · intro w' hSw; (try dsimp only at hSw); go_simp; (try with_reducible rfl)
                  try simp only [Act.put, List.setIfInBounds_toArray, List.set_cons_zero, List.set_cons_succ]
                  refine anyE_takeL 1 rfl (by kernel_rfl) (fun _ _ _ h => h) hS (by rfl) (v := ?_) ?_ ?_
                  rotate_left
                  · intro w' hSw; (try dsimp only at hSw); go_simp; (try with_reducible rfl)
                  try simp only [Act.put, List.setIfInBounds_toArray, List.set_cons_zero, List.set_cons_succ]
                  refine anyE_takeL 2 rfl (by kernel_rfl) (fun _ _ _ h => h) hS (by rfl) (v := ?_) ?_ ?_
                  rotate_left
                  · intro w' hSw; (try dsimp only at hSw); go_simp; (try with_reducible rfl)
                  try simp only [Act.put, List.setIfInBounds_toArray, List.set_cons_zero, List.set_cons_succ]
                  refine anyE_takeL 3 rfl (by kernel_rfl) (fun _ _ _ h => h) hS (by rfl) (v := ?_) ?_ ?_
                  rotate_left
                  · intro w' hSw; (try dsimp only at hSw); go_simp; (try with_reducible rfl)
                  try simp only [Act.put, List.setIfInBounds_toArray, List.set_cons_zero, List.set_cons_succ]
                  refine anyE_takeL 4 rfl (by kernel_rfl) (fun _ _ _ h => h) hS (by rfl) (v := ?_) ?_ ?_
                  rotate_left
                  · intro w' hSw; (try dsimp only at hSw); go_simp; (try with_reducible rfl)
                  try simp only [Act.put, List.setIfInBounds_toArray, List.set_cons_zero, List.set_cons_succ]
                  refine anyE_takeL 5 rfl (by kernel_rfl) (fun _ _ _ h => h) hS (by rfl) (v := ?_) ?_ ?_
                  rotate_left
                  · intro w' hSw; (try dsimp only at hSw); go_simp; (try with_reducible rfl)
                  try simp only [Act.put, List.setIfInBounds_toArray, List.set_cons_zero, List.set_cons_succ]
                  refine anyE_takeL 6 rfl (by kernel_rfl) (fun _ _ _ h => h) hS (by rfl) (v := ?_) ?_ ?_
                  rotate_left
                  · intro w' hSw; (try dsimp only at hSw); go_simp; (try with_reducible rfl)
                  try simp only [Act.put, List.setIfInBounds_toArray, List.set_cons_zero, List.set_cons_succ]
                  refine anyE_takeL 7 rfl (by kernel_rfl) (fun _ _ _ h => h) hS (by rfl) (v := ?_) ?_ ?_
                  rotate_left
                  · intro w' hSw; (try dsimp only at hSw); go_simp; (try with_reducible rfl)
                  try simp only [Act.put, List.setIfInBounds_toArray, List.set_cons_zero, List.set_cons_succ]
                  refine anyE_takeL 8 rfl (by kernel_rfl) (fun _ _ _ h => h) hS (by rfl) (v := ?_) ?_ ?_
                  rotate_left
                  · intro w' hSw; (try dsimp only at hSw); go_simp; (try with_reducible rfl)
                  try simp only [Act.put, List.setIfInBounds_toArray, List.set_cons_zero, List.set_cons_succ]
                  refine anyE_takeL 9 rfl (by kernel_rfl) (fun _ _ _ h => h) hS (by rfl) (v := ?_) ?_ ?_
                  rotate_left
                  · intro w' hSw; (try dsimp only at hSw); go_simp; (try with_reducible rfl)
                  try simp only [Act.put, List.setIfInBounds_toArray, List.set_cons_zero, List.set_cons_succ]
                  refine anyE_takeL 10 rfl (by kernel_rfl) (fun _ _ _ h => h) hS (by rfl) (v := ?_) ?_ ?_
                  rotate_left
                  · intro w' hSw; (try dsimp only at hSw); go_simp; (try with_reducible rfl)
                  try simp only [Act.put, List.setIfInBounds_toArray, List.set_cons_zero, List.set_cons_succ]
                  refine anyE_takeL 11 rfl (by kernel_rfl) (fun _ _ _ h => h) hS (by rfl) (v := ?_) ?_ ?_
                  rotate_left
                  · intro w' hSw; (try dsimp only at hSw); go_simp; (try with_reducible rfl)
                  try simp only [Act.put, List.setIfInBounds_toArray, List.set_cons_zero, List.set_cons_succ]
                  refine anyE_takeL 12 rfl (by kernel_rfl) (fun _ _ _ h => h) hS (by rfl) (v := ?_) ?_ ?_
                  rotate_left
                  · intro w' hSw; (try dsimp only at hSw); go_simp; (try with_reducible rfl)
                  try simp only [Act.put, List.setIfInBounds_toArray, List.set_cons_zero, List.set_cons_succ]
                  refine anyE_takeL 13 rfl (by kernel_rfl) (fun _ _ _ h => h) hS (by rfl) (v := ?_) ?_ ?_
                  rotate_left
                  · intro w' hSw; (try dsimp only at hSw); go_simp; (try with_reducible rfl)
                  try simp only [Act.put, List.setIfInBounds_toArray, List.set_cons_zero, List.set_cons_succ]
                  replace yc := fr_be hbd zc yc
                  replace zc := cell_be hbd zc
                  have HIn := (HIx.out.put (h + 1) (R + X)).below (Below.refl _ _).drew
                  rw [show (row).set (h + 1) (R + X) = addAt cntP (row) (h + 1) X from by rw [← w3.out]; exact ad_at cntP _ _ _ R HR.out] at HIn
                  have HIm := hide HIn
                  have hzd : w.heap.size < (wr.setCell ⟨gN, (h + 1), none⟩ (.int .i64 (R + X))).drew.heap.size := by simp; omega
                  refine anyE_lastL (by kernel_rfl) rfl (by kernel_rfl) (fun K' hK' => ?_)
                  go_simp
                  refine hK'.out _ _ ?_
                  clear hK' K' hS HIn zc yc rc xc w1 w3 hbd HIx HR
                  try simp only [Act.put, List.setIfInBounds_toArray, List.set_cons_zero, List.set_cons_succ]
                  obtain ⟨wd, hwn⟩ : ∃ wn, wn = (wr.setCell ⟨gN, (h + 1), none⟩ (.int .i64 (R + X))).drew := ⟨_, rfl⟩
                  rw [← hwn] at HIm hzd ⊢
                  have HIx := HIm
                  replace Hrr := hide (rngL_add (p := cntP) (by decide) Hrr.out (h + 1) X)
                  replace Hrl := hide (show (addAt cntP (row) (h + 1) X).length = m by rw [addAt_len, Hrl.out])
                  clear HIm hwn hzx
                  have hzx := hzd
                  clear hzd
                  clear u2 u3 u4 u5
                  have HIz := hide (show CntI w wd g gN v (rndsP cntP A B v (h + 1)) by
                    rw [HN2.out]
                    exact HIx.out)
                  clear HIx Hrr Hrl HN2 Hm2
                  go_wp2
                  go_roundw
                  case rel => exact ⟨h + 1, by omega, by go_num, HIz, hzx⟩
                  case measure => simp [intOf]; omega
              · cases lb
                · have HN2 := hide (show rndsP cntP A B v (h + 1) = addAt cntP (rndD cntP B v (addAt cntP row h X) h) (h + 1) X by have q := HNr.out; rwa [show lvl false = 1 from rfl, Int.one_mul] at q)
                  have Hm2 := hide (show row.getD h 0 + X < cntP ∧ (h ≠ 0 → (addAt cntP row h X).getD (h - 1) 0 + X < cntP) ∧ (rndD cntP B v (addAt cntP row h X) h).getD (h + 1) 0 + X < cntP by have q := Hmid.out; rwa [show lvl false = 1 from rfl, Int.one_mul] at q)
                  clear Hmid HNr
                  have zc := HIx.out.new.cell h (by rw [Hrl.out]; omega)
                  have yc := HIx.out.new.free h
                  have rc := Hrr.out h
                  have bc : (row).getD h 0 + X < cntP := Hm2.out.1
                  obtain ⟨R, hR⟩ : ∃ R, (row).getD h 0 = R := ⟨_, rfl⟩
                  rw [hR] at zc rc bc
                  have HR := hide hR
                  have xc := HIx.out.old.cell h (by rw [Hvl.out]; exact hhm)
                  rw [HX.out] at xc
                  have w1 : IntKind.i64.wrap (R + X) = R + X := IntWalk.i64_in _ (by unfold cntP at bc; omega)
                  have hbd := (Below.refl wr.heap.size wr).drew
                  have w3 := hide (show (R + X) % cntP = R + X from Int.emod_eq_of_lt (by omega) bc)
                  clear hR bc
                  go_upto_region 11 with fail
                  refine region_E (fun w' => w'.cell? ⟨gN, h, none⟩ = some (.int .i64 R) ∧ w'.cell? ⟨g, h, none⟩ = some (.int .i64 X)) 12 (by kernel_rfl) ⟨cell_be hbd zc, cell_be hbd xc⟩ ?_
                  intro hS
                  refine anyE_takeL 0 rfl (by kernel_rfl) (fun _ _ _ h => h) hS (by rfl) (v := ?_) ?_ ?_
                  rotate_left
                  · intro w' hSw; (try dsimp only at hSw); go_simp; (try with_reducible rfl)
                  try simp only [Act.put, List.setIfInBounds_toArray, List.set_cons_zero, List.set_cons_succ]
                  refine anyE_takeL 1 rfl (by kernel_rfl) (fun _ _ _ h => h) hS (by rfl) (v := ?_) ?_ ?_
                  rotate_left
                  · intro w' hSw; (try dsimp only at hSw); go_simp; (try with_reducible rfl)
                  try simp only [Act.put, List.setIfInBounds_toArray, List.set_cons_zero, List.set_cons_succ]
                  refine anyE_takeL 2 rfl (by kernel_rfl) (fun _ _ _ h => h) hS (by rfl) (v := ?_) ?_ ?_
                  rotate_left
                  · intro w' hSw; (try dsimp only at hSw); go_simp; (try with_reducible rfl)
                  try simp only [Act.put, List.setIfInBounds_toArray, List.set_cons_zero, List.set_cons_succ]
                  refine anyE_takeL 3 rfl (by kernel_rfl) (fun _ _ _ h => h) hS (by rfl) (v := ?_) ?_ ?_
                  rotate_left
                  · intro w' hSw; (try dsimp only at hSw); go_simp; (try with_reducible rfl)
                  try simp only [Act.put, List.setIfInBounds_toArray, List.set_cons_zero, List.set_cons_succ]
                  refine anyE_takeL 4 rfl (by kernel_rfl) (fun _ _ _ h => h) hS (by rfl) (v := ?_) ?_ ?_
                  rotate_left
                  · intro w' hSw; (try dsimp only at hSw); go_simp; (try with_reducible rfl)
                  try simp only [Act.put, List.setIfInBounds_toArray, List.set_cons_zero, List.set_cons_succ]
                  refine anyE_takeL 5 rfl (by kernel_rfl) (fun _ _ _ h => h) hS (by rfl) (v := ?_) ?_ ?_
                  rotate_left
                  · intro w' hSw; (try dsimp only at hSw); go_simp; (try with_reducible rfl)
                  try simp only [Act.put, List.setIfInBounds_toArray, List.set_cons_zero, List.set_cons_succ]
                  refine anyE_takeL 6 rfl (by kernel_rfl) (fun _ _ _ h => h) hS (by rfl) (v := ?_) ?_ ?_
                  rotate_left
                  · intro w' hSw; (try dsimp only at hSw); go_simp; (try with_reducible rfl)
                  try simp only [Act.put, List.setIfInBounds_toArray, List.set_cons_zero, List.set_cons_succ]
                  refine anyE_takeL 7 rfl (by kernel_rfl) (fun _ _ _ h => h) hS (by rfl) (v := ?_) ?_ ?_
                  rotate_left
                  · intro w' hSw; (try dsimp only at hSw); go_simp; (try with_reducible rfl)
                  try simp only [Act.put, List.setIfInBounds_toArray, List.set_cons_zero, List.set_cons_succ]
                  refine anyE_takeL 8 rfl (by kernel_rfl) (fun _ _ _ h => h) hS (by rfl) (v := ?_) ?_ ?_
                  rotate_left
                  · intro w' hSw; (try dsimp only at hSw); go_simp; (try with_reducible rfl)
                  try simp only [Act.put, List.setIfInBounds_toArray, List.set_cons_zero, List.set_cons_succ]
                  refine anyE_takeL 9 rfl (by kernel_rfl) (fun _ _ _ h => h) hS (by rfl) (v := ?_) ?_ ?_
                  rotate_left
                  · intro w' hSw; (try dsimp only at hSw); go_simp; (try with_reducible rfl)
                  try simp only [Act.put, List.setIfInBounds_toArray, List.set_cons_zero, List.set_cons_succ]
                  refine anyE_takeL 10 rfl (by kernel_rfl) (fun _ _ _ h => h) hS (by rfl) (v := ?_) ?_ ?_
                  rotate_left
                  · intro w' hSw; (try dsimp only at hSw); go_simp; (try with_reducible rfl)
                  try simp only [Act.put, List.setIfInBounds_toArray, List.set_cons_zero, List.set_cons_succ]
                  refine anyE_takeL 11 rfl (by kernel_rfl) (fun _ _ _ h => h) hS (by rfl) (v := ?_) ?_ ?_
                  rotate_left
                  · intro w' hSw; (try dsimp only at hSw); go_simp; (try with_reducible rfl)
                  try simp only [Act.put, List.setIfInBounds_toArray, List.set_cons_zero, List.set_cons_succ]
                  replace yc := fr_be hbd zc yc
                  replace zc := cell_be hbd zc
                  have HIn := (HIx.out.put h (R + X)).below (Below.refl _ _).drew
                  rw [show (row).set h (R + X) = addAt cntP row h X from by rw [← w3.out]; exact ad_at cntP _ _ _ R HR.out] at HIn
                  have HIm := hide HIn
                  have hzd : w.heap.size < (wr.setCell ⟨gN, h, none⟩ (.int .i64 (R + X))).drew.heap.size := by simp; omega
                  refine anyE_lastL (by kernel_rfl) rfl (by kernel_rfl) (fun K' hK' => ?_)
                  go_simp
                  refine hK'.out _ _ ?_
                  clear hK' K' hS HIn zc yc rc xc w1 w3 hbd HIx HR
                  try simp only [Act.put, List.setIfInBounds_toArray, List.set_cons_zero, List.set_cons_succ]
                  obtain ⟨wa, hwn⟩ : ∃ wn, wn = (wr.setCell ⟨gN, h, none⟩ (.int .i64 (R + X))).drew := ⟨_, rfl⟩
                  rw [← hwn] at HIm hzd ⊢
                  have HIx := HIm
                  replace Hrr := hide (rngL_add (p := cntP) (by decide) Hrr.out h X)
                  replace Hrl := hide (show (addAt cntP row h X).length = m by rw [addAt_len, Hrl.out])
                  clear HIm hwn hzx
                  have hzx := hzd
                  clear hzd
                  have d1 : ¬ (0 : Int) < (h : Int) := by have := Hd.out; omega
                  rw [HD0.out Hd.out] at HN2 Hm2
                  have u2 : ¬ (h : Int) < (M : Int) := by have := Hm.out; omega
                  have HIz := hide (show CntI w wa g gN v (rndsP cntP A B v (h + 1)) by
                    rw [HN2.out]
                    rw [addAt_out cntP _ (h + 1) X (by rw [Hrl.out]; omega)]
                    exact HIx.out)
                  clear HIx Hrr Hrl HN2 Hm2
                  go_wp2
                  go_roundw
                  case rel => exact ⟨h + 1, by omega, by go_num, HIz, hzx⟩
                  case measure => simp [intOf]; omega
                · have HN2 := hide (show rndsP cntP A B v (h + 1) = addAt cntP (rndD cntP B v row h) (h + 1) X by have q := HNr.out; rwa [show lvl true = 0 from rfl, Int.zero_mul, addAt_nil Hrr.out] at q)
                  have Hm2 := hide (show row.getD h 0 + 0 * X < cntP ∧ (h ≠ 0 → row.getD (h - 1) 0 + X < cntP) ∧ (rndD cntP B v row h).getD (h + 1) 0 + X < cntP by have q := Hmid.out; rwa [show lvl true = 0 from rfl, show addAt cntP row h (0 * X) = row by rw [Int.zero_mul]; exact addAt_nil Hrr.out h] at q)
                  clear Hmid HNr
                  have d1 : ¬ (0 : Int) < (h : Int) := by have := Hd.out; omega
                  rw [HD0.out Hd.out] at HN2 Hm2
                  have u2 : ¬ (h : Int) < (M : Int) := by have := Hm.out; omega
                  have HIz := hide (show CntI w wr g gN v (rndsP cntP A B v (h + 1)) by
                    rw [HN2.out]
                    rw [addAt_out cntP _ (h + 1) X (by rw [Hrl.out]; omega)]
                    exact HIx.out)
                  clear HIx Hrr Hrl HN2 Hm2
                  go_wp2
                  go_roundw
                  case rel => exact ⟨h + 1, by omega, by go_num, HIz, hzx⟩
                  case measure => simp [intOf]; omega
            · have Hd := hide hd
              clear hd
              by_cases hu : h + 1 < m
              · cases lb
                · have HN2 := hide (show rndsP cntP A B v (h + 1) = addAt cntP (rndD cntP B v (addAt cntP row h X) h) (h + 1) X by have q := HNr.out; rwa [show lvl false = 1 from rfl, Int.one_mul] at q)
                  have Hm2 := hide (show row.getD h 0 + X < cntP ∧ (h ≠ 0 → (addAt cntP row h X).getD (h - 1) 0 + X < cntP) ∧ (rndD cntP B v (addAt cntP row h X) h).getD (h + 1) 0 + X < cntP by have q := Hmid.out; rwa [show lvl false = 1 from rfl, Int.one_mul] at q)
                  clear Hmid HNr
                  have zc := HIx.out.new.cell h (by rw [Hrl.out]; omega)
                  have yc := HIx.out.new.free h
                  have rc := Hrr.out h
                  have bc : (row).getD h 0 + X < cntP := Hm2.out.1
                  obtain ⟨R, hR⟩ : ∃ R, (row).getD h 0 = R := ⟨_, rfl⟩
                  rw [hR] at zc rc bc
                  have HR := hide hR
                  have xc := HIx.out.old.cell h (by rw [Hvl.out]; exact hhm)
                  rw [HX.out] at xc
                  have w1 : IntKind.i64.wrap (R + X) = R + X := IntWalk.i64_in _ (by unfold cntP at bc; omega)
                  have hbd := (Below.refl wr.heap.size wr).drew
                  have w3 := hide (show (R + X) % cntP = R + X from Int.emod_eq_of_lt (by omega) bc)
                  clear hR bc
                  go_upto_region 11 with fail
                  refine region_E (fun w' => w'.cell? ⟨gN, h, none⟩ = some (.int .i64 R) ∧ w'.cell? ⟨g, h, none⟩ = some (.int .i64 X)) 12 (by kernel_rfl) ⟨cell_be hbd zc, cell_be hbd xc⟩ ?_
                  intro hS
                  refine anyE_takeL 0 rfl (by kernel_rfl) (fun _ _ _ h => h) hS (by rfl) (v := ?_) ?_ ?_
                  rotate_left
                  · intro w' hSw; (try dsimp only at hSw); go_simp; (try with_reducible rfl)
                  try simp only [Act.put, List.setIfInBounds_toArray, List.set_cons_zero, List.set_cons_succ]
                  refine anyE_takeL 1 rfl (by kernel_rfl) (fun _ _ _ h => h) hS (by rfl) (v := ?_) ?_ ?_
                  rotate_left
                  · intro w' hSw; (try dsimp only at hSw); go_simp; (try with_reducible rfl)
                  try simp only [Act.put, List.setIfInBounds_toArray, List.set_cons_zero, List.set_cons_succ]
                  refine anyE_takeL 2 rfl (by kernel_rfl) (fun _ _ _ h => h) hS (by rfl) (v := ?_) ?_ ?_
                  rotate_left
                  · intro w' hSw; (try dsimp only at hSw); go_simp; (try with_reducible rfl)
                  try simp only [Act.put, List.setIfInBounds_toArray, List.set_cons_zero, List.set_cons_succ]
                  refine anyE_takeL 3 rfl (by kernel_rfl) (fun _ _ _ h => h) hS (by rfl) (v := ?_) ?_ ?_
                  rotate_left
                  · intro w' hSw; (try dsimp only at hSw); go_simp; (try with_reducible rfl)
                  try simp only [Act.put, List.setIfInBounds_toArray, List.set_cons_zero, List.set_cons_succ]
                  refine anyE_takeL 4 rfl (by kernel_rfl) (fun _ _ _ h => h) hS (by rfl) (v := ?_) ?_ ?_
                  rotate_left
                  · intro w' hSw; (try dsimp only at hSw); go_simp; (try with_reducible rfl)
                  try simp only [Act.put, List.setIfInBounds_toArray, List.set_cons_zero, List.set_cons_succ]
                  refine anyE_takeL 5 rfl (by kernel_rfl) (fun _ _ _ h => h) hS (by rfl) (v := ?_) ?_ ?_
                  rotate_left
                  · intro w' hSw; (try dsimp only at hSw); go_simp; (try with_reducible rfl)
                  try simp only [Act.put, List.setIfInBounds_toArray, List.set_cons_zero, List.set_cons_succ]
                  refine anyE_takeL 6 rfl (by kernel_rfl) (fun _ _ _ h => h) hS (by rfl) (v := ?_) ?_ ?_
                  rotate_left
                  · intro w' hSw; (try dsimp only at hSw); go_simp; (try with_reducible rfl)
                  try simp only [Act.put, List.setIfInBounds_toArray, List.set_cons_zero, List.set_cons_succ]
                  refine anyE_takeL 7 rfl (by kernel_rfl) (fun _ _ _ h => h) hS (by rfl) (v := ?_) ?_ ?_
                  rotate_left
                  · intro w' hSw; (try dsimp only at hSw); go_simp; (try with_reducible rfl)
                  try simp only [Act.put, List.setIfInBounds_toArray, List.set_cons_zero, List.set_cons_succ]
                  refine anyE_takeL 8 rfl (by kernel_rfl) (fun _ _ _ h => h) hS (by rfl) (v := ?_) ?_ ?_
                  rotate_left
                  · intro w' hSw; (try dsimp only at hSw); go_simp; (try with_reducible rfl)
                  try simp only [Act.put, List.setIfInBounds_toArray, List.set_cons_zero, List.set_cons_succ]
                  refine anyE_takeL 9 rfl (by kernel_rfl) (fun _ _ _ h => h) hS (by rfl) (v := ?_) ?_ ?_
                  rotate_left
                  · intro w' hSw; (try dsimp only at hSw); go_simp; (try with_reducible rfl)
                  try simp only [Act.put, List.setIfInBounds_toArray, List.set_cons_zero, List.set_cons_succ]
                  refine anyE_takeL 10 rfl (by kernel_rfl) (fun _ _ _ h => h) hS (by rfl) (v := ?_) ?_ ?_
                  rotate_left
                  · intro w' hSw; (try dsimp only at hSw); go_simp; (try with_reducible rfl)
                  try simp only [Act.put, List.setIfInBounds_toArray, List.set_cons_zero, List.set_cons_succ]
                  refine anyE_takeL 11 rfl (by kernel_rfl) (fun _ _ _ h => h) hS (by rfl) (v := ?_) ?_ ?_
                  rotate_left
                  · intro w' hSw; (try dsimp only at hSw); go_simp; (try with_reducible rfl)
                  try simp only [Act.put, List.setIfInBounds_toArray, List.set_cons_zero, List.set_cons_succ]
                  replace yc := fr_be hbd zc yc
                  replace zc := cell_be hbd zc
                  have HIn := (HIx.out.put h (R + X)).below (Below.refl _ _).drew
                  rw [show (row).set h (R + X) = addAt cntP row h X from by rw [← w3.out]; exact ad_at cntP _ _ _ R HR.out] at HIn
                  have HIm := hide HIn
                  have hzd : w.heap.size < (wr.setCell ⟨gN, h, none⟩ (.int .i64 (R + X))).drew.heap.size := by simp; omega
                  refine anyE_lastL (by kernel_rfl) rfl (by kernel_rfl) (fun K' hK' => ?_)
                  go_simp
                  refine hK'.out _ _ ?_
                  clear hK' K' hS HIn zc yc rc xc w1 w3 hbd HIx HR
                  try simp only [Act.put, List.setIfInBounds_toArray, List.set_cons_zero, List.set_cons_succ]
                  obtain ⟨wa, hwn⟩ : ∃ wn, wn = (wr.setCell ⟨gN, h, none⟩ (.int .i64 (R + X))).drew := ⟨_, rfl⟩
                  rw [← hwn] at HIm hzd ⊢
                  have HIx := HIm
                  replace Hrr := hide (rngL_add (p := cntP) (by decide) Hrr.out h X)
                  replace Hrl := hide (show (addAt cntP row h X).length = m by rw [addAt_len, Hrl.out])
                  clear HIm hwn hzx
                  have hzx := hzd
                  clear hzd
                  have d1 : (0 : Int) < (h : Int) := by have := Hd.out; omega
                  have d2 : 1 ≤ (h : Int) := by omega
                  have d3 : (0 : Int) ≤ (h : Int) - 1 := by omega
                  have d4 : (h : Int) - 1 < (m : Int) := by omega
                  have d5 : ((h : Int) - 1).toNat = h - 1 := by omega
                  have d6 : IntKind.i64.wrap ((h : Int) - 1) = (h : Int) - 1 := IntWalk.i64_in _ (by omega)
                  rw [HD1.out Hd.out] at HN2 Hm2
                  have zc := HIx.out.new.cell (h - 1) (by rw [Hrl.out]; omega)
                  have yc := HIx.out.new.free (h - 1)
                  have rc := Hrr.out (h - 1)
                  have bc : (addAt cntP row h X).getD (h - 1) 0 + X < cntP := Hm2.out.2.1 Hd.out
                  obtain ⟨R, hR⟩ : ∃ R, (addAt cntP row h X).getD (h - 1) 0 = R := ⟨_, rfl⟩
                  rw [hR] at zc rc bc
                  have HR := hide hR
                  have xc := HIx.out.old.cell h (by rw [Hvl.out]; exact hhm)
                  rw [HX.out] at xc
                  have w1 : IntKind.i64.wrap (R + X) = R + X := IntWalk.i64_in _ (by unfold cntP at bc; omega)
                  have hbd := (Below.refl wa.heap.size wa).drew
                  have w3 := hide (show (R + X) % cntP = R + X from Int.emod_eq_of_lt (by omega) bc)
                  clear hR bc
                  go_upto_region 13 with fail
                  refine region_E (fun w' => w'.cell? ⟨gN, (h - 1), none⟩ = some (.int .i64 R) ∧ w'.cell? ⟨g, h, none⟩ = some (.int .i64 X)) 14 (by kernel_rfl) ⟨cell_be hbd zc, cell_be hbd xc⟩ ?_
                  intro hS
                  refine anyE_takeL 0 rfl (by kernel_rfl) (fun _ _ _ h => h) hS (by rfl) (v := ?_) ?_ ?_
                  rotate_left
                  · intro w' hSw; (try dsimp only at hSw); go_simp; (try with_reducible rfl)
                  try simp only [Act.put, List.setIfInBounds_toArray, List.set_cons_zero, List.set_cons_succ]
                  refine anyE_takeL 1 rfl (by kernel_rfl) (fun _ _ _ h => h) hS (by rfl) (v := ?_) ?_ ?_
                  rotate_left
                  · intro w' hSw; (try dsimp only at hSw); go_simp; (try with_reducible rfl)
                  try simp only [Act.put, List.setIfInBounds_toArray, List.set_cons_zero, List.set_cons_succ]
                  refine anyE_takeL 2 rfl (by kernel_rfl) (fun _ _ _ h => h) hS (by rfl) (v := ?_) ?_ ?_
                  rotate_left
                  · intro w' hSw; (try dsimp only at hSw); go_simp; (try with_reducible rfl)
                  try simp only [Act.put, List.setIfInBounds_toArray, List.set_cons_zero, List.set_cons_succ]
                  refine anyE_takeL 3 rfl (by kernel_rfl) (fun _ _ _ h => h) hS (by rfl) (v := ?_) ?_ ?_
                  rotate_left
                  · intro w' hSw; (try dsimp only at hSw); go_simp; (try with_reducible rfl)
                  try simp only [Act.put, List.setIfInBounds_toArray, List.set_cons_zero, List.set_cons_succ]
                  refine anyE_takeL 4 rfl (by kernel_rfl) (fun _ _ _ h => h) hS (by rfl) (v := ?_) ?_ ?_
                  rotate_left
                  · intro w' hSw; (try dsimp only at hSw); go_simp; (try with_reducible rfl)
                  try simp only [Act.put, List.setIfInBounds_toArray, List.set_cons_zero, List.set_cons_succ]
                  refine anyE_takeL 5 rfl (by kernel_rfl) (fun _ _ _ h => h) hS (by rfl) (v := ?_) ?_ ?_
                  rotate_left
                  · intro w' hSw; (try dsimp only at hSw); go_simp; (try with_reducible rfl)
                  try simp only [Act.put, List.setIfInBounds_toArray, List.set_cons_zero, List.set_cons_succ]
                  refine anyE_takeL 6 rfl (by kernel_rfl) (fun _ _ _ h => h) hS (by rfl) (v := ?_) ?_ ?_
                  rotate_left
                  · intro w' hSw; (try dsimp only at hSw); go_simp; (try with_reducible rfl)
                  try simp only [Act.put, List.setIfInBounds_toArray, List.set_cons_zero, List.set_cons_succ]
                  refine anyE_takeL 7 rfl (by kernel_rfl) (fun _ _ _ h => h) hS (by rfl) (v := ?_) ?_ ?_
                  rotate_left
                  · intro w' hSw; (try dsimp only at hSw); go_simp; (try with_reducible rfl)
                  try simp only [Act.put, List.setIfInBounds_toArray, List.set_cons_zero, List.set_cons_succ]
                  refine anyE_takeL 8 rfl (by kernel_rfl) (fun _ _ _ h => h) hS (by rfl) (v := ?_) ?_ ?_
                  rotate_left
                  · intro w' hSw; (try dsimp only at hSw); go_simp; (try with_reducible rfl)
                  try simp only [Act.put, List.setIfInBounds_toArray, List.set_cons_zero, List.set_cons_succ]
                  refine anyE_takeL 9 rfl (by kernel_rfl) (fun _ _ _ h => h) hS (by rfl) (v := ?_) ?_ ?_
                  rotate_left
                  · intro w' hSw; (try dsimp only at hSw); go_simp; (try with_reducible rfl)
                  try simp only [Act.put, List.setIfInBounds_toArray, List.set_cons_zero, List.set_cons_succ]
                  refine anyE_takeL 10 rfl (by kernel_rfl) (fun _ _ _ h => h) hS (by rfl) (v := ?_) ?_ ?_
                  rotate_left
                  · intro w' hSw; (try dsimp only at hSw); go_simp; (try with_reducible rfl)
                  try simp only [Act.put, List.setIfInBounds_toArray, List.set_cons_zero, List.set_cons_succ]
                  refine anyE_takeL 11 rfl (by kernel_rfl) (fun _ _ _ h => h) hS (by rfl) (v := ?_) ?_ ?_
                  rotate_left
                  · intro w' hSw; (try dsimp only at hSw); go_simp; (try with_reducible rfl)
                  try simp only [Act.put, List.setIfInBounds_toArray, List.set_cons_zero, List.set_cons_succ]
                  refine anyE_takeL 12 rfl (by kernel_rfl) (fun _ _ _ h => h) hS (by rfl) (v := ?_) ?_ ?_
                  rotate_left
                  · intro w' hSw; (try dsimp only at hSw); go_simp; (try with_reducible rfl)
                  try simp only [Act.put, List.setIfInBounds_toArray, List.set_cons_zero, List.set_cons_succ]
                  refine anyE_takeL 13 rfl (by kernel_rfl) (fun _ _ _ h => h) hS (by rfl) (v := ?_) ?_ ?_
                  rotate_left
                  · intro w' hSw; (try dsimp only at hSw); go_simp; (try with_reducible rfl)
                  try simp only [Act.put, List.setIfInBounds_toArray, List.set_cons_zero, List.set_cons_succ]
                  replace yc := fr_be hbd zc yc
                  replace zc := cell_be hbd zc
                  have HIn := (HIx.out.put (h - 1) (R + X)).below (Below.refl _ _).drew
                  rw [show (addAt cntP row h X).set (h - 1) (R + X) = addAt cntP (addAt cntP row h X) (h - 1) X from by rw [← w3.out]; exact ad_at cntP _ _ _ R HR.out] at HIn
                  have HIm := hide HIn
                  have hzd : w.heap.size < (wa.setCell ⟨gN, (h - 1), none⟩ (.int .i64 (R + X))).drew.heap.size := by simp; omega
                  refine anyE_lastL (by kernel_rfl) rfl (by kernel_rfl) (fun K' hK' => ?_)
                  go_simp
                  refine hK'.out _ _ ?_
                  clear hK' K' hS HIn zc yc rc xc w1 w3 hbd HIx HR
                  try simp only [Act.put, List.setIfInBounds_toArray, List.set_cons_zero, List.set_cons_succ]
                  obtain ⟨wb, hwn⟩ : ∃ wn, wn = (wa.setCell ⟨gN, (h - 1), none⟩ (.int .i64 (R + X))).drew := ⟨_, rfl⟩
                  rw [← hwn] at HIm hzd ⊢
                  have HIx := HIm
                  replace Hrr := hide (rngL_add (p := cntP) (by decide) Hrr.out (h - 1) X)
                  replace Hrl := hide (show (addAt cntP (addAt cntP row h X) (h - 1) X).length = m by rw [addAt_len, Hrl.out])
                  clear HIm hwn hzx
                  have hzx := hzd
                  clear hzd
                  clear d1 d2 d3 d4 d5 d6
                  have u1 : IntKind.i64.wrap ((h : Int) + 1) = (h : Int) + 1 := IntWalk.i64_in _ (by omega)
                  have u2 : (h : Int) < (M : Int) := by have := Hm.out; omega
                  have u3 : (0 : Int) ≤ (h : Int) + 1 := by omega
                  have u4 : ((h : Int) + 1).toNat = h + 1 := by omega
                  have u5 : (h : Int) + 1 < (m : Int) := by omega
                  have zc := HIx.out.new.cell (h + 1) (by rw [Hrl.out]; omega)
                  have yc := HIx.out.new.free (h + 1)
                  have rc := Hrr.out (h + 1)
                  have bc : (addAt cntP (addAt cntP row h X) (h - 1) X).getD (h + 1) 0 + X < cntP := Hm2.out.2.2
                  obtain ⟨R, hR⟩ : ∃ R, (addAt cntP (addAt cntP row h X) (h - 1) X).getD (h + 1) 0 = R := ⟨_, rfl⟩
                  rw [hR] at zc rc bc
                  have HR := hide hR
                  have xc := HIx.out.old.cell h (by rw [Hvl.out]; exact hhm)
                  rw [HX.out] at xc
                  have w1 : IntKind.i64.wrap (R + X) = R + X := IntWalk.i64_in _ (by unfold cntP at bc; omega)
                  have hbd := (Below.refl wb.heap.size wb).drew
                  have w3 := hide (show (R + X) % cntP = R + X from Int.emod_eq_of_lt (by omega) bc)
                  clear hR bc
                  go_upto_region 15 with fail
                  refine region_E (fun w' => w'.cell? ⟨gN, (h + 1), none⟩ = some (.int .i64 R) ∧ w'.cell? ⟨g, h, none⟩ = some (.int .i64 X)) 14 (by kernel_rfl) ⟨cell_be hbd zc, cell_be hbd xc⟩ ?_
                  intro hS
                  refine anyE_takeL 0 rfl (by kernel_rfl) (fun _ _ _ h => h) hS (by rfl) (v := ?_) ?_ ?_
                  rotate_left
                  · intro w' hSw; (try dsimp only at hSw); go_simp; (try with_reducible rfl)
                  try simp only [Act.put, List.setIfInBounds_toArray, List.set_cons_zero, List.set_cons_succ]
                  refine anyE_takeL 1 rfl (by kernel_rfl) (fun _ _ _ h => h) hS (by rfl) (v := ?_) ?_ ?_
                  rotate_left
                  · intro w' hSw; (try dsimp only at hSw); go_simp; (try with_reducible rfl)
                  try simp only [Act.put, List.setIfInBounds_toArray, List.set_cons_zero, List.set_cons_succ]
                  refine anyE_takeL 2 rfl (by kernel_rfl) (fun _ _ _ h => h) hS (by rfl) (v := ?_) ?_ ?_
                  rotate_left
                  · intro w' hSw; (try dsimp only at hSw); go_simp; (try with_reducible rfl)
                  try simp only [Act.put, List.setIfInBounds_toArray, List.set_cons_zero, List.set_cons_succ]
                  refine anyE_takeL 3 rfl (by kernel_rfl) (fun _ _ _ h => h) hS (by rfl) (v := ?_) ?_ ?_
                  rotate_left
                  · intro w' hSw; (try dsimp only at hSw); go_simp; (try with_reducible rfl)
                  try simp only [Act.put, List.setIfInBounds_toArray, List.set_cons_zero, List.set_cons_succ]
                  refine anyE_takeL 4 rfl (by kernel_rfl) (fun _ _ _ h => h) hS (by rfl) (v := ?_) ?_ ?_
                  rotate_left
                  · intro w' hSw; (try dsimp only at hSw); go_simp; (try with_reducible rfl)
                  try simp only [Act.put, List.setIfInBounds_toArray, List.set_cons_zero, List.set_cons_succ]
                  refine anyE_takeL 5 rfl (by kernel_rfl) (fun _ _ _ h => h) hS (by rfl) (v := ?_) ?_ ?_
                  rotate_left
                  · intro w' hSw; (try dsimp only at hSw); go_simp; (try with_reducible rfl)
                  try simp only [Act.put, List.setIfInBounds_toArray, List.set_cons_zero, List.set_cons_succ]
                  refine anyE_takeL 6 rfl (by kernel_rfl) (fun _ _ _ h => h) hS (by rfl) (v := ?_) ?_ ?_
                  rotate_left
                  · intro w' hSw; (try dsimp only at hSw); go_simp; (try with_reducible rfl)
                  try simp only [Act.put, List.setIfInBounds_toArray, List.set_cons_zero, List.set_cons_succ]
                  refine anyE_takeL 7 rfl (by kernel_rfl) (fun _ _ _ h => h) hS (by rfl) (v := ?_) ?_ ?_
                  rotate_left
                  · intro w' hSw; (try dsimp only at hSw); go_simp; (try with_reducible rfl)
                  try simp only [Act.put, List.setIfInBounds_toArray, List.set_cons_zero, List.set_cons_succ]
                  refine anyE_takeL 8 rfl (by kernel_rfl) (fun _ _ _ h => h) hS (by rfl) (v := ?_) ?_ ?_
                  rotate_left
                  · intro w' hSw; (try dsimp only at hSw); go_simp; (try with_reducible rfl)
                  try simp only [Act.put, List.setIfInBounds_toArray, List.set_cons_zero, List.set_cons_succ]
                  refine anyE_takeL 9 rfl (by kernel_rfl) (fun _ _ _ h => h) hS (by rfl) (v := ?_) ?_ ?_
                  rotate_left
                  · intro w' hSw; (try dsimp only at hSw); go_simp; (try with_reducible rfl)
                  try simp only [Act.put, List.setIfInBounds_toArray, List.set_cons_zero, List.set_cons_succ]
                  refine anyE_takeL 10 rfl (by kernel_rfl) (fun _ _ _ h => h) hS (by rfl) (v := ?_) ?_ ?_
                  rotate_left
                  · intro w' hSw; (try dsimp only at hSw); go_simp; (try with_reducible rfl)
                  try simp only [Act.put, List.setIfInBounds_toArray, List.set_cons_zero, List.set_cons_succ]
                  refine anyE_takeL 11 rfl (by kernel_rfl) (fun _ _ _ h => h) hS (by rfl) (v := ?_) ?_ ?_
                  rotate_left
                  · intro w' hSw; (try dsimp only at hSw); go_simp; (try with_reducible rfl)
                  try simp only [Act.put, List.setIfInBounds_toArray, List.set_cons_zero, List.set_cons_succ]
                  refine anyE_takeL 12 rfl (by kernel_rfl) (fun _ _ _ h => h) hS (by rfl) (v := ?_) ?_ ?_
                  rotate_left
                  · intro w' hSw; (try dsimp only at hSw); go_simp; (try with_reducible rfl)
                  try simp only [Act.put, List.setIfInBounds_toArray, List.set_cons_zero, List.set_cons_succ]
                  refine anyE_takeL 13 rfl (by kernel_rfl) (fun _ _ _ h => h) hS (by rfl) (v := ?_) ?_ ?_
                  rotate_left
                  · intro w' hSw; (try dsimp only at hSw); go_simp; (try with_reducible rfl)
                  try simp only [Act.put, List.setIfInBounds_toArray, List.set_cons_zero, List.set_cons_succ]
                  replace yc := fr_be hbd zc yc
                  replace zc := cell_be hbd zc
                  have HIn := (HIx.out.put (h + 1) (R + X)).below (Below.refl _ _).drew
                  rw [show (addAt cntP (addAt cntP row h X) (h - 1) X).set (h + 1) (R + X) = addAt cntP (addAt cntP (addAt cntP row h X) (h - 1) X) (h + 1) X from by rw [← w3.out]; exact ad_at cntP _ _ _ R HR.out] at HIn
                  have HIm := hide HIn
                  have hzd : w.heap.size < (wb.setCell ⟨gN, (h + 1), none⟩ (.int .i64 (R + X))).drew.heap.size := by simp; omega
                  refine anyE_lastL (by kernel_rfl) rfl (by kernel_rfl) (fun K' hK' => ?_)
                  go_simp
                  refine hK'.out _ _ ?_
                  clear hK' K' hS HIn zc yc rc xc w1 w3 hbd HIx HR
                  try simp only [Act.put, List.setIfInBounds_toArray, List.set_cons_zero, List.set_cons_succ]
                  obtain ⟨wd, hwn⟩ : ∃ wn, wn = (wb.setCell ⟨gN, (h + 1), none⟩ (.int .i64 (R + X))).drew := ⟨_, rfl⟩
                  rw [← hwn] at HIm hzd ⊢
                  have HIx := HIm
                  replace Hrr := hide (rngL_add (p := cntP) (by decide) Hrr.out (h + 1) X)
                  replace Hrl := hide (show (addAt cntP (addAt cntP (addAt cntP row h X) (h - 1) X) (h + 1) X).length = m by rw [addAt_len, Hrl.out])
                  clear HIm hwn hzx
                  have hzx := hzd
                  clear hzd
                  clear u2 u3 u4 u5
                  have HIz := hide (show CntI w wd g gN v (rndsP cntP A B v (h + 1)) by
                    rw [HN2.out]
                    exact HIx.out)
                  clear HIx Hrr Hrl HN2 Hm2
                  go_wp2
                  go_roundw
                  case rel => exact ⟨h + 1, by omega, by go_num, HIz, hzx⟩
                  case measure => simp [intOf]; omega
                · have HN2 := hide (show rndsP cntP A B v (h + 1) = addAt cntP (rndD cntP B v row h) (h + 1) X by have q := HNr.out; rwa [show lvl true = 0 from rfl, Int.zero_mul, addAt_nil Hrr.out] at q)
                  have Hm2 := hide (show row.getD h 0 + 0 * X < cntP ∧ (h ≠ 0 → row.getD (h - 1) 0 + X < cntP) ∧ (rndD cntP B v row h).getD (h + 1) 0 + X < cntP by have q := Hmid.out; rwa [show lvl true = 0 from rfl, show addAt cntP row h (0 * X) = row by rw [Int.zero_mul]; exact addAt_nil Hrr.out h] at q)
                  clear Hmid HNr
                  have d1 : (0 : Int) < (h : Int) := by have := Hd.out; omega
                  have d2 : 1 ≤ (h : Int) := by omega
                  have d3 : (0 : Int) ≤ (h : Int) - 1 := by omega
                  have d4 : (h : Int) - 1 < (m : Int) := by omega
                  have d5 : ((h : Int) - 1).toNat = h - 1 := by omega
                  have d6 : IntKind.i64.wrap ((h : Int) - 1) = (h : Int) - 1 := IntWalk.i64_in _ (by omega)
                  rw [HD1.out Hd.out] at HN2 Hm2
                  have zc := HIx.out.new.cell (h - 1) (by rw [Hrl.out]; omega)
                  have yc := HIx.out.new.free (h - 1)
                  have rc := Hrr.out (h - 1)
                  have bc : (row).getD (h - 1) 0 + X < cntP := Hm2.out.2.1 Hd.out
                  obtain ⟨R, hR⟩ : ∃ R, (row).getD (h - 1) 0 = R := ⟨_, rfl⟩
                  rw [hR] at zc rc bc
                  have HR := hide hR
                  have xc := HIx.out.old.cell h (by rw [Hvl.out]; exact hhm)
                  rw [HX.out] at xc
                  have w1 : IntKind.i64.wrap (R + X) = R + X := IntWalk.i64_in _ (by unfold cntP at bc; omega)
                  have hbd := (Below.refl wr.heap.size wr).drew
                  have w3 := hide (show (R + X) % cntP = R + X from Int.emod_eq_of_lt (by omega) bc)
                  clear hR bc
                  go_upto_region 13 with fail
                  refine region_E (fun w' => w'.cell? ⟨gN, (h - 1), none⟩ = some (.int .i64 R) ∧ w'.cell? ⟨g, h, none⟩ = some (.int .i64 X)) 14 (by kernel_rfl) ⟨cell_be hbd zc, cell_be hbd xc⟩ ?_
                  intro hS
                  refine anyE_takeL 0 rfl (by kernel_rfl) (fun _ _ _ h => h) hS (by rfl) (v := ?_) ?_ ?_
                  rotate_left
                  · intro w' hSw; (try dsimp only at hSw); go_simp; (try with_reducible rfl)
                  try simp only [Act.put, List.setIfInBounds_toArray, List.set_cons_zero, List.set_cons_succ]
                  refine anyE_takeL 1 rfl (by kernel_rfl) (fun _ _ _ h => h) hS (by rfl) (v := ?_) ?_ ?_
                  rotate_left
                  · intro w' hSw; (try dsimp only at hSw); go_simp; (try with_reducible rfl)
                  try simp only [Act.put, List.setIfInBounds_toArray, List.set_cons_zero, List.set_cons_succ]
                  refine anyE_takeL 2 rfl (by kernel_rfl) (fun _ _ _ h => h) hS (by rfl) (v := ?_) ?_ ?_
                  rotate_left
                  · intro w' hSw; (try dsimp only at hSw); go_simp; (try with_reducible rfl)
                  try simp only [Act.put, List.setIfInBounds_toArray, List.set_cons_zero, List.set_cons_succ]
                  refine anyE_takeL 3 rfl (by kernel_rfl) (fun _ _ _ h => h) hS (by rfl) (v := ?_) ?_ ?_
                  rotate_left
                  · intro w' hSw; (try dsimp only at hSw); go_simp; (try with_reducible rfl)
                  try simp only [Act.put, List.setIfInBounds_toArray, List.set_cons_zero, List.set_cons_succ]
                  refine anyE_takeL 4 rfl (by kernel_rfl) (fun _ _ _ h => h) hS (by rfl) (v := ?_) ?_ ?_
                  rotate_left
                  · intro w' hSw; (try dsimp only at hSw); go_simp; (try with_reducible rfl)
                  try simp only [Act.put, List.setIfInBounds_toArray, List.set_cons_zero, List.set_cons_succ]
                  refine anyE_takeL 5 rfl (by kernel_rfl) (fun _ _ _ h => h) hS (by rfl) (v := ?_) ?_ ?_
                  rotate_left
                  · intro w' hSw; (try dsimp only at hSw); go_simp; (try with_reducible rfl)
                  try simp only [Act.put, List.setIfInBounds_toArray, List.set_cons_zero, List.set_cons_succ]
                  refine anyE_takeL 6 rfl (by kernel_rfl) (fun _ _ _ h => h) hS (by rfl) (v := ?_) ?_ ?_
                  rotate_left
                  · intro w' hSw; (try dsimp only at hSw); go_simp; (try with_reducible rfl)
                  try simp only [Act.put, List.setIfInBounds_toArray, List.set_cons_zero, List.set_cons_succ]
                  refine anyE_takeL 7 rfl (by kernel_rfl) (fun _ _ _ h => h) hS (by rfl) (v := ?_) ?_ ?_
                  rotate_left
                  · intro w' hSw; (try dsimp only at hSw); go_simp; (try with_reducible rfl)
                  try simp only [Act.put, List.setIfInBounds_toArray, List.set_cons_zero, List.set_cons_succ]
                  refine anyE_takeL 8 rfl (by kernel_rfl) (fun _ _ _ h => h) hS (by rfl) (v := ?_) ?_ ?_
                  rotate_left
                  · intro w' hSw; (try dsimp only at hSw); go_simp; (try with_reducible rfl)
                  try simp only [Act.put, List.setIfInBounds_toArray, List.set_cons_zero, List.set_cons_succ]
                  refine anyE_takeL 9 rfl (by kernel_rfl) (fun _ _ _ h => h) hS (by rfl) (v := ?_) ?_ ?_
                  rotate_left
                  · intro w' hSw; (try dsimp only at hSw); go_simp; (try with_reducible rfl)
                  try simp only [Act.put, List.setIfInBounds_toArray, List.set_cons_zero, List.set_cons_succ]
                  refine anyE_takeL 10 rfl (by kernel_rfl) (fun _ _ _ h => h) hS (by rfl) (v := ?_) ?_ ?_
                  rotate_left
                  · intro w' hSw; (try dsimp only at hSw); go_simp; (try with_reducible rfl)
                  try simp only [Act.put, List.setIfInBounds_toArray, List.set_cons_zero, List.set_cons_succ]
                  refine anyE_takeL 11 rfl (by kernel_rfl) (fun _ _ _ h => h) hS (by rfl) (v := ?_) ?_ ?_
                  rotate_left
                  · intro w' hSw; (try dsimp only at hSw); go_simp; (try with_reducible rfl)
                  try simp only [Act.put, List.setIfInBounds_toArray, List.set_cons_zero, List.set_cons_succ]
                  refine anyE_takeL 12 rfl (by kernel_rfl) (fun _ _ _ h => h) hS (by rfl) (v := ?_) ?_ ?_
                  rotate_left
                  · intro w' hSw; (try dsimp only at hSw); go_simp; (try with_reducible rfl)
                  try simp only [Act.put, List.setIfInBounds_toArray, List.set_cons_zero, List.set_cons_succ]
                  refine anyE_takeL 13 rfl (by kernel_rfl) (fun _ _ _ h => h) hS (by rfl) (v := ?_) ?_ ?_
                  rotate_left
                  · intro w' hSw; (try dsimp only at hSw); go_simp; (try with_reducible rfl)
                  try simp only [Act.put, List.setIfInBounds_toArray, List.set_cons_zero, List.set_cons_succ]
                  replace yc := fr_be hbd zc yc
                  replace zc := cell_be hbd zc
                  have HIn := (HIx.out.put (h - 1) (R + X)).below (Below.refl _ _).drew
                  rw [show (row).set (h - 1) (R + X) = addAt cntP (row) (h - 1) X from by rw [← w3.out]; exact ad_at cntP _ _ _ R HR.out] at HIn
                  have HIm := hide HIn
                  have hzd : w.heap.size < (wr.setCell ⟨gN, (h - 1), none⟩ (.int .i64 (R + X))).drew.heap.size := by simp; omega
                  refine anyE_lastL (by kernel_rfl) rfl (by kernel_rfl) (fun K' hK' => ?_)
                  go_simp
                  refine hK'.out _ _ ?_
                  clear hK' K' hS HIn zc yc rc xc w1 w3 hbd HIx HR
                  try simp only [Act.put, List.setIfInBounds_toArray, List.set_cons_zero, List.set_cons_succ]
                  obtain ⟨wb, hwn⟩ : ∃ wn, wn = (wr.setCell ⟨gN, (h - 1), none⟩ (.int .i64 (R + X))).drew := ⟨_, rfl⟩
                  rw [← hwn] at HIm hzd ⊢
                  have HIx := HIm
                  replace Hrr := hide (rngL_add (p := cntP) (by decide) Hrr.out (h - 1) X)
                  replace Hrl := hide (show (addAt cntP (row) (h - 1) X).length = m by rw [addAt_len, Hrl.out])
                  clear HIm hwn hzx
                  have hzx := hzd
                  clear hzd
                  clear d1 d2 d3 d4 d5 d6
                  have u1 : IntKind.i64.wrap ((h : Int) + 1) = (h : Int) + 1 := IntWalk.i64_in _ (by omega)
                  have u2 : (h : Int) < (M : Int) := by have := Hm.out; omega
                  have u3 : (0 : Int) ≤ (h : Int) + 1 := by omega
                  have u4 : ((h : Int) + 1).toNat = h + 1 := by omega
                  have u5 : (h : Int) + 1 < (m : Int) := by omega
                  have zc := HIx.out.new.cell (h + 1) (by rw [Hrl.out]; omega)
                  have yc := HIx.out.new.free (h + 1)
                  have rc := Hrr.out (h + 1)
                  have bc : (addAt cntP (row) (h - 1) X).getD (h + 1) 0 + X < cntP := Hm2.out.2.2
                  obtain ⟨R, hR⟩ : ∃ R, (addAt cntP (row) (h - 1) X).getD (h + 1) 0 = R := ⟨_, rfl⟩
                  rw [hR] at zc rc bc
                  have HR := hide hR
                  have xc := HIx.out.old.cell h (by rw [Hvl.out]; exact hhm)
                  rw [HX.out] at xc
                  have w1 : IntKind.i64.wrap (R + X) = R + X := IntWalk.i64_in _ (by unfold cntP at bc; omega)
                  have hbd := (Below.refl wb.heap.size wb).drew
                  have w3 := hide (show (R + X) % cntP = R + X from Int.emod_eq_of_lt (by omega) bc)
                  clear hR bc
                  go_upto_region 15 with fail
                  refine region_E (fun w' => w'.cell? ⟨gN, (h + 1), none⟩ = some (.int .i64 R) ∧ w'.cell? ⟨g, h, none⟩ = some (.int .i64 X)) 14 (by kernel_rfl) ⟨cell_be hbd zc, cell_be hbd xc⟩ ?_
                  intro hS
                  refine anyE_takeL 0 rfl (by kernel_rfl) (fun _ _ _ h => h) hS (by rfl) (v := ?_) ?_ ?_
                  rotate_left
                  · intro w' hSw; (try dsimp only at hSw); go_simp; (try with_reducible rfl)
                  try simp only [Act.put, List.setIfInBounds_toArray, List.set_cons_zero, List.set_cons_succ]
                  refine anyE_takeL 1 rfl (by kernel_rfl) (fun _ _ _ h => h) hS (by rfl) (v := ?_) ?_ ?_
                  rotate_left
                  · intro w' hSw; (try dsimp only at hSw); go_simp; (try with_reducible rfl)
                  try simp only [Act.put, List.setIfInBounds_toArray, List.set_cons_zero, List.set_cons_succ]
                  refine anyE_takeL 2 rfl (by kernel_rfl) (fun _ _ _ h => h) hS (by rfl) (v := ?_) ?_ ?_
                  rotate_left
                  · intro w' hSw; (try dsimp only at hSw); go_simp; (try with_reducible rfl)
                  try simp only [Act.put, List.setIfInBounds_toArray, List.set_cons_zero, List.set_cons_succ]
                  refine anyE_takeL 3 rfl (by kernel_rfl) (fun _ _ _ h => h) hS (by rfl) (v := ?_) ?_ ?_
                  rotate_left
                  · intro w' hSw; (try dsimp only at hSw); go_simp; (try with_reducible rfl)
                  try simp only [Act.put, List.setIfInBounds_toArray, List.set_cons_zero, List.set_cons_succ]
                  refine anyE_takeL 4 rfl (by kernel_rfl) (fun _ _ _ h => h) hS (by rfl) (v := ?_) ?_ ?_
                  rotate_left
                  · intro w' hSw; (try dsimp only at hSw); go_simp; (try with_reducible rfl)
                  try simp only [Act.put, List.setIfInBounds_toArray, List.set_cons_zero, List.set_cons_succ]
                  refine anyE_takeL 5 rfl (by kernel_rfl) (fun _ _ _ h => h) hS (by rfl) (v := ?_) ?_ ?_
                  rotate_left
                  · intro w' hSw; (try dsimp only at hSw); go_simp; (try with_reducible rfl)
                  try simp only [Act.put, List.setIfInBounds_toArray, List.set_cons_zero, List.set_cons_succ]
                  refine anyE_takeL 6 rfl (by kernel_rfl) (fun _ _ _ h => h) hS (by rfl) (v := ?_) ?_ ?_
                  rotate_left
                  · intro w' hSw; (try dsimp only at hSw); go_simp; (try with_reducible rfl)
                  try simp only [Act.put, List.setIfInBounds_toArray, List.set_cons_zero, List.set_cons_succ]
                  refine anyE_takeL 7 rfl (by kernel_rfl) (fun _ _ _ h => h) hS (by rfl) (v := ?_) ?_ ?_
                  rotate_left
                  · intro w' hSw; (try dsimp only at hSw); go_simp; (try with_reducible rfl)
                  try simp only [Act.put, List.setIfInBounds_toArray, List.set_cons_zero, List.set_cons_succ]
                  refine anyE_takeL 8 rfl (by kernel_rfl) (fun _ _ _ h => h) hS (by rfl) (v := ?_) ?_ ?_
                  rotate_left
                  · intro w' hSw; (try dsimp only at hSw); go_simp; (try with_reducible rfl)
                  try simp only [Act.put, List.setIfInBounds_toArray, List.set_cons_zero, List.set_cons_succ]
                  refine anyE_takeL 9 rfl (by kernel_rfl) (fun _ _ _ h => h) hS (by rfl) (v := ?_) ?_ ?_
                  rotate_left
                  · intro w' hSw; (try dsimp only at hSw); go_simp; (try with_reducible rfl)
                  try simp only [Act.put, List.setIfInBounds_toArray, List.set_cons_zero, List.set_cons_succ]
                  refine anyE_takeL 10 rfl (by kernel_rfl) (fun _ _ _ h => h) hS (by rfl) (v := ?_) ?_ ?_
                  rotate_left
                  · intro w' hSw; (try dsimp only at hSw); go_simp; (try with_reducible rfl)
                  try simp only [Act.put, List.setIfInBounds_toArray, List.set_cons_zero, List.set_cons_succ]
                  refine anyE_takeL 11 rfl (by kernel_rfl) (fun _ _ _ h => h) hS (by rfl) (v := ?_) ?_ ?_
                  rotate_left
                  · intro w' hSw; (try dsimp only at hSw); go_simp; (try with_reducible rfl)
                  try simp only [Act.put, List.setIfInBounds_toArray, List.set_cons_zero, List.set_cons_succ]
                  refine anyE_takeL 12 rfl (by kernel_rfl) (fun _ _ _ h => h) hS (by rfl) (v := ?_) ?_ ?_
                  rotate_left
                  · intro w' hSw; (try dsimp only at hSw); go_simp; (try with_reducible rfl)
                  try simp only [Act.put, List.setIfInBounds_toArray, List.set_cons_zero, List.set_cons_succ]
                  refine anyE_takeL 13 rfl (by kernel_rfl) (fun _ _ _ h => h) hS (by rfl) (v := ?_) ?_ ?_
                  rotate_left
                  · intro w' hSw; (try dsimp only at hSw); go_simp; (try with_reducible rfl)
                  try simp only [Act.put, List.setIfInBounds_toArray, List.set_cons_zero, List.set_cons_succ]
                  replace yc := fr_be hbd zc yc
                  replace zc := cell_be hbd zc
                  have HIn := (HIx.out.put (h + 1) (R + X)).below (Below.refl _ _).drew
                  rw [show (addAt cntP (row) (h - 1) X).set (h + 1) (R + X) = addAt cntP (addAt cntP (row) (h - 1) X) (h + 1) X from by rw [← w3.out]; exact ad_at cntP _ _ _ R HR.out] at HIn
                  have HIm := hide HIn
                  have hzd : w.heap.size < (wb.setCell ⟨gN, (h + 1), none⟩ (.int .i64 (R + X))).drew.heap.size := by simp; omega
                  refine anyE_lastL (by kernel_rfl) rfl (by kernel_rfl) (fun K' hK' => ?_)
                  go_simp
                  refine hK'.out _ _ ?_
                  clear hK' K' hS HIn zc yc rc xc w1 w3 hbd HIx HR
                  try simp only [Act.put, List.setIfInBounds_toArray, List.set_cons_zero, List.set_cons_succ]
                  obtain ⟨wd, hwn⟩ : ∃ wn, wn = (wb.setCell ⟨gN, (h + 1), none⟩ (.int .i64 (R + X))).drew := ⟨_, rfl⟩
                  rw [← hwn] at HIm hzd ⊢
                  have HIx := HIm
                  replace Hrr := hide (rngL_add (p := cntP) (by decide) Hrr.out (h + 1) X)
                  replace Hrl := hide (show (addAt cntP (addAt cntP (row) (h - 1) X) (h + 1) X).length = m by rw [addAt_len, Hrl.out])
                  clear HIm hwn hzx
                  have hzx := hzd
                  clear hzd
                  clear u2 u3 u4 u5
                  have HIz := hide (show CntI w wd g gN v (rndsP cntP A B v (h + 1)) by
                    rw [HN2.out]
                    exact HIx.out)
                  clear HIx Hrr Hrl HN2 Hm2
                  go_wp2
                  go_roundw
                  case rel => exact ⟨h + 1, by omega, by go_num, HIz, hzx⟩
                  case measure => simp [intOf]; omega
              · cases lb
                · have HN2 := hide (show rndsP cntP A B v (h + 1) = addAt cntP (rndD cntP B v (addAt cntP row h X) h) (h + 1) X by have q := HNr.out; rwa [show lvl false = 1 from rfl, Int.one_mul] at q)
                  have Hm2 := hide (show row.getD h 0 + X < cntP ∧ (h ≠ 0 → (addAt cntP row h X).getD (h - 1) 0 + X < cntP) ∧ (rndD cntP B v (addAt cntP row h X) h).getD (h + 1) 0 + X < cntP by have q := Hmid.out; rwa [show lvl false = 1 from rfl, Int.one_mul] at q)
                  clear Hmid HNr
                  have zc := HIx.out.new.cell h (by rw [Hrl.out]; omega)
                  have yc := HIx.out.new.free h
                  have rc := Hrr.out h
                  have bc : (row).getD h 0 + X < cntP := Hm2.out.1
                  obtain ⟨R, hR⟩ : ∃ R, (row).getD h 0 = R := ⟨_, rfl⟩
                  rw [hR] at zc rc bc
                  have HR := hide hR
                  have xc := HIx.out.old.cell h (by rw [Hvl.out]; exact hhm)
                  rw [HX.out] at xc
                  have w1 : IntKind.i64.wrap (R + X) = R + X := IntWalk.i64_in _ (by unfold cntP at bc; omega)
                  have hbd := (Below.refl wr.heap.size wr).drew
                  have w3 := hide (show (R + X) % cntP = R + X from Int.emod_eq_of_lt (by omega) bc)
                  clear hR bc
                  go_upto_region 11 with fail
                  refine region_E (fun w' => w'.cell? ⟨gN, h, none⟩ = some (.int .i64 R) ∧ w'.cell? ⟨g, h, none⟩ = some (.int .i64 X)) 12 (by kernel_rfl) ⟨cell_be hbd zc, cell_be hbd xc⟩ ?_
                  intro hS
                  refine anyE_takeL 0 rfl (by kernel_rfl) (fun _ _ _ h => h) hS (by rfl) (v := ?_) ?_ ?_
                  rotate_left
                  · intro w' hSw; (try dsimp only at hSw); go_simp; (try with_reducible rfl)
                  try simp only [Act.put, List.setIfInBounds_toArray, List.set_cons_zero, List.set_cons_succ]
                  refine anyE_takeL 1 rfl (by kernel_rfl) (fun _ _ _ h => h) hS (by rfl) (v := ?_) ?_ ?_
                  rotate_left
                  · intro w' hSw; (try dsimp only at hSw); go_simp; (try with_reducible rfl)
                  try simp only [Act.put, List.setIfInBounds_toArray, List.set_cons_zero, List.set_cons_succ]
                  refine anyE_takeL 2 rfl (by kernel_rfl) (fun _ _ _ h => h) hS (by rfl) (v := ?_) ?_ ?_
                  rotate_left
                  · intro w' hSw; (try dsimp only at hSw); go_simp; (try with_reducible rfl)
                  try simp only [Act.put, List.setIfInBounds_toArray, List.set_cons_zero, List.set_cons_succ]
                  refine anyE_takeL 3 rfl (by kernel_rfl) (fun _ _ _ h => h) hS (by rfl) (v := ?_) ?_ ?_
                  rotate_left
                  · intro w' hSw; (try dsimp only at hSw); go_simp; (try with_reducible rfl)
                  try simp only [Act.put, List.setIfInBounds_toArray, List.set_cons_zero, List.set_cons_succ]
                  refine anyE_takeL 4 rfl (by kernel_rfl) (fun _ _ _ h => h) hS (by rfl) (v := ?_) ?_ ?_
                  rotate_left
                  · intro w' hSw; (try dsimp only at hSw); go_simp; (try with_reducible rfl)
                  try simp only [Act.put, List.setIfInBounds_toArray, List.set_cons_zero, List.set_cons_succ]
                  refine anyE_takeL 5 rfl (by kernel_rfl) (fun _ _ _ h => h) hS (by rfl) (v := ?_) ?_ ?_
                  rotate_left
                  · intro w' hSw; (try dsimp only at hSw); go_simp; (try with_reducible rfl)
                  try simp only [Act.put, List.setIfInBounds_toArray, List.set_cons_zero, List.set_cons_succ]
                  refine anyE_takeL 6 rfl (by kernel_rfl) (fun _ _ _ h => h) hS (by rfl) (v := ?_) ?_ ?_
                  rotate_left
                  · intro w' hSw; (try dsimp only at hSw); go_simp; (try with_reducible rfl)
                  try simp only [Act.put, List.setIfInBounds_toArray, List.set_cons_zero, List.set_cons_succ]
                  refine anyE_takeL 7 rfl (by kernel_rfl) (fun _ _ _ h => h) hS (by rfl) (v := ?_) ?_ ?_
                  rotate_left
                  · intro w' hSw; (try dsimp only at hSw); go_simp; (try with_reducible rfl)
                  try simp only [Act.put, List.setIfInBounds_toArray, List.set_cons_zero, List.set_cons_succ]
                  refine anyE_takeL 8 rfl (by kernel_rfl) (fun _ _ _ h => h) hS (by rfl) (v := ?_) ?_ ?_
                  rotate_left
                  · intro w' hSw; (try dsimp only at hSw); go_simp; (try with_reducible rfl)
                  try simp only [Act.put, List.setIfInBounds_toArray, List.set_cons_zero, List.set_cons_succ]
                  refine anyE_takeL 9 rfl (by kernel_rfl) (fun _ _ _ h => h) hS (by rfl) (v := ?_) ?_ ?_
                  rotate_left
                  · intro w' hSw; (try dsimp only at hSw); go_simp; (try with_reducible rfl)
                  try simp only [Act.put, List.setIfInBounds_toArray, List.set_cons_zero, List.set_cons_succ]
                  refine anyE_takeL 10 rfl (by kernel_rfl) (fun _ _ _ h => h) hS (by rfl) (v := ?_) ?_ ?_
                  rotate_left
                  · intro w' hSw; (try dsimp only at hSw); go_simp; (try with_reducible rfl)
                  try simp only [Act.put, List.setIfInBounds_toArray, List.set_cons_zero, List.set_cons_succ]
                  refine anyE_takeL 11 rfl (by kernel_rfl) (fun _ _ _ h => h) hS (by rfl) (v := ?_) ?_ ?_
                  rotate_left
                  · intro w' hSw; (try dsimp only at hSw); go_simp; (try with_reducible rfl)
                  try simp only [Act.put, List.setIfInBounds_toArray, List.set_cons_zero, List.set_cons_succ]
                  replace yc := fr_be hbd zc yc
                  replace zc := cell_be hbd zc
                  have HIn := (HIx.out.put h (R + X)).below (Below.refl _ _).drew
                  rw [show (row).set h (R + X) = addAt cntP row h X from by rw [← w3.out]; exact ad_at cntP _ _ _ R HR.out] at HIn
                  have HIm := hide HIn
                  have hzd : w.heap.size < (wr.setCell ⟨gN, h, none⟩ (.int .i64 (R + X))).drew.heap.size := by simp; omega
                  refine anyE_lastL (by kernel_rfl) rfl (by kernel_rfl) (fun K' hK' => ?_)
                  go_simp
                  refine hK'.out _ _ ?_
                  clear hK' K' hS HIn zc yc rc xc w1 w3 hbd HIx HR
                  try simp only [Act.put, List.setIfInBounds_toArray, List.set_cons_zero, List.set_cons_succ]
                  obtain ⟨wa, hwn⟩ : ∃ wn, wn = (wr.setCell ⟨gN, h, none⟩ (.int .i64 (R + X))).drew := ⟨_, rfl⟩
                  rw [← hwn] at HIm hzd ⊢
                  have HIx := HIm
                  replace Hrr := hide (rngL_add (p := cntP) (by decide) Hrr.out h X)
                  replace Hrl := hide (show (addAt cntP row h X).length = m by rw [addAt_len, Hrl.out])
                  clear HIm hwn hzx
                  have hzx := hzd
                  clear hzd
                  have d1 : (0 : Int) < (h : Int) := by have := Hd.out; omega
                  have d2 : 1 ≤ (h : Int) := by omega
                  have d3 : (0 : Int) ≤ (h : Int) - 1 := by omega
                  have d4 : (h : Int) - 1 < (m : Int) := by omega
                  have d5 : ((h : Int) - 1).toNat = h - 1 := by omega
                  have d6 : IntKind.i64.wrap ((h : Int) - 1) = (h : Int) - 1 := IntWalk.i64_in _ (by omega)
                  rw [HD1.out Hd.out] at HN2 Hm2
                  have zc := HIx.out.new.cell (h - 1) (by rw [Hrl.out]; omega)
                  have yc := HIx.out.new.free (h - 1)
                  have rc := Hrr.out (h - 1)
                  have bc : (addAt cntP row h X).getD (h - 1) 0 + X < cntP := Hm2.out.2.1 Hd.out
                  obtain ⟨R, hR⟩ : ∃ R, (addAt cntP row h X).getD (h - 1) 0 = R := ⟨_, rfl⟩
                  rw [hR] at zc rc bc
                  have HR := hide hR
                  have xc := HIx.out.old.cell h (by rw [Hvl.out]; exact hhm)
                  rw [HX.out] at xc
                  have w1 : IntKind.i64.wrap (R + X) = R + X := IntWalk.i64_in _ (by unfold cntP at bc; omega)
                  have hbd := (Below.refl wa.heap.size wa).drew
                  have w3 := hide (show (R + X) % cntP = R + X from Int.emod_eq_of_lt (by omega) bc)
                  clear hR bc
                  go_upto_region 13 with fail
                  refine region_E (fun w' => w'.cell? ⟨gN, (h - 1), none⟩ = some (.int .i64 R) ∧ w'.cell? ⟨g, h, none⟩ = some (.int .i64 X)) 14 (by kernel_rfl) ⟨cell_be hbd zc, cell_be hbd xc⟩ ?_
                  intro hS
                  refine anyE_takeL 0 rfl (by kernel_rfl) (fun _ _ _ h => h) hS (by rfl) (v := ?_) ?_ ?_
                  rotate_left
                  · intro w' hSw; (try dsimp only at hSw); go_simp; (try with_reducible rfl)
                  try simp only [Act.put, List.setIfInBounds_toArray, List.set_cons_zero, List.set_cons_succ]
                  refine anyE_takeL 1 rfl (by kernel_rfl) (fun _ _ _ h => h) hS (by rfl) (v := ?_) ?_ ?_
                  rotate_left
                  · intro w' hSw; (try dsimp only at hSw); go_simp; (try with_reducible rfl)
                  try simp only [Act.put, List.setIfInBounds_toArray, List.set_cons_zero, List.set_cons_succ]
                  refine anyE_takeL 2 rfl (by kernel_rfl) (fun _ _ _ h => h) hS (by rfl) (v := ?_) ?_ ?_
                  rotate_left
                  · intro w' hSw; (try dsimp only at hSw); go_simp; (try with_reducible rfl)
                  try simp only [Act.put, List.setIfInBounds_toArray, List.set_cons_zero, List.set_cons_succ]
                  refine anyE_takeL 3 rfl (by kernel_rfl) (fun _ _ _ h => h) hS (by rfl) (v := ?_) ?_ ?_
                  rotate_left
                  · intro w' hSw; (try dsimp only at hSw); go_simp; (try with_reducible rfl)
                  try simp only [Act.put, List.setIfInBounds_toArray, List.set_cons_zero, List.set_cons_succ]
                  refine anyE_takeL 4 rfl (by kernel_rfl) (fun _ _ _ h => h) hS (by rfl) (v := ?_) ?_ ?_
                  rotate_left
                  · intro w' hSw; (try dsimp only at hSw); go_simp; (try with_reducible rfl)
                  try simp only [Act.put, List.setIfInBounds_toArray, List.set_cons_zero, List.set_cons_succ]
                  refine anyE_takeL 5 rfl (by kernel_rfl) (fun _ _ _ h => h) hS (by rfl) (v := ?_) ?_ ?_
                  rotate_left
                  · intro w' hSw; (try dsimp only at hSw); go_simp; (try with_reducible rfl)
                  try simp only [Act.put, List.setIfInBounds_toArray, List.set_cons_zero, List.set_cons_succ]
                  refine anyE_takeL 6 rfl (by kernel_rfl) (fun _ _ _ h => h) hS (by rfl) (v := ?_) ?_ ?_
                  rotate_left
                  · intro w' hSw; (try dsimp only at hSw); go_simp; (try with_reducible rfl)
                  try simp only [Act.put, List.setIfInBounds_toArray, List.set_cons_zero, List.set_cons_succ]
                  refine anyE_takeL 7 rfl (by kernel_rfl) (fun _ _ _ h => h) hS (by rfl) (v := ?_) ?_ ?_
                  rotate_left
                  · intro w' hSw; (try dsimp only at hSw); go_simp; (try with_reducible rfl)
                  try simp only [Act.put, List.setIfInBounds_toArray, List.set_cons_zero, List.set_cons_succ]
                  refine anyE_takeL 8 rfl (by kernel_rfl) (fun _ _ _ h => h) hS (by rfl) (v := ?_) ?_ ?_
                  rotate_left
                  · intro w' hSw; (try dsimp only at hSw); go_simp; (try with_reducible rfl)
                  try simp only [Act.put, List.setIfInBounds_toArray, List.set_cons_zero, List.set_cons_succ]
                  refine anyE_takeL 9 rfl (by kernel_rfl) (fun _ _ _ h => h) hS (by rfl) (v := ?_) ?_ ?_
                  rotate_left
                  · intro w' hSw; (try dsimp only at hSw); go_simp; (try with_reducible rfl)
                  try simp only [Act.put, List.setIfInBounds_toArray, List.set_cons_zero, List.set_cons_succ]
                  refine anyE_takeL 10 rfl (by kernel_rfl) (fun _ _ _ h => h) hS (by rfl) (v := ?_) ?_ ?_
                  rotate_left
                  · intro w' hSw; (try dsimp only at hSw); go_simp; (try with_reducible rfl)
                  try simp only [Act.put, List.setIfInBounds_toArray, List.set_cons_zero, List.set_cons_succ]
                  refine anyE_takeL 11 rfl (by kernel_rfl) (fun _ _ _ h => h) hS (by rfl) (v := ?_) ?_ ?_
                  rotate_left
                  · intro w' hSw; (try dsimp only at hSw); go_simp; (try with_reducible rfl)
                  try simp only [Act.put, List.setIfInBounds_toArray, List.set_cons_zero, List.set_cons_succ]
                  refine anyE_takeL 12 rfl (by kernel_rfl) (fun _ _ _ h => h) hS (by rfl) (v := ?_) ?_ ?_
                  rotate_left
                  · intro w' hSw; (try dsimp only at hSw); go_simp; (try with_reducible rfl)
                  try simp only [Act.put, List.setIfInBounds_toArray, List.set_cons_zero, List.set_cons_succ]
                  refine anyE_takeL 13 rfl (by kernel_rfl) (fun _ _ _ h => h) hS (by rfl) (v := ?_) ?_ ?_
                  rotate_left
                  · intro w' hSw; (try dsimp only at hSw); go_simp; (try with_reducible rfl)
                  try simp only [Act.put, List.setIfInBounds_toArray, List.set_cons_zero, List.set_cons_succ]
                  replace yc := fr_be hbd zc yc
                  replace zc := cell_be hbd zc
                  have HIn := (HIx.out.put (h - 1) (R + X)).below (Below.refl _ _).drew
                  rw [show (addAt cntP row h X).set (h - 1) (R + X) = addAt cntP (addAt cntP row h X) (h - 1) X from by rw [← w3.out]; exact ad_at cntP _ _ _ R HR.out] at HIn
                  have HIm := hide HIn
                  have hzd : w.heap.size < (wa.setCell ⟨gN, (h - 1), none⟩ (.int .i64 (R + X))).drew.heap.size := by simp; omega
                  refine anyE_lastL (by kernel_rfl) rfl (by kernel_rfl) (fun K' hK' => ?_)
                  go_simp
                  refine hK'.out _ _ ?_
                  clear hK' K' hS HIn zc yc rc xc w1 w3 hbd HIx HR
                  try simp only [Act.put, List.setIfInBounds_toArray, List.set_cons_zero, List.set_cons_succ]
                  obtain ⟨wb, hwn⟩ : ∃ wn, wn = (wa.setCell ⟨gN, (h - 1), none⟩ (.int .i64 (R + X))).drew := ⟨_, rfl⟩
                  rw [← hwn] at HIm hzd ⊢
                  have HIx := HIm
                  replace Hrr := hide (rngL_add (p := cntP) (by decide) Hrr.out (h - 1) X)
                  replace Hrl := hide (show (addAt cntP (addAt cntP row h X) (h - 1) X).length = m by rw [addAt_len, Hrl.out])
                  clear HIm hwn hzx
                  have hzx := hzd
                  clear hzd
                  clear d1 d2 d3 d4 d5 d6
                  have u2 : ¬ (h : Int) < (M : Int) := by have := Hm.out; omega
                  have HIz := hide (show CntI w wb g gN v (rndsP cntP A B v (h + 1)) by
                    rw [HN2.out]
                    rw [addAt_out cntP _ (h + 1) X (by rw [Hrl.out]; omega)]
                    exact HIx.out)
                  clear HIx Hrr Hrl HN2 Hm2
                  go_wp2
                  go_roundw
                  case rel => exact ⟨h + 1, by omega, by go_num, HIz, hzx⟩
                  case measure => simp [intOf]; omega
                · have HN2 := hide (show rndsP cntP A B v (h + 1) = addAt cntP (rndD cntP B v row h) (h + 1) X by have q := HNr.out; rwa [show lvl true = 0 from rfl, Int.zero_mul, addAt_nil Hrr.out] at q)
                  have Hm2 := hide (show row.getD h 0 + 0 * X < cntP ∧ (h ≠ 0 → row.getD (h - 1) 0 + X < cntP) ∧ (rndD cntP B v row h).getD (h + 1) 0 + X < cntP by have q := Hmid.out; rwa [show lvl true = 0 from rfl, show addAt cntP row h (0 * X) = row by rw [Int.zero_mul]; exact addAt_nil Hrr.out h] at q)
                  clear Hmid HNr
                  have d1 : (0 : Int) < (h : Int) := by have := Hd.out; omega
                  have d2 : 1 ≤ (h : Int) := by omega
                  have d3 : (0 : Int) ≤ (h : Int) - 1 := by omega
                  have d4 : (h : Int) - 1 < (m : Int) := by omega
                  have d5 : ((h : Int) - 1).toNat = h - 1 := by omega
                  have d6 : IntKind.i64.wrap ((h : Int) - 1) = (h : Int) - 1 := IntWalk.i64_in _ (by omega)
                  rw [HD1.out Hd.out] at HN2 Hm2
                  have zc := HIx.out.new.cell (h - 1) (by rw [Hrl.out]; omega)
                  have yc := HIx.out.new.free (h - 1)
                  have rc := Hrr.out (h - 1)
                  have bc : (row).getD (h - 1) 0 + X < cntP := Hm2.out.2.1 Hd.out
                  obtain ⟨R, hR⟩ : ∃ R, (row).getD (h - 1) 0 = R := ⟨_, rfl⟩
                  rw [hR] at zc rc bc
                  have HR := hide hR
                  have xc := HIx.out.old.cell h (by rw [Hvl.out]; exact hhm)
                  rw [HX.out] at xc
                  have w1 : IntKind.i64.wrap (R + X) = R + X := IntWalk.i64_in _ (by unfold cntP at bc; omega)
                  have hbd := (Below.refl wr.heap.size wr).drew
                  have w3 := hide (show (R + X) % cntP = R + X from Int.emod_eq_of_lt (by omega) bc)
                  clear hR bc
                  go_upto_region 13 with fail
                  refine region_E (fun w' => w'.cell? ⟨gN, (h - 1), none⟩ = some (.int .i64 R) ∧ w'.cell? ⟨g, h, none⟩ = some (.int .i64 X)) 14 (by kernel_rfl) ⟨cell_be hbd zc, cell_be hbd xc⟩ ?_
                  intro hS
                  refine anyE_takeL 0 rfl (by kernel_rfl) (fun _ _ _ h => h) hS (by rfl) (v := ?_) ?_ ?_
                  rotate_left
                  · intro w' hSw; (try dsimp only at hSw); go_simp; (try with_reducible rfl)
                  try simp only [Act.put, List.setIfInBounds_toArray, List.set_cons_zero, List.set_cons_succ]
                  refine anyE_takeL 1 rfl (by kernel_rfl) (fun _ _ _ h => h) hS (by rfl) (v := ?_) ?_ ?_
                  rotate_left
                  · intro w' hSw; (try dsimp only at hSw); go_simp; (try with_reducible rfl)
                  try simp only [Act.put, List.setIfInBounds_toArray, List.set_cons_zero, List.set_cons_succ]
                  refine anyE_takeL 2 rfl (by kernel_rfl) (fun _ _ _ h => h) hS (by rfl) (v := ?_) ?_ ?_
                  rotate_left
                  · intro w' hSw; (try dsimp only at hSw); go_simp; (try with_reducible rfl)
                  try simp only [Act.put, List.setIfInBounds_toArray, List.set_cons_zero, List.set_cons_succ]
                  refine anyE_takeL 3 rfl (by kernel_rfl) (fun _ _ _ h => h) hS (by rfl) (v := ?_) ?_ ?_
                  rotate_left
                  · intro w' hSw; (try dsimp only at hSw); go_simp; (try with_reducible rfl)
                  try simp only [Act.put, List.setIfInBounds_toArray, List.set_cons_zero, List.set_cons_succ]
                  refine anyE_takeL 4 rfl (by kernel_rfl) (fun _ _ _ h => h) hS (by rfl) (v := ?_) ?_ ?_
                  rotate_left
                  · intro w' hSw; (try dsimp only at hSw); go_simp; (try with_reducible rfl)
                  try simp only [Act.put, List.setIfInBounds_toArray, List.set_cons_zero, List.set_cons_succ]
                  refine anyE_takeL 5 rfl (by kernel_rfl) (fun _ _ _ h => h) hS (by rfl) (v := ?_) ?_ ?_
                  rotate_left
                  · intro w' hSw; (try dsimp only at hSw); go_simp; (try with_reducible rfl)
                  try simp only [Act.put, List.setIfInBounds_toArray, List.set_cons_zero, List.set_cons_succ]
                  refine anyE_takeL 6 rfl (by kernel_rfl) (fun _ _ _ h => h) hS (by rfl) (v := ?_) ?_ ?_
                  rotate_left
                  · intro w' hSw; (try dsimp only at hSw); go_simp; (try with_reducible rfl)
                  try simp only [Act.put, List.setIfInBounds_toArray, List.set_cons_zero, List.set_cons_succ]
                  refine anyE_takeL 7 rfl (by kernel_rfl) (fun _ _ _ h => h) hS (by rfl) (v := ?_) ?_ ?_
                  rotate_left
                  · intro w' hSw; (try dsimp only at hSw); go_simp; (try with_reducible rfl)
                  try simp only [Act.put, List.setIfInBounds_toArray, List.set_cons_zero, List.set_cons_succ]
                  refine anyE_takeL 8 rfl (by kernel_rfl) (fun _ _ _ h => h) hS (by rfl) (v := ?_) ?_ ?_
                  rotate_left
                  · intro w' hSw; (try dsimp only at hSw); go_simp; (try with_reducible rfl)
                  try simp only [Act.put, List.setIfInBounds_toArray, List.set_cons_zero, List.set_cons_succ]
                  refine anyE_takeL 9 rfl (by kernel_rfl) (fun _ _ _ h => h) hS (by rfl) (v := ?_) ?_ ?_
                  rotate_left
                  · intro w' hSw; (try dsimp only at hSw); go_simp; (try with_reducible rfl)
                  try simp only [Act.put, List.setIfInBounds_toArray, List.set_cons_zero, List.set_cons_succ]
                  refine anyE_takeL 10 rfl (by kernel_rfl) (fun _ _ _ h => h) hS (by rfl) (v := ?_) ?_ ?_
                  rotate_left
                  · intro w' hSw; (try dsimp only at hSw); go_simp; (try with_reducible rfl)
                  try simp only [Act.put, List.setIfInBounds_toArray, List.set_cons_zero, List.set_cons_succ]
                  refine anyE_takeL 11 rfl (by kernel_rfl) (fun _ _ _ h => h) hS (by rfl) (v := ?_) ?_ ?_
                  rotate_left
                  · intro w' hSw; (try dsimp only at hSw); go_simp; (try with_reducible rfl)
                  try simp only [Act.put, List.setIfInBounds_toArray, List.set_cons_zero, List.set_cons_succ]
                  refine anyE_takeL 12 rfl (by kernel_rfl) (fun _ _ _ h => h) hS (by rfl) (v := ?_) ?_ ?_
                  rotate_left
                  · intro w' hSw; (try dsimp only at hSw); go_simp; (try with_reducible rfl)
                  try simp only [Act.put, List.setIfInBounds_toArray, List.set_cons_zero, List.set_cons_succ]
                  refine anyE_takeL 13 rfl (by kernel_rfl) (fun _ _ _ h => h) hS (by rfl) (v := ?_) ?_ ?_
                  rotate_left
                  · intro w' hSw; (try dsimp only at hSw); go_simp; (try with_reducible rfl)
                  try simp only [Act.put, List.setIfInBounds_toArray, List.set_cons_zero, List.set_cons_succ]
                  replace yc := fr_be hbd zc yc
                  replace zc := cell_be hbd zc
                  have HIn := (HIx.out.put (h - 1) (R + X)).below (Below.refl _ _).drew
                  rw [show (row).set (h - 1) (R + X) = addAt cntP (row) (h - 1) X from by rw [← w3.out]; exact ad_at cntP _ _ _ R HR.out] at HIn
                  have HIm := hide HIn
                  have hzd : w.heap.size < (wr.setCell ⟨gN, (h - 1), none⟩ (.int .i64 (R + X))).drew.heap.size := by simp; omega
                  refine anyE_lastL (by kernel_rfl) rfl (by kernel_rfl) (fun K' hK' => ?_)
                  go_simp
                  refine hK'.out _ _ ?_
                  clear hK' K' hS HIn zc yc rc xc w1 w3 hbd HIx HR
                  try simp only [Act.put, List.setIfInBounds_toArray, List.set_cons_zero, List.set_cons_succ]
                  obtain ⟨wb, hwn⟩ : ∃ wn, wn = (wr.setCell ⟨gN, (h - 1), none⟩ (.int .i64 (R + X))).drew := ⟨_, rfl⟩
                  rw [← hwn] at HIm hzd ⊢
                  have HIx := HIm
                  replace Hrr := hide (rngL_add (p := cntP) (by decide) Hrr.out (h - 1) X)
                  replace Hrl := hide (show (addAt cntP (row) (h - 1) X).length = m by rw [addAt_len, Hrl.out])
                  clear HIm hwn hzx
                  have hzx := hzd
                  clear hzd
                  clear d1 d2 d3 d4 d5 d6
                  have u2 : ¬ (h : Int) < (M : Int) := by have := Hm.out; omega
                  have HIz := hide (show CntI w wb g gN v (rndsP cntP A B v (h + 1)) by
                    rw [HN2.out]
                    rw [addAt_out cntP _ (h + 1) X (by rw [Hrl.out]; omega)]
                    exact HIx.out)
                  clear HIx Hrr Hrl HN2 Hm2
                  go_wp2
                  go_roundw
                  case rel => exact ⟨h + 1, by omega, by go_num, HIz, hzx⟩
                  case measure => simp [intOf]; omega
          · have hhe : Hid (h = m) := hide (by omega)
            have hge : ¬ (h : Int) ≤ (M : Int) := by have := Hm.out; omega
            have Y1 := hide (show RowI wr gN (rowP cntP A B m i (t + 1)) by rw [HNx.out, ← hhe.out]; exact HIx.out.new)
            have Y3 := hide HIx.out.bel
            have Y4 := HIx.out.lN
            clear HIx
            go_wp2
            go_roundw
            case rel => exact ⟨t + 1, gN, by omega, (by rw [show ((N - t : Nat) : Int) - 1 = ((N - (t + 1) : Nat) : Int) by omega]), rfl, Y1, Y3, Y4, hzx⟩
            case measure => simp [intOf]; omega
      · have htN : Hid (t = N) := hide (by omega)
        have hge : ¬ (0 : Int) < ((N - t : Nat) : Int) := by omega
        go_wp2
        go_ret
        have z := hR.out
        rw [htN.out] at z
        have o := z.own' (B := w.heap.size) (by omega) (by rw [rowP_len]; unfold maxLen; omega)
        rw [rowP_len] at o
        exact ⟨_, rfl, o, hW.out⟩
end Go.Proofs.Ythahcnmfaghohaa
