/- Merged texts. -/
import Derived.Test.YtnojmghmkoojfaaYRs20
import Derived.Test.YtnojmghmkoojfaaYRs0
import Derived.Deep.RegionHeld3
/- Contracts: slices.Clone at lists, slices.IndexFunc with the pivot's closure, eliminate (program). -/
namespace Go.Proofs.Ytnojmghmkoojfaa
open Go.RowKit
set_option linter.unusedVariables false
set_option linter.unusedSimpArgs false

set_option maxRecDepth 100000 in
set_option maxHeartbeats 800000 in
theorem cloneV_any (g0 n m cap0 : Nat) (X : Nat → List Int) (w : World) (hc : ∀ i, i < m → ∃ a c, w.cell? ⟨g0, i, none⟩ = some (.slice a n c) ∧ SL w a n c (X i)) (hm : m ≤ 1000) (hn : 1 ≤ n) :
    Calls Try.prog 121 #[.slice (some ⟨g0, 0, none⟩) m cap0] w fun e w' => ∃ ad cap vs, e = .returned (.slice ad m cap) ∧ OwnV w.heap.size w' ad cap vs ∧ vs.length = m ∧ (∀ i, i < m → ∃ a c, vs[i]? = some (.slice a n c) ∧ SL w' a n c (X i) ∧ ∀ b, blk a = some b → b < w.heap.size) ∧ Below w.heap.size w w' := by
  have hq := fun w => Lib.run_eql_slice_nil (P := Try.prog) w 41 22 (some ⟨g0, 0, none⟩) m cap0 0 0 Try.underlying41
  have hvs : ∃ vs : List Value, vs.length = m ∧ (∀ i, i < m → ∃ a c, vs[i]? = some (.slice a n c) ∧ w.cell? ⟨g0, i, none⟩ = some (.slice a n c) ∧ SL w a n c (X i)) := by
    refine ⟨(List.range m).map (fun i => (w.cell? ⟨g0, i, none⟩).getD undef), by simp, fun i hi => ?_⟩
    obtain ⟨a, c, h1, h2⟩ := hc i hi
    exact ⟨a, c, by simp [hi, h1], h1, h2⟩
  obtain ⟨vs, hl, hv⟩ := hvs
  have Hv := hide hv
  have Hl := hide hl
  have hb1 := bl1 w (.cells #[] 22)
  have ho : OwnV w.heap.size (w.alloc (.cells #[] 22)) (some ⟨w.heap.size, 0, none⟩) 0 [] := World.ownsRow_lit w (base := w.heap.size) (e := 22) (size := 1) #[] 0 (Nat.le_refl _) (by simp) rfl
  have hz : ∀ j u, vs[j]? = some u → (w.alloc (.cells #[] 22)).cell? ((⟨g0, 0, none⟩ : Addr).add j) = some u := fun j u hj => by
    have hj' : j < m := by have := (List.getElem?_eq_some_iff.1 hj).1; omega
    obtain ⟨a, c, h1, h2, _⟩ := hv j hj'
    rw [h1] at hj
    cases hj
    rw [Addr.add_lit, Nat.zero_add]
    exact cell_be hb1 h2
  have h1 : ∀ u ∈ vs, u.oneCell' = true := fun u hu => by
    obtain ⟨i, hi, rfl⟩ := List.mem_iff_getElem.1 hu
    obtain ⟨a, c, h1, _⟩ := hv i (by omega)
    rw [List.getElem?_eq_getElem hi] at h1
    rw [Option.some.inj h1]
    rfl
  have Hz := hide hz
  have H1 := hide h1
  clear hv hl hz h1 hc
  go_enter Try.func121, Try.ntmps121
  go_wp2_with (at_builtin; refine wp_appendV rfl _ _ rfl w.heap.size _ _ _ [] rfl rfl ho _ m cap0 vs rfl Hl.out Hz.out H1.out (by omega) (by simp) ?_; intro ad' cap' w1 hown hb; simp only [List.nil_append] at hown)
  refine bodyPost_ret (v := .slice ad' vs.length cap') (by simp [results, Try.results121]) rfl ?_
  have hB := hb1.trans hb
  exact ⟨ad', ⟨cap', ⟨vs, by rw [Hl.out], hown, Hl.out, (fun i hi => by
    obtain ⟨a, c, h1, h2, h3⟩ := Hv.out i hi
    refine ⟨a, c, h1, h3.below hB, fun b hb' => ?_⟩
    obtain ⟨bb, oo, rfl, hw, _⟩ := h3.at (by omega)
    simp [blk] at hb'
    omega), hB⟩⟩⟩
set_option maxRecDepth 100000 in
set_option maxHeartbeats 800000 in
theorem pivot_any (a : Option Addr) (n c k : Nat) (xs : List Int) (x : Int) (kb : Nat) (w : World) (hs : SL w a n c xs) (hk : w.cell? ⟨kb, 0, none⟩ = some (.int .i64 k)) (hkn : k < n) (hn : n ≤ 1000) (hx : xs.getD k 0 = x) :
    Calls Try.prog 123 #[.slice a n c, .pointer (some ⟨kb, 0, none⟩)] w fun e w' => e = .returned (.bool (x != 0)) ∧ w = w' := by
  obtain ⟨b, off, rfl, hbw, hcell⟩ := hs.at (by omega)
  have e1 := hcell k hkn
  rw [hx] at e1
  have hlt : (k : Int) < (n : Int) := by omega
  clear hcell hs hx
  go_enter Try.func123, Try.ntmps123
  go_wp2
  go_ret
  exact ⟨rfl, rfl⟩
set_option maxRecDepth 100000 in
set_option maxHeartbeats 1600000 in
theorem indexFunc_any (B g n cap : Nat) (vs : List Value) (X : Nat → List Int) (k kb : Nat) (w : World) (h : RowsX B g n cap w vs X n) (hk : w.cell? ⟨kb, 0, none⟩ = some (.int .i64 k)) (hkn : k < n) (hn : n ≤ 1000) :
    Calls Try.prog 122 #[.slice (some ⟨g, k, none⟩) (n - k) (cap - k), .func (.func 123) #[] #[.pointer (some ⟨kb, 0, none⟩)]] w
      fun e w' => ∃ r : Int, e = .returned (.int .i64 r) ∧ ((pivF X k (n - k) k = n ∧ r = -1) ∨ (∃ j : Nat, pivF X k (n - k) k = k + j ∧ r = j ∧ k + j < n)) ∧ w = w' := by
  have H := hide h
  obtain ⟨m, hm⟩ : ∃ m, m = n - k := ⟨_, rfl⟩
  rw [← hm]
  have Hm := hide (show k + m = n by omega)
  have hm9 : m ≤ 1000 := by omega
  have hz0 : Hid (∀ i, k ≤ i → i < k + 0 → (X i).getD k 0 = 0) := hide (fun i h1 h2 => by omega)
  clear h hm
  go_enter Try.func122, Try.ntmps122
  go_wp2
  go_loop [8] (fun iv => ∃ j : Nat, j ≤ m ∧ iv = .int .i64 j ∧ Hid (∀ i, k ≤ i → i < k + j → (X i).getD k 0 = 0)) (fun iv => m - (intOf iv).toNat)
  case atStart => exact ⟨0, by omega, rfl, hz0⟩
  case round =>
    obtain ⟨j, hj, rfl, hZ⟩ := hrel
    clear hz0
    by_cases hlt : j < m
    · obtain ⟨a, c, e1, s1, _, _⟩ := H.out.get (k + j) (by have := Hm.out; omega)
      obtain ⟨x, hx⟩ : ∃ x, (X (k + j)).getD k 0 = x := ⟨_, rfl⟩
      have HX := hide hx
      clear hx
      have hlt' : (j : Int) < (m : Int) := by omega
      by_cases hz : x = 0
      · subst hz
        go_wp2_with fail
        refine (pivot_any _ _ _ k _ 0 kb _ s1 hk hkn hn HX.out).mono ?_
        rintro e w2 ⟨rfl, rfl⟩
        go_wp2
        go_round
        case rel => exact ⟨j + 1, by omega, by go_num, hide (fun i h1 h2 => by
          by_cases e : i = k + j
          · rw [e]; exact HX.out
          · exact hZ.out i h1 (by omega))⟩
        case measure => simp [intOf]; omega
      · have ob : (x != 0) = true := by simpa using hz
        have hp : Hid (pivF X k m k = k + j) := hide (pivF_stop X k m k j hlt hZ.out (by rw [HX.out]; exact hz))
        clear hz
        go_wp2_with fail
        refine (pivot_any _ _ _ k _ x kb _ s1 hk hkn hn HX.out).mono ?_
        rintro e w2 ⟨rfl, rfl⟩
        go_wp2
        refine bodyPost_ret (v := .int .i64 (j : Int)) (by simp [results, Try.results122]) rfl ?_
        exact ⟨_, rfl, .inr ⟨j, hp.out, rfl, by have := Hm.out; omega⟩, rfl⟩
    · have hjm : j = m := by omega
      have hp : Hid (pivF X k m k = n) := hide (by rw [pivF_skip X k m k (fun i h1 h2 => hZ.out i h1 (by omega))]; exact Hm.out)
      have hge : ¬ (j : Int) < (m : Int) := by omega
      clear hjm
      go_wp2
      refine bodyPost_ret (v := .int .i64 (-1)) (by simp [results, Try.results122]) rfl ?_
      exact ⟨_, rfl, .inl ⟨hp.out, rfl⟩, rfl⟩
end Go.Proofs.Ytnojmghmkoojfaa
/- Regions that draw their order and end with a store: a condition S is kept up to the last operation L, which waits for all the others, and need not hold behind it. Loads are taken first under S. -/
namespace Go.Proofs.Ytnojmghmkoojfaa
open Go.RowKit
set_option linter.unusedVariables false
set_option linter.unusedSimpArgs false
section
variable {P : Program} {ops : Array Oper} {Q : Exit → Act → World → Prop} {md : Region.Mode} {S : World → Prop} {L : Nat}
/-- Whatever order is drawn from here on; S holds behind every operation but L. -/
def anyE (P : Program) (md : Region.Mode) (ops : Array Oper) (Q : Exit → Act → World → Prop) (S : World → Prop) (L : Nat) : Nat → Array Bool → Act → World → Prop
  | 0, done, a, w => Region.ready md ops done = [] ∧ Q .normal a w
  | n + 1, done, a, w => (Region.ready md ops done = [] → Q .normal a w) ∧
      ∀ i ∈ Region.ready md ops done, wpOp P ops Q i (fun a' w' => (i ≠ L → S w') ∧ anyE P md ops Q S L n (done.setIfInBounds i true) a' w') a w
theorem anyE_any : ∀ (n : Nat) (done : Array Bool) (a : Act) (w : World), anyE P md ops Q S L n done a w → wpAny P md ops Q n done a w := by
  intro n
  induction n with
  | zero => intro _ _ _ h; exact h
  | succ n ih => intro _ _ _ h; exact ⟨h.1, fun i hi => wpOp_mono (fun _ _ k => ih _ _ _ k.2) (h.2 i hi)⟩
/-- L waits for i. -/
def waits (md : Region.Mode) (ops : Array Oper) (L i : Nat) : Bool := match ops[L]? with
  | some o => o.after.any fun e => Region.binds md e && e.on == i
  | none => false
theorem waits_not {i : Nat} {done : Array Bool} (h : waits md ops L i = true) (hi : i ∈ Region.ready md ops done) : L ∉ Region.ready md ops done := by
  intro hL
  obtain ⟨h1, _, _, _⟩ := mem_ready.1 hi
  obtain ⟨_, o, ho, hall⟩ := mem_ready.1 hL
  simp only [waits, ho, Array.any_eq_true, Bool.and_eq_true, beq_iff_eq] at h
  obtain ⟨k, hk, hb, he⟩ := h
  have h2 := hall _ (Array.getElem_mem hk) hb
  rw [he] at h2
  by_cases hs : i < done.size
  · simp [Array.getD, hs] at h1 h2; rw [h1] at h2; cases h2
  · simp [Array.getD, hs] at h2
theorem anyE_front {i : Nat} {oi : Oper} {v : Value} (hi : ops[i]? = some oi) (hsel : ∀ (j : Nat) (o : Oper) cs b, ops[j]? = some o → o.op ≠ .select cs b)
    (hQ : ∀ c a w, Q (.panic c) (a.put oi.dst v) w → Q (.panic c) a w) (hnr : ∀ done : Array Bool, i ∈ Region.ready md ops done → L ∉ Region.ready md ops done) :
    ∀ (n : Nat) (done : Array Bool) (a : Act) (w : World),
      (∀ j oj, ops[j]? = some oj → j ≠ i → done.getD j true = false → (∀ e ∈ oj.after, Region.binds md e = true → e.on ≠ i) → oi.apart ops oj = true) →
      i ∈ Region.ready md ops done → YieldsIf P ops S oi v a → S w →
      anyE P md ops Q S L n (done.setIfInBounds i true) (a.put oi.dst v) w → anyE P md ops Q S L (n + 1) done a w := by
  intro n
  induction n with
  | zero =>
    intro done a w hfr hr hy hS H
    constructor
    · intro h; rw [h] at hr; exact absurd hr (by simp)
    · intro j hj
      by_cases e : j = i
      · rw [e]; exact hy.wpOp hi hS ⟨fun _ => hS, H⟩
      · have hn := ready_mono hj e
        rw [H.1] at hn
        exact absurd hn (by simp)
  | succ n ih =>
    intro done a w hfr hr hy hS H
    constructor
    · intro h; rw [h] at hr; exact absurd hr (by simp)
    · intro j hj
      by_cases e : j = i
      · rw [e]; exact hy.wpOp hi hS ⟨fun _ => hS, H⟩
      have hjL : j ≠ L := fun h => hnr done hr (h ▸ hj)
      have hno : ∀ oj, ops[j]? = some oj → ∀ e ∈ oj.after, Region.binds md e = true → e.on ≠ i := by
        intro oj hoj x hx hb hxi
        have hwj : waits md ops j i = true := by
          simp only [waits, hoj, Array.any_eq_true, Bool.and_eq_true, beq_iff_eq]
          obtain ⟨k, hk, hkx⟩ := Array.getElem_of_mem hx
          exact ⟨k, hk, by rw [hkx]; exact hb, by rw [hkx]; exact hxi⟩
        exact waits_not hwj hr hj
      obtain ⟨hun, oj, hoj, _⟩ := mem_ready.1 hj
      have step := wpOp_putIf hoj (hfr j oj hoj e hun (hno oj hoj)) (fun cs b => hsel i oi cs b hi) (fun cs b => hsel j oj cs b hoj) hQ hy (H.2 j (ready_mono hj e))
      refine wpOp_mono (fun a' w' k => ?_) step
      obtain ⟨k1, k2, k3⟩ := k
      refine ⟨fun _ => k2 hjL, ih (done.setIfInBounds j true) a' w' ?_ (ready_mono hr (Ne.symm e)) k1 (k2 hjL) ?_⟩
      · intro x ox hx hxi hxu hxn
        refine hfr x ox hx hxi ?_ hxn
        by_cases hjx : j = x
        · exact hjx ▸ hun
        · rwa [getD_set_ne true hjx] at hxu
      · rw [Array.setIfInBounds_comm _ _ e]; exact k3
/-- Number i is taken first: it may come up, it yields v wherever S holds, and L waits for it. -/
theorem anyE_take (i : Nat) {oi : Oper} {v : Value} {n : Nat} {done : Array Bool} {a : Act} {w : World} (hi : ops[i]? = some oi)
    (hk : (Region.noSelect ops && Region.free md ops done i && (Region.ready md ops done).contains i && waits md ops L i) = true)
    (hQ : ∀ c a w, Q (.panic c) (a.put oi.dst v) w → Q (.panic c) a w) (hS : S w) (hwd : Region.wanted oi (yielded ops a.tmps) = true) (hy : ∀ w, S w → (execOp a.eval oi).run P w = .ok (.value v) w)
    (h : anyE P md ops Q S L n (done.setIfInBounds i true) (a.put oi.dst v) w) : anyE P md ops Q S L (n + 1) done a w := by
  simp only [Bool.and_eq_true] at hk
  obtain ⟨⟨⟨k1, k2⟩, k3⟩, k4⟩ := hk
  exact anyE_front hi (Region.noSelect_spec k1) hQ (fun _ h => waits_not k4 h) n done a w (Region.free_spec hi k2) (by simpa using k3) (.inl ⟨hwd, hy⟩) hS h
theorem anyE_takeL (i : Nat) {l : List Oper} {oi : Oper} {v : Value} {n : Nat} {done : Array Bool} {a : Act} {w : World} (hi : l[i]? = some oi)
    (hk : (Region.noSelect l.toArray && Region.free md l.toArray done i && (Region.ready md l.toArray done).contains i && waits md l.toArray L i) = true)
    (hQ : ∀ c a w, Q (.panic c) (a.put oi.dst v) w → Q (.panic c) a w) (hS : S w) (hwd : Region.wanted oi (yielded l.toArray a.tmps) = true) (hy : ∀ w, S w → (execOp a.eval oi).run P w = .ok (.value v) w)
    (h : anyE P md l.toArray Q S L n (done.setIfInBounds i true) (a.put oi.dst v) w) : anyE P md l.toArray Q S L (n + 1) done a w :=
  anyE_take i (by rw [List.getElem?_toArray]; exact hi) hk hQ hS hwd hy h
/-- The same where S holds behind every operation: L lies behind them all. -/
theorem anyE_takeH (i : Nat) {l : List Oper} {oi : Oper} {v : Value} {n : Nat} {done : Array Bool} {a : Act} {w : World} (hi : l[i]? = some oi)
    (hk : (Region.noSelect l.toArray && Region.free md l.toArray done i && (Region.ready md l.toArray done).contains i && Nat.ble l.length L) = true)
    (hQ : ∀ c a w, Q (.panic c) (a.put oi.dst v) w → Q (.panic c) a w) (hS : S w) (hwd : Region.wanted oi (yielded l.toArray a.tmps) = true) (hy : ∀ w, S w → (execOp a.eval oi).run P w = .ok (.value v) w)
    (h : anyE P md l.toArray Q S L n (done.setIfInBounds i true) (a.put oi.dst v) w) : anyE P md l.toArray Q S L (n + 1) done a w := by
  simp only [Bool.and_eq_true] at hk
  obtain ⟨⟨⟨k1, k2⟩, k3⟩, k4⟩ := hk
  have hi' : l.toArray[i]? = some oi := by rw [List.getElem?_toArray]; exact hi
  refine anyE_front hi' (Region.noSelect_spec k1) hQ (fun done' _ hL => ?_) n done a w (Region.free_spec hi' k2) (by simpa using k3) (.inl ⟨hwd, hy⟩) hS h
  obtain ⟨_, o, ho, _⟩ := mem_ready.1 hL
  rw [List.getElem?_toArray, List.getElem?_eq_none (Nat.le_of_ble_eq_true k4)] at ho
  cases ho
theorem anyE_doneL {l : List Oper} {n : Nat} {done : Array Bool} {a : Act} {w : World} (hr : Region.ready md l.toArray done = []) (h : Q .normal a w) : anyE P md l.toArray Q S L n done a w := by
  cases n with
  | zero => exact ⟨hr, h⟩
  | succ n => exact ⟨fun _ => h, by rw [hr]; simp⟩
/-- One operation alone may come up next, and S holds behind it. -/
theorem anyE_one (i : Nat) {o : Oper} {n : Nat} {done : Array Bool} {a : Act} {w : World} (hr : Region.ready md ops done = [i]) (ho : ops[i]? = some o)
    (h : ∀ K : Act → World → Prop, Shut (∀ a w, S w → anyE P md ops Q S L n (done.setIfInBounds i true) a w → K a w) → if Region.wanted o (yielded ops a.tmps) = true then Oper.wp P o a w K Q else K (a.put o.dst undef) w) :
    anyE P md ops Q S L (n + 1) done a w := by
  refine ⟨fun h0 => (by rw [h0] at hr; cases hr), fun j hj => ?_⟩
  rw [hr] at hj
  obtain rfl := List.mem_singleton.1 hj
  exact wpOp_step ho fun K hK => h K (fun a w k1 k2 => hK a w ⟨fun _ => k1, k2⟩)
/-- The last operation. -/
theorem anyE_last {o : Oper} {n : Nat} {done : Array Bool} {a : Act} {w : World} (hr : Region.ready md ops done = [L]) (ho : ops[L]? = some o) (hr2 : Region.ready md ops (done.setIfInBounds L true) = [])
    (h : ∀ K : Act → World → Prop, Shut (∀ a w, Q .normal a w → K a w) → if Region.wanted o (yielded ops a.tmps) = true then Oper.wp P o a w K Q else K (a.put o.dst undef) w) :
    anyE P md ops Q S L (n + 1) done a w := by
  refine ⟨fun h0 => (by rw [h0] at hr; cases hr), fun j hj => ?_⟩
  rw [hr] at hj
  obtain rfl := List.mem_singleton.1 hj
  refine wpOp_step ho fun K hK => h K (fun a w k => hK a w ⟨fun h => absurd rfl h, ?_⟩)
  cases n with
  | zero => exact ⟨hr2, k⟩
  | succ n => exact ⟨fun _ => k, by rw [hr2]; simp⟩
theorem anyE_oneL (i : Nat) {l : List Oper} {o : Oper} {n : Nat} {done : Array Bool} {a : Act} {w : World} (hr : Region.ready md l.toArray done = [i]) (ho : l[i]? = some o)
    (h : ∀ K : Act → World → Prop, Shut (∀ a w, S w → anyE P md l.toArray Q S L n (done.setIfInBounds i true) a w → K a w) → if Region.wanted o (yielded l.toArray a.tmps) = true then Oper.wp P o a w K Q else K (a.put o.dst undef) w) :
    anyE P md l.toArray Q S L (n + 1) done a w := anyE_one i hr (by rw [List.getElem?_toArray]; exact ho) h
theorem anyE_lastL {l : List Oper} {o : Oper} {n : Nat} {done : Array Bool} {a : Act} {w : World} (hr : Region.ready md l.toArray done = [L]) (ho : l[L]? = some o) (hr2 : Region.ready md l.toArray (done.setIfInBounds L true) = [])
    (h : ∀ K : Act → World → Prop, Shut (∀ a w, Q .normal a w → K a w) → if Region.wanted o (yielded l.toArray a.tmps) = true then Oper.wp P o a w K Q else K (a.put o.dst undef) w) :
    anyE P md l.toArray Q S L (n + 1) done a w := anyE_last hr (by rw [List.getElem?_toArray]; exact ho) hr2 h
theorem region_E {id : Nat} {a : Act} {w : World} (S : World → Prop) (L : Nat) (hm : P.follows .mixedOrders = true) (hS : S w.drew)
    (h : S w.drew → anyE P .any ops Q S L ops.size (Array.replicate ops.size false) a w.drew) : (Code.region id ops true).wp P Q a w :=
  wp_region_any hm (anyE_any _ _ _ _ (h hS))
end
/-- What a new variable of two (three) cells holds in any later world. -/
theorem alc {w v : World} {a b : Value} {t : TypeId} (h : Below (w.alloc (.cells #[a, b] t)).heap.size (w.alloc (.cells #[a, b] t)) v) :
    v.cell? ⟨w.heap.size, 0, none⟩ = some a ∧ v.cell? ⟨w.heap.size, 1, none⟩ = some b ∧ v.frozen? ⟨w.heap.size, 0, none⟩ = false ∧ v.frozen? ⟨w.heap.size, 1, none⟩ = false :=
  ⟨(h.cell (by simp)).trans (by simp [go_sem]), (h.cell (by simp)).trans (by simp [go_sem]), (h.frozen (by simp)).trans (by simp [go_sem]), (h.frozen (by simp)).trans (by simp [go_sem])⟩
theorem alcD {w v : World} {a b : Value} {t : TypeId} (h : Below (w.alloc (.cells #[a, b] t)).drew.heap.size (w.alloc (.cells #[a, b] t)).drew v) :
    v.cell? ⟨w.heap.size, 0, none⟩ = some a ∧ v.cell? ⟨w.heap.size, 1, none⟩ = some b ∧ v.frozen? ⟨w.heap.size, 0, none⟩ = false ∧ v.frozen? ⟨w.heap.size, 1, none⟩ = false :=
  ⟨(h.cell (by simp)).trans (by simp [go_sem]), (h.cell (by simp)).trans (by simp [go_sem]), (h.frozen (by simp)).trans (by simp [go_sem]), (h.frozen (by simp)).trans (by simp [go_sem])⟩
theorem alc3 {w v : World} {a b c : Value} {t : TypeId} (h : Below (w.alloc (.cells #[a, b, c] t)).heap.size (w.alloc (.cells #[a, b, c] t)) v) :
    (v.cell? ⟨w.heap.size, 0, none⟩ = some a ∧ v.cell? ⟨w.heap.size, 1, none⟩ = some b ∧ v.cell? ⟨w.heap.size, 2, none⟩ = some c) ∧ v.frozen? ⟨w.heap.size, 0, none⟩ = false ∧ v.frozen? ⟨w.heap.size, 1, none⟩ = false ∧ v.frozen? ⟨w.heap.size, 2, none⟩ = false :=
  ⟨⟨(h.cell (by simp)).trans (by simp [go_sem]), (h.cell (by simp)).trans (by simp [go_sem]), (h.cell (by simp)).trans (by simp [go_sem])⟩, (h.frozen (by simp)).trans (by simp [go_sem]), (h.frozen (by simp)).trans (by simp [go_sem]), (h.frozen (by simp)).trans (by simp [go_sem])⟩
theorem alcD3 {w v : World} {a b c : Value} {t : TypeId} (h : Below (w.alloc (.cells #[a, b, c] t)).drew.heap.size (w.alloc (.cells #[a, b, c] t)).drew v) :
    (v.cell? ⟨w.heap.size, 0, none⟩ = some a ∧ v.cell? ⟨w.heap.size, 1, none⟩ = some b ∧ v.cell? ⟨w.heap.size, 2, none⟩ = some c) ∧ v.frozen? ⟨w.heap.size, 0, none⟩ = false ∧ v.frozen? ⟨w.heap.size, 1, none⟩ = false ∧ v.frozen? ⟨w.heap.size, 2, none⟩ = false :=
  ⟨⟨(h.cell (by simp)).trans (by simp [go_sem]), (h.cell (by simp)).trans (by simp [go_sem]), (h.cell (by simp)).trans (by simp [go_sem])⟩, (h.frozen (by simp)).trans (by simp [go_sem]), (h.frozen (by simp)).trans (by simp [go_sem]), (h.frozen (by simp)).trans (by simp [go_sem])⟩
end Go.Proofs.Ytnojmghmkoojfaa
