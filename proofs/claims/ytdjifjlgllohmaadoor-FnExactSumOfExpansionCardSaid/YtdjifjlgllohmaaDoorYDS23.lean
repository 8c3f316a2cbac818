/- Merged texts. -/
import Derived.Test.YtdjifjlgllohmaaDoorYDS1
import Derived.Deep.RegionHeld3
import Derived.Test.YtdjifjlgllohmaaDoorYDS22
import Derived.Test.YtdjifjlgllohmaaDoorYDS19
/- Regions that draw their order and end with a store: a condition S is kept up to the last operation L, which waits for all the others, and need not hold behind it. Loads are taken first under S. -/
namespace Go.Proofs.YtdjifjlgllohmaaDoor
open Go.RowKit
set_option linter.unusedVariables false
set_option linter.unusedSimpArgs false
section
variable {P : Program} {ops : Array Oper} {Q : Exit → Act → World → Prop} {md : Region.Mode} {S : World → Prop} {L : Nat}
/-- Whatever order is drawn from here on; S holds behind every operation but L. -/
def anyE (P : Program) (md : Region.Mode) (ops : Array Oper) (Q : Exit → Act → World → Prop) (S : World → Prop) (L : Nat) : Nat → Array Bool → Act → World → Prop
  | 0, done, a, w => Region.ready md ops done = [] ∧ Q .normal a w
  | n + 1, done, a, w => (Region.ready md ops done = [] → Q .normal a w) ∧
      ∀ i ∈ Region.ready md ops done, wpOp P ops Q i (fun a' w' => (i ≠ L → S w') ∧ anyE P md ops Q S L n (done.setIfInBounds i true) a' w') a w
theorem anyE_any : ∀ (n : Nat) (done : Array Bool) (a : Act) (w : World), anyE P md ops Q S L n done a w → wpAny P md ops Q n done a w := by
  intro n
  induction n with
  | zero => intro _ _ _ h; exact h
  | succ n ih => intro _ _ _ h; exact ⟨h.1, fun i hi => wpOp_mono (fun _ _ k => ih _ _ _ k.2) (h.2 i hi)⟩
/-- L waits for i. -/
def waits (md : Region.Mode) (ops : Array Oper) (L i : Nat) : Bool := match ops[L]? with
  | some o => o.after.any fun e => Region.binds md e && e.on == i
  | none => false
theorem waits_not {i : Nat} {done : Array Bool} (h : waits md ops L i = true) (hi : i ∈ Region.ready md ops done) : L ∉ Region.ready md ops done := by
  intro hL
  obtain ⟨h1, _, _, _⟩ := mem_ready.1 hi
  obtain ⟨_, o, ho, hall⟩ := mem_ready.1 hL
  simp only [waits, ho, Array.any_eq_true, Bool.and_eq_true, beq_iff_eq] at h
  obtain ⟨k, hk, hb, he⟩ := h
  have h2 := hall _ (Array.getElem_mem hk) hb
  rw [he] at h2
  by_cases hs : i < done.size
  · simp [Array.getD, hs] at h1 h2; rw [h1] at h2; cases h2
  · simp [Array.getD, hs] at h2
theorem anyE_front {i : Nat} {oi : Oper} {v : Value} (hi : ops[i]? = some oi) (hsel : ∀ (j : Nat) (o : Oper) cs b, ops[j]? = some o → o.op ≠ .select cs b)
    (hQ : ∀ c a w, Q (.panic c) (a.put oi.dst v) w → Q (.panic c) a w) (hnr : ∀ done : Array Bool, i ∈ Region.ready md ops done → L ∉ Region.ready md ops done) :
    ∀ (n : Nat) (done : Array Bool) (a : Act) (w : World),
      (∀ j oj, ops[j]? = some oj → j ≠ i → done.getD j true = false → (∀ e ∈ oj.after, Region.binds md e = true → e.on ≠ i) → oi.apart ops oj = true) →
      i ∈ Region.ready md ops done → YieldsIf P ops S oi v a → S w →
      anyE P md ops Q S L n (done.setIfInBounds i true) (a.put oi.dst v) w → anyE P md ops Q S L (n + 1) done a w := by
  intro n
  induction n with
  | zero =>
    intro done a w hfr hr hy hS H
    constructor
    · intro h; rw [h] at hr; exact absurd hr (by simp)
    · intro j hj
      by_cases e : j = i
      · rw [e]; exact hy.wpOp hi hS ⟨fun _ => hS, H⟩
      · have hn := ready_mono hj e
        rw [H.1] at hn
        exact absurd hn (by simp)
  | succ n ih =>
    intro done a w hfr hr hy hS H
    constructor
    · intro h; rw [h] at hr; exact absurd hr (by simp)
    · intro j hj
      by_cases e : j = i
      · rw [e]; exact hy.wpOp hi hS ⟨fun _ => hS, H⟩
      have hjL : j ≠ L := fun h => hnr done hr (h ▸ hj)
      have hno : ∀ oj, ops[j]? = some oj → ∀ e ∈ oj.after, Region.binds md e = true → e.on ≠ i := by
        intro oj hoj x hx hb hxi
        have hwj : waits md ops j i = true := by
          simp only [waits, hoj, Array.any_eq_true, Bool.and_eq_true, beq_iff_eq]
          obtain ⟨k, hk, hkx⟩ := Array.getElem_of_mem hx
          exact ⟨k, hk, by rw [hkx]; exact hb, by rw [hkx]; exact hxi⟩
        exact waits_not hwj hr hj
      obtain ⟨hun, oj, hoj, _⟩ := mem_ready.1 hj
      have step := wpOp_putIf hoj (hfr j oj hoj e hun (hno oj hoj)) (fun cs b => hsel i oi cs b hi) (fun cs b => hsel j oj cs b hoj) hQ hy (H.2 j (ready_mono hj e))
      refine wpOp_mono (fun a' w' k => ?_) step
      obtain ⟨k1, k2, k3⟩ := k
      refine ⟨fun _ => k2 hjL, ih (done.setIfInBounds j true) a' w' ?_ (ready_mono hr (Ne.symm e)) k1 (k2 hjL) ?_⟩
      · intro x ox hx hxi hxu hxn
        refine hfr x ox hx hxi ?_ hxn
        by_cases hjx : j = x
        · exact hjx ▸ hun
        · rwa [getD_set_ne true hjx] at hxu
      · rw [Array.setIfInBounds_comm _ _ e]; exact k3
/-- Number i is taken first: it may come up, it yields v wherever S holds, and L waits for it. -/
theorem anyE_take (i : Nat) {oi : Oper} {v : Value} {n : Nat} {done : Array Bool} {a : Act} {w : World} (hi : ops[i]? = some oi)
    (hk : (Region.noSelect ops && Region.free md ops done i && (Region.ready md ops done).contains i && waits md ops L i) = true)
    (hQ : ∀ c a w, Q (.panic c) (a.put oi.dst v) w → Q (.panic c) a w) (hS : S w) (hwd : Region.wanted oi (yielded ops a.tmps) = true) (hy : ∀ w, S w → (execOp a.eval oi).run P w = .ok (.value v) w)
    (h : anyE P md ops Q S L n (done.setIfInBounds i true) (a.put oi.dst v) w) : anyE P md ops Q S L (n + 1) done a w := by
  simp only [Bool.and_eq_true] at hk
  obtain ⟨⟨⟨k1, k2⟩, k3⟩, k4⟩ := hk
  exact anyE_front hi (Region.noSelect_spec k1) hQ (fun _ h => waits_not k4 h) n done a w (Region.free_spec hi k2) (by simpa using k3) (.inl ⟨hwd, hy⟩) hS h
theorem anyE_takeL (i : Nat) {l : List Oper} {oi : Oper} {v : Value} {n : Nat} {done : Array Bool} {a : Act} {w : World} (hi : l[i]? = some oi)
    (hk : (Region.noSelect l.toArray && Region.free md l.toArray done i && (Region.ready md l.toArray done).contains i && waits md l.toArray L i) = true)
    (hQ : ∀ c a w, Q (.panic c) (a.put oi.dst v) w → Q (.panic c) a w) (hS : S w) (hwd : Region.wanted oi (yielded l.toArray a.tmps) = true) (hy : ∀ w, S w → (execOp a.eval oi).run P w = .ok (.value v) w)
    (h : anyE P md l.toArray Q S L n (done.setIfInBounds i true) (a.put oi.dst v) w) : anyE P md l.toArray Q S L (n + 1) done a w :=
  anyE_take i (by rw [List.getElem?_toArray]; exact hi) hk hQ hS hwd hy h
/-- The same where S holds behind every operation: L lies behind them all. -/
theorem anyE_takeH (i : Nat) {l : List Oper} {oi : Oper} {v : Value} {n : Nat} {done : Array Bool} {a : Act} {w : World} (hi : l[i]? = some oi)
    (hk : (Region.noSelect l.toArray && Region.free md l.toArray done i && (Region.ready md l.toArray done).contains i && Nat.ble l.length L) = true)
    (hQ : ∀ c a w, Q (.panic c) (a.put oi.dst v) w → Q (.panic c) a w) (hS : S w) (hwd : Region.wanted oi (yielded l.toArray a.tmps) = true) (hy : ∀ w, S w → (execOp a.eval oi).run P w = .ok (.value v) w)
    (h : anyE P md l.toArray Q S L n (done.setIfInBounds i true) (a.put oi.dst v) w) : anyE P md l.toArray Q S L (n + 1) done a w := by
  simp only [Bool.and_eq_true] at hk
  obtain ⟨⟨⟨k1, k2⟩, k3⟩, k4⟩ := hk
  have hi' : l.toArray[i]? = some oi := by rw [List.getElem?_toArray]; exact hi
  refine anyE_front hi' (Region.noSelect_spec k1) hQ (fun done' _ hL => ?_) n done a w (Region.free_spec hi' k2) (by simpa using k3) (.inl ⟨hwd, hy⟩) hS h
  obtain ⟨_, o, ho, _⟩ := mem_ready.1 hL
  rw [List.getElem?_toArray, List.getElem?_eq_none (Nat.le_of_ble_eq_true k4)] at ho
  cases ho
theorem anyE_doneL {l : List Oper} {n : Nat} {done : Array Bool} {a : Act} {w : World} (hr : Region.ready md l.toArray done = []) (h : Q .normal a w) : anyE P md l.toArray Q S L n done a w := by
  cases n with
  | zero => exact ⟨hr, h⟩
  | succ n => exact ⟨fun _ => h, by rw [hr]; simp⟩
/-- One operation alone may come up next, and S holds behind it. -/
theorem anyE_one (i : Nat) {o : Oper} {n : Nat} {done : Array Bool} {a : Act} {w : World} (hr : Region.ready md ops done = [i]) (ho : ops[i]? = some o)
    (h : ∀ K : Act → World → Prop, Shut (∀ a w, S w → anyE P md ops Q S L n (done.setIfInBounds i true) a w → K a w) → if Region.wanted o (yielded ops a.tmps) = true then Oper.wp P o a w K Q else K (a.put o.dst undef) w) :
    anyE P md ops Q S L (n + 1) done a w := by
  refine ⟨fun h0 => (by rw [h0] at hr; cases hr), fun j hj => ?_⟩
  rw [hr] at hj
  obtain rfl := List.mem_singleton.1 hj
  exact wpOp_step ho fun K hK => h K (fun a w k1 k2 => hK a w ⟨fun _ => k1, k2⟩)
/-- The last operation. -/
theorem anyE_last {o : Oper} {n : Nat} {done : Array Bool} {a : Act} {w : World} (hr : Region.ready md ops done = [L]) (ho : ops[L]? = some o) (hr2 : Region.ready md ops (done.setIfInBounds L true) = [])
    (h : ∀ K : Act → World → Prop, Shut (∀ a w, Q .normal a w → K a w) → if Region.wanted o (yielded ops a.tmps) = true then Oper.wp P o a w K Q else K (a.put o.dst undef) w) :
    anyE P md ops Q S L (n + 1) done a w := by
  refine ⟨fun h0 => (by rw [h0] at hr; cases hr), fun j hj => ?_⟩
  rw [hr] at hj
  obtain rfl := List.mem_singleton.1 hj
  refine wpOp_step ho fun K hK => h K (fun a w k => hK a w ⟨fun h => absurd rfl h, ?_⟩)
  cases n with
  | zero => exact ⟨hr2, k⟩
  | succ n => exact ⟨fun _ => k, by rw [hr2]; simp⟩
theorem anyE_oneL (i : Nat) {l : List Oper} {o : Oper} {n : Nat} {done : Array Bool} {a : Act} {w : World} (hr : Region.ready md l.toArray done = [i]) (ho : l[i]? = some o)
    (h : ∀ K : Act → World → Prop, Shut (∀ a w, S w → anyE P md l.toArray Q S L n (done.setIfInBounds i true) a w → K a w) → if Region.wanted o (yielded l.toArray a.tmps) = true then Oper.wp P o a w K Q else K (a.put o.dst undef) w) :
    anyE P md l.toArray Q S L (n + 1) done a w := anyE_one i hr (by rw [List.getElem?_toArray]; exact ho) h
theorem anyE_lastL {l : List Oper} {o : Oper} {n : Nat} {done : Array Bool} {a : Act} {w : World} (hr : Region.ready md l.toArray done = [L]) (ho : l[L]? = some o) (hr2 : Region.ready md l.toArray (done.setIfInBounds L true) = [])
    (h : ∀ K : Act → World → Prop, Shut (∀ a w, Q .normal a w → K a w) → if Region.wanted o (yielded l.toArray a.tmps) = true then Oper.wp P o a w K Q else K (a.put o.dst undef) w) :
    anyE P md l.toArray Q S L (n + 1) done a w := anyE_last hr (by rw [List.getElem?_toArray]; exact ho) hr2 h
theorem region_E {id : Nat} {a : Act} {w : World} (S : World → Prop) (L : Nat) (hm : P.follows .mixedOrders = true) (hS : S w.drew)
    (h : S w.drew → anyE P .any ops Q S L ops.size (Array.replicate ops.size false) a w.drew) : (Code.region id ops true).wp P Q a w :=
  wp_region_any hm (anyE_any _ _ _ _ (h hS))
end
/-- What a new variable of two (three) cells holds in any later world. -/
theorem alc {w v : World} {a b : Value} {t : TypeId} (h : Below (w.alloc (.cells #[a, b] t)).heap.size (w.alloc (.cells #[a, b] t)) v) :
    v.cell? ⟨w.heap.size, 0, none⟩ = some a ∧ v.cell? ⟨w.heap.size, 1, none⟩ = some b ∧ v.frozen? ⟨w.heap.size, 0, none⟩ = false ∧ v.frozen? ⟨w.heap.size, 1, none⟩ = false :=
  ⟨(h.cell (by simp)).trans (by simp [go_sem]), (h.cell (by simp)).trans (by simp [go_sem]), (h.frozen (by simp)).trans (by simp [go_sem]), (h.frozen (by simp)).trans (by simp [go_sem])⟩
theorem alcD {w v : World} {a b : Value} {t : TypeId} (h : Below (w.alloc (.cells #[a, b] t)).drew.heap.size (w.alloc (.cells #[a, b] t)).drew v) :
    v.cell? ⟨w.heap.size, 0, none⟩ = some a ∧ v.cell? ⟨w.heap.size, 1, none⟩ = some b ∧ v.frozen? ⟨w.heap.size, 0, none⟩ = false ∧ v.frozen? ⟨w.heap.size, 1, none⟩ = false :=
  ⟨(h.cell (by simp)).trans (by simp [go_sem]), (h.cell (by simp)).trans (by simp [go_sem]), (h.frozen (by simp)).trans (by simp [go_sem]), (h.frozen (by simp)).trans (by simp [go_sem])⟩
theorem alc3 {w v : World} {a b c : Value} {t : TypeId} (h : Below (w.alloc (.cells #[a, b, c] t)).heap.size (w.alloc (.cells #[a, b, c] t)) v) :
    (v.cell? ⟨w.heap.size, 0, none⟩ = some a ∧ v.cell? ⟨w.heap.size, 1, none⟩ = some b ∧ v.cell? ⟨w.heap.size, 2, none⟩ = some c) ∧ v.frozen? ⟨w.heap.size, 0, none⟩ = false ∧ v.frozen? ⟨w.heap.size, 1, none⟩ = false ∧ v.frozen? ⟨w.heap.size, 2, none⟩ = false :=
  ⟨⟨(h.cell (by simp)).trans (by simp [go_sem]), (h.cell (by simp)).trans (by simp [go_sem]), (h.cell (by simp)).trans (by simp [go_sem])⟩, (h.frozen (by simp)).trans (by simp [go_sem]), (h.frozen (by simp)).trans (by simp [go_sem]), (h.frozen (by simp)).trans (by simp [go_sem])⟩
theorem alcD3 {w v : World} {a b c : Value} {t : TypeId} (h : Below (w.alloc (.cells #[a, b, c] t)).drew.heap.size (w.alloc (.cells #[a, b, c] t)).drew v) :
    (v.cell? ⟨w.heap.size, 0, none⟩ = some a ∧ v.cell? ⟨w.heap.size, 1, none⟩ = some b ∧ v.cell? ⟨w.heap.size, 2, none⟩ = some c) ∧ v.frozen? ⟨w.heap.size, 0, none⟩ = false ∧ v.frozen? ⟨w.heap.size, 1, none⟩ = false ∧ v.frozen? ⟨w.heap.size, 2, none⟩ = false :=
  ⟨⟨(h.cell (by simp)).trans (by simp [go_sem]), (h.cell (by simp)).trans (by simp [go_sem]), (h.cell (by simp)).trans (by simp [go_sem])⟩, (h.frozen (by simp)).trans (by simp [go_sem]), (h.frozen (by simp)).trans (by simp [go_sem]), (h.frozen (by simp)).trans (by simp [go_sem])⟩
end Go.Proofs.YtdjifjlgllohmaaDoor
/- Contracts: eliminate, determinant (program). -/
namespace Go.Proofs.YtdjifjlgllohmaaDoor
open Go.RowKit
set_option linter.unusedVariables false
set_option linter.unusedSimpArgs false

theorem stepR_at (p : Int) (n k m : Nat) (X : Nat → List Int) (i : Nat) (h : i ≤ k ∨ m ≤ i) : stepR p n k m X i = X i := by
  unfold stepR
  rw [if_neg (by omega)]
theorem stepR_len (p : Int) (n k m : Nat) (X : Nat → List Int) (h : ∀ i, (X i).length = n) (i : Nat) : (stepR p n k m X i).length = n := by
  unfold stepR elimR
  split
  · exact tab_len _ _
  · exact h i
theorem stepR_next (p : Int) (n k m : Nat) (X : Nat → List Int) (i : Nat) (h : i ≠ m) : stepR p n k (m + 1) X i = stepR p n k m X i := by
  unfold stepR
  by_cases e : k < i ∧ i < m
  · rw [if_pos e, if_pos (by omega)]
  · rw [if_neg e, if_neg (by omega)]
theorem elim_add (p : Int) (own row : List Int) (k n : Nat) (h : row.length = n) : addlM p ((p - invM p (own.getD k 0)) * row.getD k 0 % p) row own = elimR p own row k n := by
  unfold addlM elimR
  rw [h]
  apply tab_congr
  intro j _
  exact elim_eq p _ _ _ _
theorem elimR_are {p : Int} (hp : 2 ≤ p) (own row : List Int) (k n : Nat) : areB p (elimR p own row k n) = true := tab_are fun _ _ => modb hp
theorem stepR_are {p : Int} (hp : 2 ≤ p) (n k m : Nat) (X : Nat → List Int) (N : Nat) (h : ∀ i, i < N → areB p (X i) = true) (i : Nat) (hi : i < N) : areB p (stepR p n k m X i) = true := by
  unfold stepR
  split
  · exact elimR_are hp _ _ _ _
  · exact h i hi
set_option maxRecDepth 100000 in
set_option maxHeartbeats 3200000 in
theorem eliminate_any (p : Int) (B g n cap k : Nat) (vs : List Value) (X : Nat → List Int) (w : World) (h : RowsX B g n cap w vs X n) (hk : k < n) (hn : n ≤ 1000) (hp : 2 ≤ p) (hp2 : p ≤ 10007) (hX : ∀ i, i < n → areB p (X i) = true) :
    Calls Tryd.prog 122 #[.int .i64 p, .slice (some ⟨g, 0, none⟩) n cap, .int .i64 k] w
      fun e w' => e = .returned (.tuple #[]) ∧ (∃ vs', RowsX B g n cap w' vs' (stepR p n k n X) n) ∧ Touch g (g + 1) w w' := by
  have HX := hide hX
  obtain ⟨ak, ck, e1, s1, _, _⟩ := h.get k hk
  obtain ⟨bk, ok, rfl, _, hck⟩ := s1.at (by omega)
  have e2 := hck k hk
  have r1 := getD_rng (hX k hk) hp k
  obtain ⟨x, hx⟩ : ∃ x, (X k).getD k 0 = x := ⟨_, rfl⟩
  rw [hx] at e2 r1
  have Hx := hide hx
  have rI := invM_rng (p := p) x hp
  obtain ⟨I, hI⟩ : ∃ I, invM p x = I := ⟨_, rfl⟩
  have HI := hide hI
  rw [hI] at rI
  have hkn : (k : Int) < (n : Int) := by omega
  have hgl := (h.own.lt (by rw [h.len]; omega))
  have H := hide h
  clear hck hX h hx hI
  have vI : IntKind.i64.wrap (p - I) = p - I := IntWalk.i64_in _ (by omega)
  have vk : IntKind.i64.wrap ((k : Int) + 1) = (k : Int) + 1 := IntWalk.i64_in _ (by omega)
  go_enter Tryd.func122, Tryd.ntmps122
  go_wp2_with fail
  refine (inverse_any p x _ hp hp2 r1.1 r1.2).mono ?_
  rintro e w1 ⟨rfl, t1⟩
  rw [HI.out]
  have z1 := t1.size
  have hR0 : Hid (RowsX B g n cap w1 vs (stepR p n k (k + 1) X) n) := hide ((H.out.below t1).congr (fun i hi => by unfold stepR; rw [if_neg (by omega)]))
  have hT0 : Touch g (g + 1) w w1 := Touch.ofBelow t1
  clear e1 e2 s1
  go_wp2_with fail
  clear vk
  go_loopw [7] (fun iv wr => ∃ (i : Nat) (us : List Value), k + 1 ≤ i ∧ i ≤ n ∧ iv = .int .i64 i ∧ Hid (RowsX B g n cap wr us (stepR p n k i X) n) ∧ Hid (Touch g (g + 1) w wr)) (fun iv _ => n - (intOf iv).toNat)
  case atStart => exact ⟨k + 1, vs, Nat.le_refl _, by omega, by go_num, hR0, hide hT0⟩
  case round =>
    obtain ⟨i, us, hik, hi, rfl, hR, hT⟩ := hrel
    clear hR0 hT0
    by_cases hlt : i < n
    · have hlt' : (i : Int) < (n : Int) := by omega
      obtain ⟨ai, ci, c1, s1, g1, f1⟩ := hR.out.get i hlt
      obtain ⟨ak, ck', c2, s2, g2, f2⟩ := hR.out.get k hk
      rw [stepR_at p n k i X i (.inr (Nat.le_refl _))] at s1
      rw [stepR_at p n k i X k (.inl (Nat.le_refl _))] at s2
      obtain ⟨bi, oi, rfl, _, hci⟩ := s1.at (by omega)
      have c3 := hci k hk
      have r3 := getD_rng (HX.out i hlt) hp k
      have HF : Hid (∀ y, (X i).getD k 0 = y → addlM p ((p - I) * y % p) (X i) (X k) = elimR p (X k) (X i) k n) := hide (fun y hy => by rw [← hy, ← HI.out, ← Hx.out]; exact elim_add p (X k) (X i) k n s1.len)
      obtain ⟨y, hy⟩ : ∃ y, (X i).getD k 0 = y := ⟨_, rfl⟩
      have HF2 := hide (HF.out y hy)
      rw [hy] at c3 r3
      clear hy HF hci
      have m1 : 0 ≤ (p - I) * y := Int.mul_nonneg (by omega) r3.1
      have m2 : (p - I) * y ≤ 10007 * 10007 := Int.mul_le_mul (by omega) (by omega) r3.1 (by omega)
      have v1 : IntKind.i64.wrap ((p - I) * y) = (p - I) * y := IntWalk.i64_in _ (by omega)
      have v2 : ((p - I) * y).tmod p = (p - I) * y % p := Int.tmod_eq_emod_of_nonneg m1
      have rF := modb (x := (p - I) * y) hp
      obtain ⟨F, hF⟩ : ∃ F, (p - I) * y % p = F := ⟨_, rfl⟩
      rw [hF] at v2 rF HF2
      have v3 : IntKind.i64.wrap F = F := IntWalk.i64_in _ (by omega)
      have vi : IntKind.i64.wrap ((i : Int) + 1) = (i : Int) + 1 := IntWalk.i64_in _ (by omega)
      have hp0 : ¬ p = 0 := by omega
      have hi0 : (0 : Int) ≤ (i : Int) := by omega
      have hk0 : (0 : Int) ≤ (k : Int) := by omega
      have A1 := hide (HX.out i hlt)
      have A2 := hide (HX.out k hk)
      clear hF m1 m2
      have hbd := (Below.refl wr.heap.size wr).drew
      have hgw := World.block_lt_of_cell? _ _ c1
      simp only at hgw
      go_upto_region 4 with fail
      refine region_E (fun w' => w'.cell? ⟨g, i, none⟩ = some (.slice (some ⟨bi, oi, none⟩) n ci) ∧ w'.cell? ⟨g, k, none⟩ = some (.slice ak n ck') ∧ w'.cell? ⟨bi, oi + k, none⟩ = some (.int .i64 y)) 24 (by kernel_rfl) ⟨cell_be hbd c1, cell_be hbd c2, cell_be hbd c3⟩ ?_
      intro hS
      refine anyE_takeL 0 rfl (by kernel_rfl) (fun _ _ _ h => h) hS (by rfl) (v := ?_) ?_ ?_
      rotate_left
      · intro w' hSw; (try dsimp only at hSw); go_simp; (try with_reducible rfl)
      try simp only [Act.put, List.setIfInBounds_toArray, List.set_cons_zero, List.set_cons_succ]
      refine anyE_takeL 1 rfl (by kernel_rfl) (fun _ _ _ h => h) hS (by rfl) (v := ?_) ?_ ?_
      rotate_left
      · intro w' hSw; (try dsimp only at hSw); go_simp; (try with_reducible rfl)
      try simp only [Act.put, List.setIfInBounds_toArray, List.set_cons_zero, List.set_cons_succ]
      refine anyE_takeL 2 rfl (by kernel_rfl) (fun _ _ _ h => h) hS (by rfl) (v := ?_) ?_ ?_
      rotate_left
      · intro w' hSw; (try dsimp only at hSw); go_simp; (try with_reducible rfl)
      try simp only [Act.put, List.setIfInBounds_toArray, List.set_cons_zero, List.set_cons_succ]
      refine anyE_takeL 3 rfl (by kernel_rfl) (fun _ _ _ h => h) hS (by rfl) (v := ?_) ?_ ?_
      rotate_left
      · intro w' hSw; (try dsimp only at hSw); go_simp; (try with_reducible rfl)
      try simp only [Act.put, List.setIfInBounds_toArray, List.set_cons_zero, List.set_cons_succ]
      refine anyE_takeL 4 rfl (by kernel_rfl) (fun _ _ _ h => h) hS (by rfl) (v := ?_) ?_ ?_
      rotate_left
      · intro w' hSw; (try dsimp only at hSw); go_simp; (try with_reducible rfl)
      try simp only [Act.put, List.setIfInBounds_toArray, List.set_cons_zero, List.set_cons_succ]
      refine anyE_takeL 5 rfl (by kernel_rfl) (fun _ _ _ h => h) hS (by rfl) (v := ?_) ?_ ?_
      rotate_left
      · intro w' hSw; (try dsimp only at hSw); go_simp; (try with_reducible rfl)
      try simp only [Act.put, List.setIfInBounds_toArray, List.set_cons_zero, List.set_cons_succ]
      refine anyE_takeL 6 rfl (by kernel_rfl) (fun _ _ _ h => h) hS (by rfl) (v := ?_) ?_ ?_
      rotate_left
      · intro w' hSw; (try dsimp only at hSw); go_simp; (try with_reducible rfl)
      try simp only [Act.put, List.setIfInBounds_toArray, List.set_cons_zero, List.set_cons_succ]
      refine anyE_takeL 7 rfl (by kernel_rfl) (fun _ _ _ h => h) hS (by rfl) (v := ?_) ?_ ?_
      rotate_left
      · intro w' hSw; (try dsimp only at hSw); go_simp; (try with_reducible rfl)
      try simp only [Act.put, List.setIfInBounds_toArray, List.set_cons_zero, List.set_cons_succ]
      refine anyE_takeL 8 rfl (by kernel_rfl) (fun _ _ _ h => h) hS (by rfl) (v := ?_) ?_ ?_
      rotate_left
      · intro w' hSw; (try dsimp only at hSw); go_simp; (try with_reducible rfl)
      try simp only [Act.put, List.setIfInBounds_toArray, List.set_cons_zero, List.set_cons_succ]
      refine anyE_takeL 9 rfl (by kernel_rfl) (fun _ _ _ h => h) hS (by rfl) (v := ?_) ?_ ?_
      rotate_left
      · intro w' hSw; (try dsimp only at hSw); go_simp; (try with_reducible rfl)
      try simp only [Act.put, List.setIfInBounds_toArray, List.set_cons_zero, List.set_cons_succ]
      refine anyE_takeL 10 rfl (by kernel_rfl) (fun _ _ _ h => h) hS (by rfl) (v := ?_) ?_ ?_
      rotate_left
      · intro w' hSw; (try dsimp only at hSw); go_simp; (try with_reducible rfl)
      try simp only [Act.put, List.setIfInBounds_toArray, List.set_cons_zero, List.set_cons_succ]
      refine anyE_takeL 11 rfl (by kernel_rfl) (fun _ _ _ h => h) hS (by rfl) (v := ?_) ?_ ?_
      rotate_left
      · intro w' hSw; (try dsimp only at hSw); go_simp; (try with_reducible rfl)
      try simp only [Act.put, List.setIfInBounds_toArray, List.set_cons_zero, List.set_cons_succ]
      refine anyE_takeL 12 rfl (by kernel_rfl) (fun _ _ _ h => h) hS (by rfl) (v := ?_) ?_ ?_
      rotate_left
      · intro w' hSw; (try dsimp only at hSw); go_simp; (try with_reducible rfl)
      try simp only [Act.put, List.setIfInBounds_toArray, List.set_cons_zero, List.set_cons_succ]
      refine anyE_takeL 13 rfl (by kernel_rfl) (fun _ _ _ h => h) hS (by rfl) (v := ?_) ?_ ?_
      rotate_left
      · intro w' hSw; (try dsimp only at hSw); go_simp; (try with_reducible rfl)
      try simp only [Act.put, List.setIfInBounds_toArray, List.set_cons_zero, List.set_cons_succ]
      refine anyE_takeL 14 rfl (by kernel_rfl) (fun _ _ _ h => h) hS (by rfl) (v := ?_) ?_ ?_
      rotate_left
      · intro w' hSw; (try dsimp only at hSw); go_simp; (try with_reducible rfl)
      try simp only [Act.put, List.setIfInBounds_toArray, List.set_cons_zero, List.set_cons_succ]
      refine anyE_takeL 15 rfl (by kernel_rfl) (fun _ _ _ h => h) hS (by rfl) (v := ?_) ?_ ?_
      rotate_left
      · intro w' hSw; (try dsimp only at hSw); go_simp; (try with_reducible rfl)
      try simp only [Act.put, List.setIfInBounds_toArray, List.set_cons_zero, List.set_cons_succ]
      refine anyE_takeL 16 rfl (by kernel_rfl) (fun _ _ _ h => h) hS (by rfl) (v := ?_) ?_ ?_
      rotate_left
      · intro w' hSw; (try dsimp only at hSw); go_simp; (try with_reducible rfl)
      try simp only [Act.put, List.setIfInBounds_toArray, List.set_cons_zero, List.set_cons_succ]
      refine anyE_takeL 17 rfl (by kernel_rfl) (fun _ _ _ h => h) hS (by rfl) (v := ?_) ?_ ?_
      rotate_left
      · intro w' hSw; (try dsimp only at hSw); go_simp; (try with_reducible rfl)
      try simp only [Act.put, List.setIfInBounds_toArray, List.set_cons_zero, List.set_cons_succ]
      refine anyE_takeL 18 rfl (by kernel_rfl) (fun _ _ _ h => h) hS (by rfl) (v := ?_) ?_ ?_
      rotate_left
      · intro w' hSw; (try dsimp only at hSw); go_simp; (try with_reducible rfl)
      try simp only [Act.put, List.setIfInBounds_toArray, List.set_cons_zero, List.set_cons_succ]
      refine anyE_takeL 19 rfl (by kernel_rfl) (fun _ _ _ h => h) hS (by rfl) (v := ?_) ?_ ?_
      rotate_left
      · intro w' hSw; (try dsimp only at hSw); go_simp; (try with_reducible rfl)
      try simp only [Act.put, List.setIfInBounds_toArray, List.set_cons_zero, List.set_cons_succ]
      refine anyE_takeL 20 rfl (by kernel_rfl) (fun _ _ _ h => h) hS (by rfl) (v := ?_) ?_ ?_
      rotate_left
      · intro w' hSw; (try dsimp only at hSw); go_simp; (try with_reducible rfl)
      try simp only [Act.put, List.setIfInBounds_toArray, List.set_cons_zero, List.set_cons_succ]
      refine anyE_takeL 21 rfl (by kernel_rfl) (fun _ _ _ h => h) hS (by rfl) (v := ?_) ?_ ?_
      rotate_left
      · intro w' hSw; (try dsimp only at hSw); go_simp; (try with_reducible rfl)
      try simp only [Act.put, List.setIfInBounds_toArray, List.set_cons_zero, List.set_cons_succ]
      refine anyE_oneL 22 (by kernel_rfl) rfl (fun K' hK' => ?_)
      go_simp
      refine (addList_any p F _ _ _ (X i) _ _ _ (X k) _ (s1.below hbd) (s2.below hbd) hn (Nat.le_refl _) hp hp2 rF.1 rF.2 A1.out A2.out).mono ?_
      rintro e w3 ⟨a3, rfl, o3, t3⟩
      dsimp only
      have hm3 := bnext hbd t3
      have S3 := And.intro (cell_be hm3 c1) (And.intro (cell_be hm3 c2) (cell_be hm3 c3))
      refine hK'.out _ _ S3 ?_
      clear hK' K'
      try simp only [Act.put, List.setIfInBounds_toArray, List.set_cons_zero, List.set_cons_succ]
      refine anyE_takeL 23 rfl (by kernel_rfl) (fun _ _ _ h => h) S3 (by rfl) (v := ?_) ?_ ?_
      rotate_left
      · intro w' hSw; (try dsimp only at hSw); go_simp; (try with_reducible rfl)
      try simp only [Act.put, List.setIfInBounds_toArray, List.set_cons_zero, List.set_cons_succ]
      clear hS
      refine anyE_lastL (by kernel_rfl) rfl (by kernel_rfl) (fun K' hK' => ?_)
      have f3 := (hm3.frozen (World.block_lt_of_cell? _ _ c1)).trans f1
      have c3' := S3.1
      go_simp
      refine hK'.out _ _ ?_
      clear hK' K'
      try simp only [Act.put, List.setIfInBounds_toArray, List.set_cons_zero, List.set_cons_succ]
      have g3 : blk a3 ≠ some g := fun e => by
        have := own_blk_ge o3 g e
        simp at this
        omega
      have hR3 : Hid (RowsX B g n cap (w3.setCell ⟨g, i, none⟩ (.slice a3 n n)) (us.set i (.slice a3 n n)) (stepR p n k (i + 1) X) n) := hide ((hR.out.below hm3).put i hlt (by
        have t := o3.sl
        rw [HF2.out] at t
        rw [show (elimR p (X k) (X i) k n).length = n from tab_len _ _] at t
        unfold stepR
        rw [if_pos (by omega)]
        exact t) g3 (fun j hj hne => stepR_next p n k i X j hne))
      have hT3 : Hid (Touch g (g + 1) w (w3.setCell ⟨g, i, none⟩ (.slice a3 n n))) := hide ((hT.out.trans (Touch.ofBelow hm3)).set (by simp) (by simp) _)
      clear hR hT S3 c3' c1 c2 c3 o3 s1 s2 v1 v2 v3 hm3 t3 hbd
      go_wp2
      go_roundw
      case rel => exact ⟨i + 1, _, by omega, by omega, by go_num, hR3, hT3⟩
      case measure => simp [intOf]; omega
    · have hin : i = n := by omega
      have hge : ¬ (i : Int) < (n : Int) := by omega
      have Hin := hide hin
      clear hin
      go_wp2
      refine bodyPost_end (v := .tuple #[]) (by simp [results, Tryd.results122]) rfl ?_
      exact ⟨rfl, ⟨us, by have t := hR.out; rwa [Hin.out] at t⟩, hT.out⟩
end Go.Proofs.YtdjifjlgllohmaaDoor
