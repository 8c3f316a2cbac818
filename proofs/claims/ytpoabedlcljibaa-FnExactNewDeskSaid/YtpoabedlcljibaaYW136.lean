/- Merged texts. -/
import Derived.Test.YtpoabedlcljibaaYW132
import Derived.Test.YtpoabedlcljibaaProg
import Derived.WalkMore
import Derived.ScopeJumps
/- Contracts: AffineJacobi where it succeeds, lessNumber (program). -/
namespace Go.Proofs.Ytpoabedlcljibaa
open Go.RowKit
set_option linter.unusedVariables false
set_option linter.unusedSimpArgs false

end Go.Proofs.Ytpoabedlcljibaa
/- A scope with two labels: what holds at a jump to the first, and what is left to be done at a jump to the second. -/
namespace Go.Proofs.Ytpoabedlcljibaa
open Go
/-- By a goto to label l: J; to label q: K; by any other goto: no way out; else Q. -/
def jumpTwo (l q : Nat) (J K : Act → World → Prop) (Q : Exit → Act → World → Prop) : Exit → Act → World → Prop
  | .goto x, a, w => (x = l ∧ J a w) ∨ (x = q ∧ K a w)
  | e, a, w => Q e a w
section
variable {P : Program} {a : Act} {w : World} {Q : Exit → Act → World → Prop}
theorem wp_scope_two {c rl rq : Code} (l q : Nat) (J : Act → World → Prop) (μ : Act → World → Nat) (hl : findLabel c l = some rl) (hq : findLabel c q = some rq)
    (first : c.wp P (jumpTwo l q J (fun a' w' => rq.wp P (Exit.jump l J Q) a' w') Q) a w)
    (pass : ∀ a w, J a w → rl.wp P (jumpTwo l q (fun a' w' => J a' w' ∧ μ a' w' < μ a w) (fun a' w' => rq.wp P (Exit.jump l (fun a2 w2 => J a2 w2 ∧ μ a2 w2 < μ a w) Q) a' w') Q) a w) : (Code.scope c).wp P Q a w := by
  intro b k cs
  have gl : gotoIn l (.inScope c :: k) = some (.code rl :: .inScope c :: k) := by simp [gotoIn, hl]
  have gq : gotoIn q (.inScope c :: k) = some (.code rq :: .inScope c :: k) := by simp [gotoIn, hq]
  -- a way that ends otherwise than by a jump is the scope's own
  have out : ∀ {s : Nat → Prop} {J' : Act → World → Prop} (a w), rq.wp P (Exit.jump l J' Q) a w →
      (∀ a' w', J' a' w' → ∃ e a'' w'', Q e a'' w'' ∧ Arrives P (lone (b.at a' (.code rl :: .inScope c :: k)) cs w') b k cs e a'' w'') →
      ∃ e a' w', Q e a' w' ∧ Arrives P (lone (b.at a (.code rq :: .inScope c :: k)) cs w) b k cs e a' w' := by
    intro _ J' a w h hJ
    obtain ⟨e, a1, w1, h1, h2⟩ := h b (.inScope c :: k) cs
    cases e with
    | normal => exact ⟨.normal, a1, w1, h1, Steps.trans h2 (.one step_inScope)⟩
    | exit id => exact ⟨.exit id, a1, w1, h1, fun k' hk => h2 k' (by simp [exitTo, hk])⟩
    | goto x =>
      obtain ⟨rfl, hj⟩ := h1
      obtain ⟨e2, a2, w2, h3, h4⟩ := hJ _ _ hj
      exact ⟨e2, a2, w2, h3, .of_steps (h2 _ gl) h4⟩
    | ret => exact ⟨_, a1, w1, h1, h2⟩
    | panic ch => exact ⟨_, a1, w1, h1, h2⟩
    | outgrown => exact ⟨_, a1, w1, h1, h2⟩
  have key : ∀ n a w, μ a w = n → J a w → ∃ e a' w', Q e a' w' ∧ Arrives P (lone (b.at a (.code rl :: .inScope c :: k)) cs w) b k cs e a' w' := by
    intro n
    induction n using Nat.strongRecOn with
    | _ n ih =>
      intro a w hn hJ
      obtain ⟨e, a1, w1, h1, h2⟩ := pass a w hJ b (.inScope c :: k) cs
      cases e with
      | normal => exact ⟨.normal, a1, w1, h1, Steps.trans h2 (.one step_inScope)⟩
      | exit id => exact ⟨.exit id, a1, w1, h1, fun k' hk => h2 k' (by simp [exitTo, hk])⟩
      | goto x =>
        rcases h1 with ⟨rfl, hj, hlt⟩ | ⟨rfl, hk⟩
        · obtain ⟨e2, a2, w2, h3, h4⟩ := ih _ (by omega) a1 w1 rfl hj
          exact ⟨e2, a2, w2, h3, .of_steps (h2 _ gl) h4⟩
        · obtain ⟨e2, a2, w2, h3, h4⟩ := out (s := fun _ => True) _ _ hk (fun a' w' hj => ih _ (by omega) a' w' rfl hj.1)
          exact ⟨e2, a2, w2, h3, .of_steps (h2 _ gq) h4⟩
      | ret => exact ⟨_, a1, w1, h1, h2⟩
      | panic ch => exact ⟨_, a1, w1, h1, h2⟩
      | outgrown => exact ⟨_, a1, w1, h1, h2⟩
  obtain ⟨e, a1, w1, h1, h2⟩ := first b (.inScope c :: k) cs
  cases e with
  | normal => exact ⟨.normal, a1, w1, h1, .head step_scope (Steps.trans h2 (.one step_inScope))⟩
  | exit id => exact ⟨.exit id, a1, w1, h1, fun k' hk => .head step_scope (h2 k' (by simp [exitTo, hk]))⟩
  | goto x =>
    rcases h1 with ⟨rfl, hj⟩ | ⟨rfl, hk⟩
    · obtain ⟨e2, a2, w2, h3, h4⟩ := key _ a1 w1 rfl hj
      exact ⟨e2, a2, w2, h3, .of_steps (.head step_scope (h2 _ gl)) h4⟩
    · obtain ⟨e2, a2, w2, h3, h4⟩ := out (s := fun _ => True) _ _ hk (fun a' w' hj => key _ a' w' rfl hj)
      exact ⟨e2, a2, w2, h3, .of_steps (.head step_scope (h2 _ gq)) h4⟩
  | ret => exact ⟨_, a1, w1, h1, .of_steps (.one step_scope) h2⟩
  | panic ch => exact ⟨_, a1, w1, h1, .of_steps (.one step_scope) h2⟩
  | outgrown => exact ⟨_, a1, w1, h1, .of_steps (.one step_scope) h2⟩
/-- The same, told once: the way to the first label leads to J, whatever is asked behind it. -/
theorem wp_scope_lab {c x rq : Code} (l q : Nat) (J : Act → World → Prop) (μ : Act → World → Nat) (hl : findLabel c l = some (Code.skip.seq x)) (hq : findLabel c q = some rq)
    (first : ∀ Q', (∀ a w, J a w → x.wp P Q' a w) → c.wp P Q' a w)
    (pass : ∀ a w, J a w → x.wp P (jumpTwo l q (fun a' w' => J a' w' ∧ μ a' w' < μ a w) (fun a' w' => rq.wp P (Exit.jump l (fun a2 w2 => J a2 w2 ∧ μ a2 w2 < μ a w) Q) a' w') Q) a w) : (Code.scope c).wp P Q a w := by
  refine wp_scope_two l q J μ hl hq (first _ fun a w hJ => wp_mono (pass a w hJ) ?_) fun a w hJ => wp_seq (wp_skip (pass a w hJ))
  intro e a' w' h
  cases e with
  | goto y =>
    rcases h with ⟨rfl, h1, _⟩ | ⟨rfl, h1⟩
    · exact .inl ⟨rfl, h1⟩
    · refine .inr ⟨rfl, wp_mono h1 ?_⟩
      intro e a2 w2 h2
      cases e with
      | goto z => exact ⟨h2.1, h2.2.1⟩
      | normal => exact h2
      | exit id => exact h2
      | ret => exact h2
      | panic ch => exact h2
      | outgrown => exact h2
  | normal => exact h
  | exit id => exact h
  | ret => exact h
  | panic ch => exact h
  | outgrown => exact h
end
end Go.Proofs.Ytpoabedlcljibaa
