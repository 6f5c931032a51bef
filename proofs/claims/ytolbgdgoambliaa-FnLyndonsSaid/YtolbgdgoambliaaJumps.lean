/-
  A scope in which the run jumps to several labels: what holds at each jump bears a number, and every pass from a label lowers it.
-/
import Derived.ScopeJumps
namespace Go.Proofs.Ytolbgdgoambliaa
open Go

/-- as Q; by a goto to a label: what J says of that label -/
def exitTo (J : Nat → Act → World → Prop) (Q : Exit → Act → World → Prop) (e : Exit) (a : Act) (w : World) : Prop :=
  match e with
  | .goto l => J l a w
  | e => Q e a w
theorem wp_labels {P : Program} {a : Act} {w : World} {Q : Exit → Act → World → Prop} {c : Code} (J : Nat → Nat → Act → World → Prop)
    (start : c.wp P (exitTo (fun l a' w' => ∃ m, J m l a' w') Q) a w)
    (pass : ∀ m l a w, J m l a w → ∃ rest, findLabel c l = some rest ∧ rest.wp P (exitTo (fun l' a' w' => ∃ m', m' < m ∧ J m' l' a' w') Q) a w) :
    (Code.scope c).wp P Q a w := by
  intro b k cs
  have runs : ∀ n m l a w, m ≤ n → J m l a w → ∃ rest e a' w', findLabel c l = some rest ∧ Q e a' w' ∧ Arrives P (lone (b.at a (.code rest :: .inScope c :: k)) cs w) b k cs e a' w' := by
    intro n
    induction n with
    | zero =>
      intro m l a w hm hJ
      obtain ⟨rest, hf, hw⟩ := pass m l a w hJ
      obtain ⟨e, a1, w1, hq, ha⟩ := hw b (.inScope c :: k) cs
      cases e with
      | normal => exact ⟨rest, .normal, a1, w1, hf, hq, Steps.trans ha (.one step_inScope)⟩
      | exit id => exact ⟨rest, .exit id, a1, w1, hf, hq, fun k' hk => ha k' (by simp [Go.exitTo, hk])⟩
      | goto l' => obtain ⟨m', h, _⟩ := hq; omega
      | ret => exact ⟨rest, _, a1, w1, hf, hq, ha⟩
      | panic ch => exact ⟨rest, _, a1, w1, hf, hq, ha⟩
      | outgrown => exact ⟨rest, _, a1, w1, hf, hq, ha⟩
    | succ n ih =>
      intro m l a w hm hJ
      obtain ⟨rest, hf, hw⟩ := pass m l a w hJ
      obtain ⟨e, a1, w1, hq, ha⟩ := hw b (.inScope c :: k) cs
      cases e with
      | normal => exact ⟨rest, .normal, a1, w1, hf, hq, Steps.trans ha (.one step_inScope)⟩
      | exit id => exact ⟨rest, .exit id, a1, w1, hf, hq, fun k' hk => ha k' (by simp [Go.exitTo, hk])⟩
      | goto l' =>
        obtain ⟨m', h, hJ'⟩ := hq
        obtain ⟨rest', e2, a2, w2, hf', hq2, ha2⟩ := ih m' l' a1 w1 (by omega) hJ'
        have hg : gotoIn l' (.inScope c :: k) = some (.code rest' :: .inScope c :: k) := by simp [gotoIn, hf']
        exact ⟨rest, e2, a2, w2, hf, hq2, .of_steps (ha _ hg) ha2⟩
      | ret => exact ⟨rest, _, a1, w1, hf, hq, ha⟩
      | panic ch => exact ⟨rest, _, a1, w1, hf, hq, ha⟩
      | outgrown => exact ⟨rest, _, a1, w1, hf, hq, ha⟩
  obtain ⟨e, a1, w1, hq, ha⟩ := start b (.inScope c :: k) cs
  cases e with
  | normal => exact ⟨.normal, a1, w1, hq, .head step_scope (Steps.trans ha (.one step_inScope))⟩
  | exit id => exact ⟨.exit id, a1, w1, hq, fun k' hk => .head step_scope (ha k' (by simp [Go.exitTo, hk]))⟩
  | goto l' =>
    obtain ⟨m, hJ⟩ := hq
    obtain ⟨rest', e2, a2, w2, hf', hq2, ha2⟩ := runs m m l' a1 w1 (Nat.le_refl _) hJ
    have hg : gotoIn l' (.inScope c :: k) = some (.code rest' :: .inScope c :: k) := by simp [gotoIn, hf']
    exact ⟨e2, a2, w2, hq2, .of_steps (.head step_scope (ha _ hg)) ha2⟩
  | ret => exact ⟨_, a1, w1, hq, .of_steps (.one step_scope) ha⟩
  | panic ch => exact ⟨_, a1, w1, hq, .of_steps (.one step_scope) ha⟩
  | outgrown => exact ⟨_, a1, w1, hq, .of_steps (.one step_scope) ha⟩
theorem skipped {P : Program} {a : Act} {w : World} {Q : Exit → Act → World → Prop} {c : Code} (h : c.wp P Q a w) : (Code.skip.seq c).wp P Q a w :=
  wp_seq (wp_skip h)
/-- two labels, the second behind the first: the run comes to the first, from there to the second; jumps go back to either -/
theorem wp_labels2 {P : Program} {a : Act} {w : World} {Q : Exit → Act → World → Prop} {c rest0 rest1 : Code} (J0 J1 : Nat → Act → World → Prop)
    (hf0 : findLabel c 0 = some (Code.skip.seq rest0)) (hf1 : findLabel c 1 = some (Code.skip.seq rest1))
    (start : ∀ Q' : Exit → Act → World → Prop, (∀ m a w, J0 m a w → rest0.wp P Q' a w) → c.wp P Q' a w)
    (pass0 : ∀ m a w, J0 m a w → ∀ Q' : Exit → Act → World → Prop, (∀ m' a w, m' < m → J1 m' a w → rest1.wp P Q' a w) → rest0.wp P Q' a w)
    (pass1 : ∀ m a w, J1 m a w → rest1.wp P (exitTo (fun l' a' w' => ∃ m', m' < m ∧ ((l' = 0 ∧ J0 m' a' w') ∨ (l' = 1 ∧ J1 m' a' w'))) Q) a w) :
    (Code.scope c).wp P Q a w := by
  have low : ∀ {m m1 : Nat} {r : Code} {a : Act} {w : World}, m1 ≤ m → r.wp P (exitTo (fun l' a' w' => ∃ m', m' < m1 ∧ ((l' = 0 ∧ J0 m' a' w') ∨ (l' = 1 ∧ J1 m' a' w'))) Q) a w → r.wp P (exitTo (fun l' a' w' => ∃ m', m' < m ∧ ((l' = 0 ∧ J0 m' a' w') ∨ (l' = 1 ∧ J1 m' a' w'))) Q) a w := by
    intro m m1 r a w hm h
    refine wp_mono h ?_
    intro e a w h'
    cases e with
    | goto l => obtain ⟨m', h1, h2⟩ := h'; exact ⟨m', by omega, h2⟩
    | normal => exact h'
    | exit id => exact h'
    | ret => exact h'
    | panic ch => exact h'
    | outgrown => exact h'
  have p0 : ∀ m a w, J0 m a w → rest0.wp P (exitTo (fun l' a' w' => ∃ m', m' < m ∧ ((l' = 0 ∧ J0 m' a' w') ∨ (l' = 1 ∧ J1 m' a' w'))) Q) a w := fun m a w h =>
    pass0 m a w h _ fun m' a w hm h1 => low (by omega) (pass1 m' a w h1)
  refine wp_labels (fun m l a w => (l = 0 ∧ J0 m a w) ∨ (l = 1 ∧ J1 m a w)) ?_ ?_
  · refine start _ fun m a w h => ?_
    refine wp_mono (p0 m a w h) ?_
    intro e a w h'
    cases e with
    | goto l => obtain ⟨m', _, h2⟩ := h'; exact ⟨m', h2⟩
    | normal => exact h'
    | exit id => exact h'
    | ret => exact h'
    | panic ch => exact h'
    | outgrown => exact h'
  · rintro m l a w (⟨rfl, h⟩ | ⟨rfl, h⟩)
    · exact ⟨_, hf0, skipped (p0 m a w h)⟩
    · exact ⟨_, hf1, skipped (pass1 m a w h)⟩
end Go.Proofs.Ytolbgdgoambliaa
