/-
  The model's sum of two series: the terms of the second are put into the first one by one.
-/
import Derived.Test.YtnlapfclmpilaaaDoorPutL
namespace Go.Proofs.YtnlapfclmpilaaaDoor
open Go.RowKit

theorem putAll_snoc : ∀ (ts ys : List Tm) (u : Tm), putAll ts (ys ++ [u]) = (putAll ts ys).bind fun r => putL r u
  | ts, [], u => by simp [putAll]
  | ts, y :: ys, u => by
    simp only [List.cons_append, putAll]
    cases putL ts y with
    | none => rfl
    | some r => simpa using putAll_snoc r ys u
theorem putAll_append : ∀ (ts ys zs : List Tm), putAll ts (ys ++ zs) = (putAll ts ys).bind fun r => putAll r zs
  | ts, [], zs => by simp [putAll]
  | ts, y :: ys, zs => by
    simp only [List.cons_append, putAll]
    cases putL ts y with
    | none => rfl
    | some r => simpa using putAll_append r ys zs
theorem putAll_take {ts ys : List Tm} {k : Nat} (hk : k < ys.length) : putAll ts (ys.take (k + 1)) = (putAll ts (ys.take k)).bind fun r => putL r ys[k] := by
  rw [List.take_succ_eq_append_getElem hk, putAll_snoc]
theorem putAll_dead {ts ys : List Tm} (k : Nat) (h : putAll ts (ys.take k) = none) : putAll ts ys = none := by
  have e : ys = ys.take k ++ ys.drop k := (List.take_append_drop k ys).symm
  rw [e, putAll_append, h]; rfl

def bdT (t : Tm) : Prop := t.n.natAbs ≤ 1000000000 ∧ t.d.natAbs ≤ 1000000000
theorem f_bd (n d : Int) : (fN n d).natAbs ≤ 1000000000 ∧ (fD n d).natAbs ≤ 1000000000 := by
  cases h : fOk n d with
  | false => have e := low_no h; rw [e.1, e.2.1]; decide
  | true =>
    have e := low_yes h
    rw [e.1, e.2.1]
    have h2 : lowOk n d = true := by unfold fOk at h; rw [Bool.and_eq_true] at h; exact h.2
    have := isF_abs (show isF (lowN n d) (lowD n d) = true from h2)
    exact ⟨this.1, this.2.1⟩
theorem conT_bd {u : Tm} {r : List Tm} (hu : bdT u) (hr : ∀ t ∈ r, bdT t) : ∀ t ∈ conT u r, bdT t := by
  unfold conT
  split
  · exact hr
  · intro t ht
    rcases List.mem_cons.1 ht with rfl | ht
    · exact hu
    · exact hr t ht
theorem putL_bd : ∀ {ts r : List Tm} {u : Tm}, bdT u → (∀ t ∈ ts, bdT t) → putL ts u = some r → ∀ t ∈ r, bdT t
  | [], r, u, hu, _, h => by
    simp only [putL, putHere, Option.some.injEq] at h
    subst h
    exact conT_bd hu (fun t ht => by cases ht)
  | t :: ts, r, u, hu, hts, h => by
    have h1 := hts t (by simp)
    have h2 : ∀ t ∈ ts, bdT t := fun t' ht => hts t' (by simp [ht])
    simp only [putL] at h
    split at h
    · obtain ⟨r', e, rfl⟩ := Option.map_eq_some_iff.1 h
      intro t' ht'
      rcases List.mem_cons.1 ht' with rfl | ht'
      · exact h1
      · exact putL_bd hu h2 e t' ht'
    · simp only [putHere] at h
      split at h
      · split at h
        · simp only [Option.some.injEq] at h
          subst h
          exact conT_bd (f_bd _ _) h2
        · cases h
      · simp only [Option.some.injEq] at h
        subst h
        exact conT_bd hu hts

def SumPost (L V : Int) (r : Option (List Tm)) (W : World) (e : Ending) (w' : World) : Prop :=
  match r with
  | none => e = .returned (.tuple #[.agg #[.int .i64 0, .int .i64 0, .slice none 0 0], .bool false]) ∧ Below W.heap.size W w'
  | some ts' => ∃ (a : Option Addr) (cap : Nat), e = .returned (.tuple #[.agg #[.int .i64 L, .int .i64 V, .slice a ts'.length cap], .bool true]) ∧ Below W.heap.size W w' ∧ NewRow W.heap.size w'.heap.size w' a ts'
def SumRel (ts ys : List Tm) (B n : Nat) (x y : Value) (W : World) (vi : Value) (wr : World) : Prop :=
  ∃ (k : Nat) (a : Option Addr) (l c : Nat) (xs : List Tm), k ≤ ys.length ∧ vi = .int .i64 k ∧ putAll ts (ys.take k) = some xs ∧ l = xs.length ∧ l ≤ c ∧ NewRow B wr.heap.size wr a xs ∧ Blk wr n 28 #[x, y, .slice a l c] ∧ Below B W wr ∧ (∀ t ∈ xs, bdT t)

theorem NewRow.far1s {lo hi n i : Nat} {w : World} {a : Option Addr} {ts : List Tm} {x : Value} (h : NewRow lo hi w a ts) (hn : n < lo) : NewRow lo hi (w.setCell ⟨n, i, none⟩ x) a ts := by
  rcases h with h | ⟨g, e, h1, h2, h3, h4⟩
  · exact .inl h
  · exact .inr ⟨g, e, h1, h2, h3.set _ _, h4.setCell (by show n ≠ g; omega) _⟩

end Go.Proofs.YtnlapfclmpilaaaDoor
