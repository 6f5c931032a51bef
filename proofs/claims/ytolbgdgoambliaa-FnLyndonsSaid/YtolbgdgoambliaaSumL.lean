/-
  Plain mathematics of sums of series: terms put one by one, and two rows merged, come to the same.
  The model's way to put a term into a row of terms.
  The model's sum of two series: the terms of the second are put into the first one by one.
-/
import Derived.Test.YtolbgdgoambliaaTol
import Derived.Test.YtolbgdgoambliaaPartOf
namespace Go.Proofs.Ytolbgdgoambliaa

def lessT (t u : Tm) : Bool := lessL t.s.data.toList u.s.data.toList
theorem lessT_trans {a b c : Tm} (h1 : lessT a b = true) (h2 : lessT b c = true) : lessT a c = true := lessL_trans h1 h2
theorem lessT_irrefl (a : Tm) : lessT a a = false := lessL_irrefl _
def sumN (t u : Tm) : Int := t.n * u.d + u.n * t.d
def sumD (t u : Tm) : Int := t.d * u.d
def sumT (t u : Tm) : Tm := ⟨t.s, fN (sumN t u) (sumD t u), fD (sumN t u) (sumD t u)⟩
def sumOk (t u : Tm) : Bool := fOk (sumN t u) (sumD t u)

/-- a term before a list, if it is not 0 -/
def conT (u : Tm) (r : List Tm) : List Tm := if u.n = 0 then r else u :: r
def putHere : List Tm → Tm → Option (List Tm)
  | [], u => some (conT u [])
  | t :: r, u => if t.s = u.s then (if sumOk t u then some (conT (sumT t u) r) else none) else some (conT u (t :: r))
def putL : List Tm → Tm → Option (List Tm)
  | [], u => putHere [] u
  | t :: r, u => if lessT t u then (putL r u).map (t :: ·) else putHere (t :: r) u
theorem putL_at : ∀ (ts : List Tm) (u : Tm) (i : Nat), i ≤ ts.length → (∀ j (h : j < ts.length), j < i → lessT ts[j] u = true) → (∀ t, ts[i]? = some t → lessT t u = false) → putL ts u = (putHere (ts.drop i) u).map (ts.take i ++ ·)
  | [], u, i, _, _, _ => by simp [putL]
  | t :: r, u, 0, _, _, h2 => by
    have h := h2 t (by simp)
    simp [putL, h]
  | t :: r, u, i + 1, hi, h1, h2 => by
    have h := h1 0 (by simp) (by omega)
    simp only [List.getElem_cons_zero] at h
    have ih := putL_at r u i (by simpa using hi) (fun j hj hji => by have := h1 (j + 1) (by simpa using hj) (by omega); simpa using this) (fun t' ht => h2 t' (by simpa using ht))
    simp only [putL, h, if_true, ih, Option.map_map, List.drop_succ_cons, List.take_succ_cons]
    rfl

def putAll : List Tm → List Tm → Option (List Tm)
  | ts, [] => some ts
  | ts, u :: r => (putL ts u).bind fun ts' => putAll ts' r
def mergeL : List Tm → List Tm → Option (List Tm)
  | [], ys => some ys
  | x :: xs, [] => some (x :: xs)
  | x :: xs, y :: ys =>
    if lessT x y then (mergeL xs (y :: ys)).map (x :: ·)
    else if x.s = y.s then (if sumOk x y then (mergeL xs ys).map (conT (sumT x y)) else none)
    else (mergeL (x :: xs) ys).map (y :: ·)
  termination_by xs ys => xs.length + ys.length

theorem putAll_cons (x : Tm) : ∀ (ys xs : List Tm), (∀ u ∈ ys, lessT x u = true) → putAll (x :: xs) ys = (putAll xs ys).map (x :: ·)
  | [], xs, _ => by simp [putAll]
  | u :: r, xs, h => by
    have hu := h u (by simp)
    have hr : ∀ v ∈ r, lessT x v = true := fun v hv => h v (by simp [hv])
    simp only [putAll, putL, hu, if_true]
    cases putL xs u with
    | none => rfl
    | some ts' => simpa using putAll_cons x r ts' hr

theorem putAll_nil : ∀ ys : List Tm, ys.Pairwise (fun a b => lessT a b = true) → (∀ u ∈ ys, u.n ≠ 0) → putAll [] ys = some ys
  | [], _, _ => rfl
  | u :: r, hp, hn => by
    obtain ⟨h1, h2⟩ := List.pairwise_cons.1 hp
    have hu : u.n ≠ 0 := hn u (by simp)
    have ih := putAll_nil r h2 (fun v hv => hn v (by simp [hv]))
    simp only [putAll, putL, putHere, conT, hu, if_false, Option.bind_some]
    rw [putAll_cons u r [] h1, ih]
    rfl

theorem putAll_merge : ∀ (xs ys : List Tm), xs.Pairwise (fun a b => lessT a b = true) → ys.Pairwise (fun a b => lessT a b = true) → (∀ u ∈ ys, u.n ≠ 0) → putAll xs ys = mergeL xs ys
  | [], ys, _, hy, hn => by rw [putAll_nil ys hy hn]; simp [mergeL]
  | x :: xs, [], _, _, _ => by simp [putAll, mergeL]
  | x :: xs, y :: ys, hx, hy, hn => by
    obtain ⟨x1, x2⟩ := List.pairwise_cons.1 hx
    obtain ⟨y1, y2⟩ := List.pairwise_cons.1 hy
    have hn2 : ∀ u ∈ ys, u.n ≠ 0 := fun v hv => hn v (by simp [hv])
    have hny : y.n ≠ 0 := hn y (by simp)
    by_cases h : lessT x y = true
    · have ha : ∀ u ∈ y :: ys, lessT x u = true := fun u hu => by
        rcases List.mem_cons.1 hu with rfl | hu
        · exact h
        · exact lessT_trans h (y1 u hu)
      rw [putAll_cons x (y :: ys) xs ha, putAll_merge xs (y :: ys) x2 hy hn]
      simp [mergeL, h]
    · have hf : lessT x y = false := by simpa using h
      by_cases he : x.s = y.s
      · by_cases ho : sumOk x y = true
        · have e : putAll (x :: xs) (y :: ys) = putAll (conT (sumT x y) xs) ys := by
            simp only [putAll, putL, putHere, hf, he, ho, if_true]
            rfl
          have e2 : mergeL (x :: xs) (y :: ys) = (mergeL xs ys).map (conT (sumT x y)) := by
            rw [mergeL]; simp [hf, he, ho]
          rw [e, e2, ← putAll_merge xs ys x2 y2 hn2]
          unfold conT
          by_cases hz : (sumT x y).n = 0
          · simp [hz]
          · simp only [hz, if_false]
            exact putAll_cons (sumT x y) ys xs (fun u hu => by have := y1 u hu; unfold lessT sumT at *; rw [he]; exact this)
        · have ho2 : sumOk x y = false := by simpa using ho
          rw [mergeL]
          simp [putAll, putL, putHere, hf, he, ho2]
      · have e : putAll (x :: xs) (y :: ys) = putAll (y :: x :: xs) ys := by
          simp [putAll, putL, putHere, hf, he, conT, hny]
        rw [e, putAll_cons y ys (x :: xs) y1, putAll_merge (x :: xs) ys hx y2 hn2]
        rw [mergeL]
        simp [hf, he]
  termination_by xs ys => xs.length + ys.length

theorem conT_length (u : Tm) (r : List Tm) : (conT u r).length ≤ r.length + 1 := by
  unfold conT; split <;> simp
theorem putHere_length {ts r : List Tm} {u : Tm} (h : putHere ts u = some r) : r.length ≤ ts.length + 1 := by
  cases ts with
  | nil => simp only [putHere, Option.some.injEq] at h; subst h; exact conT_length _ _
  | cons t ts =>
    simp only [putHere] at h
    split at h
    · split at h
      · simp only [Option.some.injEq] at h; subst h
        have := conT_length (sumT t u) ts
        simp; omega
      · cases h
    · simp only [Option.some.injEq] at h; subst h; exact conT_length _ _
theorem putL_length : ∀ {ts r : List Tm} {u : Tm}, putL ts u = some r → r.length ≤ ts.length + 1
  | [], r, u, h => putHere_length h
  | t :: ts, r, u, h => by
    simp only [putL] at h
    split at h
    · obtain ⟨r', h1, rfl⟩ := Option.map_eq_some_iff.1 h
      have := putL_length h1
      simp; omega
    · exact putHere_length h
theorem putAll_length : ∀ {ys ts r : List Tm}, putAll ts ys = some r → r.length ≤ ts.length + ys.length
  | [], ts, r, h => by simp only [putAll, Option.some.injEq] at h; subst h; simp
  | u :: ys, ts, r, h => by
    simp only [putAll] at h
    obtain ⟨ts', h1, h2⟩ := Option.bind_eq_some_iff.1 h
    have := putL_length h1
    have := putAll_length h2
    simp; omega
theorem asc_pairwise {ts : List Tm} (h : Asc ts) : ts.Pairwise (fun a b => lessT a b = true) := by
  rw [List.pairwise_iff_getElem]
  exact fun i j hi hj hij => h i j hj hij
end Go.Proofs.Ytolbgdgoambliaa

namespace Go.Proofs.Ytolbgdgoambliaa
open Go.RowKit

/-- what putting a term comes to -/
def PutPost (r : Option (List Tm)) (W : World) (e : Ending) (w' : World) : Prop :=
  match r with
  | none => e = .returned (.tuple #[.slice none 0 0, .bool false]) ∧ Below W.heap.size W w'
  | some ts' => ∃ (a : Option Addr) (cap : Nat), e = .returned (.tuple #[.slice a ts'.length cap, .bool true]) ∧ ts'.length ≤ cap ∧ Below W.heap.size W w' ∧ NewRow W.heap.size w'.heap.size w' a ts'

theorem Row.drop {w : World} {a : Option Addr} {ts : List Tm} (h : Row w a ts) {k n c : Nat} (hn : n = ts.length) (hk : k ≤ n) (hc : n ≤ c) (A : Option Addr) (hA : ¬ c = k → A = a.map (·.add (k * 3))) :
    n - k = 0 ∨ ∃ b off, A = some ⟨b, off, none⟩ ∧ TermsIn w b off (ts.drop k) := by
  by_cases h0 : n - k = 0
  · exact .inl h0
  · rcases h with h | ⟨b, off, h1, h2, h3⟩
    · rw [h] at hn; simp at hn; omega
    · refine .inr ⟨b, off + k * 3, ?_, ?_⟩
      · rw [hA (by omega), h1]; simp [add_at]
      · have := cut_terms (i := k) (n := ts.length - k) h3 (by omega)
        rwa [List.take_of_length_le (by rw [List.length_drop]; omega)] at this
theorem Row.take {w : World} {a : Option Addr} {ts : List Tm} (h : Row w a ts) {k n : Nat} (hn : n = ts.length) (hk : k ≤ n) : k = 0 ∨ ∃ b off, a = some ⟨b, off, none⟩ ∧ TermsIn w b off (ts.take k) := by
  by_cases h0 : k = 0
  · exact .inl h0
  · rcases h with h | ⟨b, off, h1, h2, h3⟩
    · rw [h] at hn; simp at hn; omega
    · exact .inr ⟨b, off, h1, by have := cut_terms (i := 0) (n := k) h3 (by omega); rwa [List.drop_zero, Nat.zero_mul, Nat.add_zero] at this⟩

theorem str_eq_same (a : ByteArray) : (a.toList == a.toList) = true := by simp
theorem str_eq_other {a b : ByteArray} (h : a ≠ b) : (a.toList == b.toList) = false := by
  simp only [beq_eq_false_iff_ne, ne_eq, ByteArray.toList_eq]
  exact fun e => h (data_eq e)
theorem Row.src {w : World} {a : Option Addr} {ts : List Tm} {n : Nat} (h : Row w a ts) (hn : n = ts.length) : n = 0 ∨ ∃ b off, a = some ⟨b, off, none⟩ ∧ TermsIn w b off ts := by
  rcases h with h | ⟨b, off, h1, h2, h3⟩
  · exact .inl (by rw [hn, h]; rfl)
  · exact .inr ⟨b, off, h1, h3⟩
theorem drop_in {w : World} {b off k : Nat} {ts : List Tm} (h : TermsIn w b off ts) (hk : k ≤ ts.length) : TermsIn w b (off + k * 3) (ts.drop k) := by
  have h2 := cut_terms (i := k) (n := ts.length - k) h (by omega)
  rwa [List.take_of_length_le (by rw [List.length_drop]; omega)] at h2
theorem put_none {r : Option (List Tm)} {W w9 : World} (hr : r = none) (hb : Below W.heap.size W w9) : PutPost r W (.returned (.tuple #[.slice none 0 0, .bool false])) w9 := by
  subst hr
  exact ⟨rfl, hb⟩
/-- where the sum's variable stands, whatever the order -/
def PlusCut (w1 : World) (N D : Int) (ok : Bool) (v10 v11 : Value) (wy : World) : Prop :=
  ∃ g, v10 = .pointer (some ⟨g, 0, none⟩) ∧ v11 = .bool ok ∧ w1.heap.size ≤ g ∧ g < wy.heap.size ∧ Below w1.heap.size w1 wy ∧ wy.cell? ⟨g, 0, none⟩ = some (.int .i64 N) ∧ wy.cell? ⟨g, 1, none⟩ = some (.int .i64 D)
end Go.Proofs.Ytolbgdgoambliaa

namespace Go.Proofs.Ytolbgdgoambliaa
open Go.RowKit

theorem putAll_snoc : ∀ (ts ys : List Tm) (u : Tm), putAll ts (ys ++ [u]) = (putAll ts ys).bind fun r => putL r u
  | ts, [], u => by simp [putAll]
  | ts, y :: ys, u => by
    simp only [List.cons_append, putAll]
    cases putL ts y with
    | none => rfl
    | some r => simpa using putAll_snoc r ys u
theorem putAll_append : ∀ (ts ys zs : List Tm), putAll ts (ys ++ zs) = (putAll ts ys).bind fun r => putAll r zs
  | ts, [], zs => by simp [putAll]
  | ts, y :: ys, zs => by
    simp only [List.cons_append, putAll]
    cases putL ts y with
    | none => rfl
    | some r => simpa using putAll_append r ys zs
theorem putAll_take {ts ys : List Tm} {k : Nat} (hk : k < ys.length) : putAll ts (ys.take (k + 1)) = (putAll ts (ys.take k)).bind fun r => putL r ys[k] := by
  rw [List.take_succ_eq_append_getElem hk, putAll_snoc]
theorem putAll_dead {ts ys : List Tm} (k : Nat) (h : putAll ts (ys.take k) = none) : putAll ts ys = none := by
  have e : ys = ys.take k ++ ys.drop k := (List.take_append_drop k ys).symm
  rw [e, putAll_append, h]; rfl

def bdT (t : Tm) : Prop := t.n.natAbs ≤ 1000000000 ∧ t.d.natAbs ≤ 1000000000
theorem f_bd (n d : Int) : (fN n d).natAbs ≤ 1000000000 ∧ (fD n d).natAbs ≤ 1000000000 := by
  cases h : fOk n d with
  | false => have e := low_no h; rw [e.1, e.2.1]; decide
  | true =>
    have e := low_yes h
    rw [e.1, e.2.1]
    have h2 : lowOk n d = true := by unfold fOk at h; rw [Bool.and_eq_true] at h; exact h.2
    have := isF_abs (show isF (lowN n d) (lowD n d) = true from h2)
    exact ⟨this.1, this.2.1⟩
theorem conT_bd {u : Tm} {r : List Tm} (hu : bdT u) (hr : ∀ t ∈ r, bdT t) : ∀ t ∈ conT u r, bdT t := by
  unfold conT
  split
  · exact hr
  · intro t ht
    rcases List.mem_cons.1 ht with rfl | ht
    · exact hu
    · exact hr t ht
theorem putL_bd : ∀ {ts r : List Tm} {u : Tm}, bdT u → (∀ t ∈ ts, bdT t) → putL ts u = some r → ∀ t ∈ r, bdT t
  | [], r, u, hu, _, h => by
    simp only [putL, putHere, Option.some.injEq] at h
    subst h
    exact conT_bd hu (fun t ht => by cases ht)
  | t :: ts, r, u, hu, hts, h => by
    have h1 := hts t (by simp)
    have h2 : ∀ t ∈ ts, bdT t := fun t' ht => hts t' (by simp [ht])
    simp only [putL] at h
    split at h
    · obtain ⟨r', e, rfl⟩ := Option.map_eq_some_iff.1 h
      intro t' ht'
      rcases List.mem_cons.1 ht' with rfl | ht'
      · exact h1
      · exact putL_bd hu h2 e t' ht'
    · simp only [putHere] at h
      split at h
      · split at h
        · simp only [Option.some.injEq] at h
          subst h
          exact conT_bd (f_bd _ _) h2
        · cases h
      · simp only [Option.some.injEq] at h
        subst h
        exact conT_bd hu hts

def SumPost (L V : Int) (r : Option (List Tm)) (W : World) (e : Ending) (w' : World) : Prop :=
  match r with
  | none => e = .returned (.tuple #[.agg #[.int .i64 0, .int .i64 0, .slice none 0 0], .bool false]) ∧ Below W.heap.size W w'
  | some ts' => ∃ (a : Option Addr) (cap : Nat), e = .returned (.tuple #[.agg #[.int .i64 L, .int .i64 V, .slice a ts'.length cap], .bool true]) ∧ Below W.heap.size W w' ∧ NewRow W.heap.size w'.heap.size w' a ts'
theorem NewRow.far1s {lo hi n i : Nat} {w : World} {a : Option Addr} {ts : List Tm} {x : Value} (h : NewRow lo hi w a ts) (hn : n < lo) : NewRow lo hi (w.setCell ⟨n, i, none⟩ x) a ts := by
  rcases h with h | ⟨g, e, h1, h2, h3, h4⟩
  · exact .inl h
  · exact .inr ⟨g, e, h1, h2, h3.set _ _, h4.setCell (by show n ≠ g; omega) _⟩

end Go.Proofs.Ytolbgdgoambliaa
