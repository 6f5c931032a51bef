/-
  Plain mathematics of sums of series: terms put one by one, and two rows merged, come to the same.
-/
import Derived.Test.YtogbilajlchinaaGreatDoorTol
namespace Go.Proofs.YtogbilajlchinaaGreatDoor

def lessT (t u : Tm) : Bool := lessL t.s.data.toList u.s.data.toList
theorem lessT_trans {a b c : Tm} (h1 : lessT a b = true) (h2 : lessT b c = true) : lessT a c = true := lessL_trans h1 h2
theorem lessT_irrefl (a : Tm) : lessT a a = false := lessL_irrefl _
def sumN (t u : Tm) : Int := t.n * u.d + u.n * t.d
def sumD (t u : Tm) : Int := t.d * u.d
def sumT (t u : Tm) : Tm := ⟨t.s, fN (sumN t u) (sumD t u), fD (sumN t u) (sumD t u)⟩
def sumOk (t u : Tm) : Bool := fOk (sumN t u) (sumD t u)

/-- a term before a list, if it is not 0 -/
def conT (u : Tm) (r : List Tm) : List Tm := if u.n = 0 then r else u :: r
def putHere : List Tm → Tm → Option (List Tm)
  | [], u => some (conT u [])
  | t :: r, u => if t.s = u.s then (if sumOk t u then some (conT (sumT t u) r) else none) else some (conT u (t :: r))
def putL : List Tm → Tm → Option (List Tm)
  | [], u => putHere [] u
  | t :: r, u => if lessT t u then (putL r u).map (t :: ·) else putHere (t :: r) u
theorem putL_at : ∀ (ts : List Tm) (u : Tm) (i : Nat), i ≤ ts.length → (∀ j (h : j < ts.length), j < i → lessT ts[j] u = true) → (∀ t, ts[i]? = some t → lessT t u = false) → putL ts u = (putHere (ts.drop i) u).map (ts.take i ++ ·)
  | [], u, i, _, _, _ => by simp [putL]
  | t :: r, u, 0, _, _, h2 => by
    have h := h2 t (by simp)
    simp [putL, h]
  | t :: r, u, i + 1, hi, h1, h2 => by
    have h := h1 0 (by simp) (by omega)
    simp only [List.getElem_cons_zero] at h
    have ih := putL_at r u i (by simpa using hi) (fun j hj hji => by have := h1 (j + 1) (by simpa using hj) (by omega); simpa using this) (fun t' ht => h2 t' (by simpa using ht))
    simp only [putL, h, if_true, ih, Option.map_map, List.drop_succ_cons, List.take_succ_cons]
    rfl

def putAll : List Tm → List Tm → Option (List Tm)
  | ts, [] => some ts
  | ts, u :: r => (putL ts u).bind fun ts' => putAll ts' r
def mergeL : List Tm → List Tm → Option (List Tm)
  | [], ys => some ys
  | x :: xs, [] => some (x :: xs)
  | x :: xs, y :: ys =>
    if lessT x y then (mergeL xs (y :: ys)).map (x :: ·)
    else if x.s = y.s then (if sumOk x y then (mergeL xs ys).map (conT (sumT x y)) else none)
    else (mergeL (x :: xs) ys).map (y :: ·)
  termination_by xs ys => xs.length + ys.length

theorem putAll_cons (x : Tm) : ∀ (ys xs : List Tm), (∀ u ∈ ys, lessT x u = true) → putAll (x :: xs) ys = (putAll xs ys).map (x :: ·)
  | [], xs, _ => by simp [putAll]
  | u :: r, xs, h => by
    have hu := h u (by simp)
    have hr : ∀ v ∈ r, lessT x v = true := fun v hv => h v (by simp [hv])
    simp only [putAll, putL, hu, if_true]
    cases putL xs u with
    | none => rfl
    | some ts' => simpa using putAll_cons x r ts' hr

theorem putAll_nil : ∀ ys : List Tm, ys.Pairwise (fun a b => lessT a b = true) → (∀ u ∈ ys, u.n ≠ 0) → putAll [] ys = some ys
  | [], _, _ => rfl
  | u :: r, hp, hn => by
    obtain ⟨h1, h2⟩ := List.pairwise_cons.1 hp
    have hu : u.n ≠ 0 := hn u (by simp)
    have ih := putAll_nil r h2 (fun v hv => hn v (by simp [hv]))
    simp only [putAll, putL, putHere, conT, hu, if_false, Option.bind_some]
    rw [putAll_cons u r [] h1, ih]
    rfl

theorem putAll_merge : ∀ (xs ys : List Tm), xs.Pairwise (fun a b => lessT a b = true) → ys.Pairwise (fun a b => lessT a b = true) → (∀ u ∈ ys, u.n ≠ 0) → putAll xs ys = mergeL xs ys
  | [], ys, _, hy, hn => by rw [putAll_nil ys hy hn]; simp [mergeL]
  | x :: xs, [], _, _, _ => by simp [putAll, mergeL]
  | x :: xs, y :: ys, hx, hy, hn => by
    obtain ⟨x1, x2⟩ := List.pairwise_cons.1 hx
    obtain ⟨y1, y2⟩ := List.pairwise_cons.1 hy
    have hn2 : ∀ u ∈ ys, u.n ≠ 0 := fun v hv => hn v (by simp [hv])
    have hny : y.n ≠ 0 := hn y (by simp)
    by_cases h : lessT x y = true
    · have ha : ∀ u ∈ y :: ys, lessT x u = true := fun u hu => by
        rcases List.mem_cons.1 hu with rfl | hu
        · exact h
        · exact lessT_trans h (y1 u hu)
      rw [putAll_cons x (y :: ys) xs ha, putAll_merge xs (y :: ys) x2 hy hn]
      simp [mergeL, h]
    · have hf : lessT x y = false := by simpa using h
      by_cases he : x.s = y.s
      · by_cases ho : sumOk x y = true
        · have e : putAll (x :: xs) (y :: ys) = putAll (conT (sumT x y) xs) ys := by
            simp only [putAll, putL, putHere, hf, he, ho, if_true]
            rfl
          have e2 : mergeL (x :: xs) (y :: ys) = (mergeL xs ys).map (conT (sumT x y)) := by
            rw [mergeL]; simp [hf, he, ho]
          rw [e, e2, ← putAll_merge xs ys x2 y2 hn2]
          unfold conT
          by_cases hz : (sumT x y).n = 0
          · simp [hz]
          · simp only [hz, if_false]
            exact putAll_cons (sumT x y) ys xs (fun u hu => by have := y1 u hu; unfold lessT sumT at *; rw [he]; exact this)
        · have ho2 : sumOk x y = false := by simpa using ho
          rw [mergeL]
          simp [putAll, putL, putHere, hf, he, ho2]
      · have e : putAll (x :: xs) (y :: ys) = putAll (y :: x :: xs) ys := by
          simp [putAll, putL, putHere, hf, he, conT, hny]
        rw [e, putAll_cons y ys (x :: xs) y1, putAll_merge (x :: xs) ys hx y2 hn2]
        rw [mergeL]
        simp [hf, he]
  termination_by xs ys => xs.length + ys.length

theorem conT_length (u : Tm) (r : List Tm) : (conT u r).length ≤ r.length + 1 := by
  unfold conT; split <;> simp
theorem putHere_length {ts r : List Tm} {u : Tm} (h : putHere ts u = some r) : r.length ≤ ts.length + 1 := by
  cases ts with
  | nil => simp only [putHere, Option.some.injEq] at h; subst h; exact conT_length _ _
  | cons t ts =>
    simp only [putHere] at h
    split at h
    · split at h
      · simp only [Option.some.injEq] at h; subst h
        have := conT_length (sumT t u) ts
        simp; omega
      · cases h
    · simp only [Option.some.injEq] at h; subst h; exact conT_length _ _
theorem putL_length : ∀ {ts r : List Tm} {u : Tm}, putL ts u = some r → r.length ≤ ts.length + 1
  | [], r, u, h => putHere_length h
  | t :: ts, r, u, h => by
    simp only [putL] at h
    split at h
    · obtain ⟨r', h1, rfl⟩ := Option.map_eq_some_iff.1 h
      have := putL_length h1
      simp; omega
    · exact putHere_length h
theorem putAll_length : ∀ {ys ts r : List Tm}, putAll ts ys = some r → r.length ≤ ts.length + ys.length
  | [], ts, r, h => by simp only [putAll, Option.some.injEq] at h; subst h; simp
  | u :: ys, ts, r, h => by
    simp only [putAll] at h
    obtain ⟨ts', h1, h2⟩ := Option.bind_eq_some_iff.1 h
    have := putL_length h1
    have := putAll_length h2
    simp; omega
theorem asc_pairwise {ts : List Tm} (h : Asc ts) : ts.Pairwise (fun a b => lessT a b = true) := by
  rw [List.pairwise_iff_getElem]
  exact fun i j hi hj hij => h i j hj hij
end Go.Proofs.YtogbilajlchinaaGreatDoor
