/-
  Plain mathematics of sums of series: terms put one by one, and two rows merged, come to the same.
  The model's way to put a term into a row of terms.
  The model's sum of two series: the terms of the second are put into the first one by one.
-/
import Derived.Test.YtdgkkcjjfpenpaaGreatDoorTol
import Derived.Test.YtdgkkcjjfpenpaaGreatDoorPartOf
namespace Go.Proofs.YtdgkkcjjfpenpaaGreatDoor

def lessT (t u : Tm) : Bool := lessL t.s.data.toList u.s.data.toList
theorem lessT_trans {a b c : Tm} (h1 : lessT a b = true) (h2 : lessT b c = true) : lessT a c = true := lessL_trans h1 h2
theorem lessT_irrefl (a : Tm) : lessT a a = false := lessL_irrefl _
def sumN (t u : Tm) : Int := t.n * u.d + u.n * t.d
def sumD (t u : Tm) : Int := t.d * u.d
def sumT (t u : Tm) : Tm := ⟨t.s, fN (sumN t u) (sumD t u), fD (sumN t u) (sumD t u)⟩
def sumOk (t u : Tm) : Bool := fOk (sumN t u) (sumD t u)

/-- a term before a list, if it is not 0 -/
def conT (u : Tm) (r : List Tm) : List Tm := if u.n = 0 then r else u :: r
def putHere : List Tm → Tm → Option (List Tm)
  | [], u => some (conT u [])
  | t :: r, u => if t.s = u.s then (if sumOk t u then some (conT (sumT t u) r) else none) else some (conT u (t :: r))
def putL : List Tm → Tm → Option (List Tm)
  | [], u => putHere [] u
  | t :: r, u => if lessT t u then (putL r u).map (t :: ·) else putHere (t :: r) u
theorem putL_at : ∀ (ts : List Tm) (u : Tm) (i : Nat), i ≤ ts.length → (∀ j (h : j < ts.length), j < i → lessT ts[j] u = true) → (∀ t, ts[i]? = some t → lessT t u = false) → putL ts u = (putHere (ts.drop i) u).map (ts.take i ++ ·)
  | [], u, i, _, _, _ => by simp [putL]
  | t :: r, u, 0, _, _, h2 => by
    have h := h2 t (by simp)
    simp [putL, h]
  | t :: r, u, i + 1, hi, h1, h2 => by
    have h := h1 0 (by simp) (by omega)
    simp only [List.getElem_cons_zero] at h
    have ih := putL_at r u i (by simpa using hi) (fun j hj hji => by have := h1 (j + 1) (by simpa using hj) (by omega); simpa using this) (fun t' ht => h2 t' (by simpa using ht))
    simp only [putL, h, if_true, ih, Option.map_map, List.drop_succ_cons, List.take_succ_cons]
    rfl

def putAll : List Tm → List Tm → Option (List Tm)
  | ts, [] => some ts
  | ts, u :: r => (putL ts u).bind fun ts' => putAll ts' r
def mergeL : List Tm → List Tm → Option (List Tm)
  | [], ys => some ys
  | x :: xs, [] => some (x :: xs)
  | x :: xs, y :: ys =>
    if lessT x y then (mergeL xs (y :: ys)).map (x :: ·)
    else if x.s = y.s then (if sumOk x y then (mergeL xs ys).map (conT (sumT x y)) else none)
    else (mergeL (x :: xs) ys).map (y :: ·)
  termination_by xs ys => xs.length + ys.length

theorem putAll_cons (x : Tm) : ∀ (ys xs : List Tm), (∀ u ∈ ys, lessT x u = true) → putAll (x :: xs) ys = (putAll xs ys).map (x :: ·)
  | [], xs, _ => by simp [putAll]
  | u :: r, xs, h => by
    have hu := h u (by simp)
    have hr : ∀ v ∈ r, lessT x v = true := fun v hv => h v (by simp [hv])
    simp only [putAll, putL, hu, if_true]
    cases putL xs u with
    | none => rfl
    | some ts' => simpa using putAll_cons x r ts' hr

theorem putAll_nil : ∀ ys : List Tm, ys.Pairwise (fun a b => lessT a b = true) → (∀ u ∈ ys, u.n ≠ 0) → putAll [] ys = some ys
  | [], _, _ => rfl
  | u :: r, hp, hn => by
    obtain ⟨h1, h2⟩ := List.pairwise_cons.1 hp
    have hu : u.n ≠ 0 := hn u (by simp)
    have ih := putAll_nil r h2 (fun v hv => hn v (by simp [hv]))
    simp only [putAll, putL, putHere, conT, hu, if_false, Option.bind_some]
    rw [putAll_cons u r [] h1, ih]
    rfl

theorem putAll_merge : ∀ (xs ys : List Tm), xs.Pairwise (fun a b => lessT a b = true) → ys.Pairwise (fun a b => lessT a b = true) → (∀ u ∈ ys, u.n ≠ 0) → putAll xs ys = mergeL xs ys
  | [], ys, _, hy, hn => by rw [putAll_nil ys hy hn]; simp [mergeL]
  | x :: xs, [], _, _, _ => by simp [putAll, mergeL]
  | x :: xs, y :: ys, hx, hy, hn => by
    obtain ⟨x1, x2⟩ := List.pairwise_cons.1 hx
    obtain ⟨y1, y2⟩ := List.pairwise_cons.1 hy
    have hn2 : ∀ u ∈ ys, u.n ≠ 0 := fun v hv => hn v (by simp [hv])
    have hny : y.n ≠ 0 := hn y (by simp)
    by_cases h : lessT x y = true
    · have ha : ∀ u ∈ y :: ys, lessT x u = true := fun u hu => by
        rcases List.mem_cons.1 hu with rfl | hu
        · exact h
        · exact lessT_trans h (y1 u hu)
      rw [putAll_cons x (y :: ys) xs ha, putAll_merge xs (y :: ys) x2 hy hn]
      simp [mergeL, h]
    · have hf : lessT x y = false := by simpa using h
      by_cases he : x.s = y.s
      · by_cases ho : sumOk x y = true
        · have e : putAll (x :: xs) (y :: ys) = putAll (conT (sumT x y) xs) ys := by
            simp only [putAll, putL, putHere, hf, he, ho, if_true]
            rfl
          have e2 : mergeL (x :: xs) (y :: ys) = (mergeL xs ys).map (conT (sumT x y)) := by
            rw [mergeL]; simp [hf, he, ho]
          rw [e, e2, ← putAll_merge xs ys x2 y2 hn2]
          unfold conT
          by_cases hz : (sumT x y).n = 0
          · simp [hz]
          · simp only [hz, if_false]
            exact putAll_cons (sumT x y) ys xs (fun u hu => by have := y1 u hu; unfold lessT sumT at *; rw [he]; exact this)
        · have ho2 : sumOk x y = false := by simpa using ho
          rw [mergeL]
          simp [putAll, putL, putHere, hf, he, ho2]
      · have e : putAll (x :: xs) (y :: ys) = putAll (y :: x :: xs) ys := by
          simp [putAll, putL, putHere, hf, he, conT, hny]
        rw [e, putAll_cons y ys (x :: xs) y1, putAll_merge (x :: xs) ys hx y2 hn2]
        rw [mergeL]
        simp [hf, he]
  termination_by xs ys => xs.length + ys.length

theorem conT_length (u : Tm) (r : List Tm) : (conT u r).length ≤ r.length + 1 := by
  unfold conT; split <;> simp
theorem putHere_length {ts r : List Tm} {u : Tm} (h : putHere ts u = some r) : r.length ≤ ts.length + 1 := by
  cases ts with
  | nil => simp only [putHere, Option.some.injEq] at h; subst h; exact conT_length _ _
  | cons t ts =>
    simp only [putHere] at h
    split at h
    · split at h
      · simp only [Option.some.injEq] at h; subst h
        have := conT_length (sumT t u) ts
        simp; omega
      · cases h
    · simp only [Option.some.injEq] at h; subst h; exact conT_length _ _
theorem putL_length : ∀ {ts r : List Tm} {u : Tm}, putL ts u = some r → r.length ≤ ts.length + 1
  | [], r, u, h => putHere_length h
  | t :: ts, r, u, h => by
    simp only [putL] at h
    split at h
    · obtain ⟨r', h1, rfl⟩ := Option.map_eq_some_iff.1 h
      have := putL_length h1
      simp; omega
    · exact putHere_length h
theorem putAll_length : ∀ {ys ts r : List Tm}, putAll ts ys = some r → r.length ≤ ts.length + ys.length
  | [], ts, r, h => by simp only [putAll, Option.some.injEq] at h; subst h; simp
  | u :: ys, ts, r, h => by
    simp only [putAll] at h
    obtain ⟨ts', h1, h2⟩ := Option.bind_eq_some_iff.1 h
    have := putL_length h1
    have := putAll_length h2
    simp; omega
theorem asc_pairwise {ts : List Tm} (h : Asc ts) : ts.Pairwise (fun a b => lessT a b = true) := by
  rw [List.pairwise_iff_getElem]
  exact fun i j hi hj hij => h i j hj hij
end Go.Proofs.YtdgkkcjjfpenpaaGreatDoor

namespace Go.Proofs.YtdgkkcjjfpenpaaGreatDoor
open Go.RowKit

set_option maxRecDepth 100000 in
theorem run_append_terms (w : World) (ty : TypeId) (base : Nat) (v : Value) (n : Nat) (xs ys : List Tm) (hn : n = xs.length) (hown : OwnT w base v xs) (A : Option Addr) (m c : Nat) (hm : m = ys.length)
    (hsrc : m = 0 ∨ ∃ b off, A = some ⟨b, off, none⟩ ∧ TermsIn w b off ys) (hbig : n + m ≤ 4194304) (hbase : base ≤ w.heap.size) :
    ∃ a' c' w', (Builtin.append_ #[22, 22] ty #[v, .slice A m c]).run Tryz.prog w = .ok (.slice a' (n + m) c') w' ∧ OwnT w' base (.slice a' (n + m) c') (xs ++ ys) ∧ w.grownBy w' v.ownBlock ∧
      ((Value.slice a' (n + m) c').ownBlock = v.ownBlock ∨ (Value.slice a' (n + m) c').ownBlock = some w.heap.size) := by
  obtain ⟨i0, hi0, hi1, hi2, hi3⟩ := info_parts info_term
  subst hn hm
  have hform : ∀ (W : World) (u : Value) (zs : List Tm), OwnT W base u zs → ∃ a' c', u = .slice a' zs.length c' := fun W u zs h => by
    obtain ⟨a', c', h1, _, _⟩ := h.newRow
    exact ⟨a', c', h1⟩
  rcases A with _ | ad
  · have h0 : ys = [] := by
      rcases hsrc with h | ⟨b, off, h, _⟩
      · exact List.eq_nil_of_length_eq_zero h
      · cases h
    subst h0
    obtain ⟨a', c', rfl⟩ := hform _ _ _ hown
    refine ⟨a', c', w, ?_, by simpa using hown, World.grownBy.refl w _, .inl rfl⟩
    rcases hown.2 with ⟨h1, h2⟩ | ⟨g, cap, cur, h1, _, _, hnc, _⟩
    · injection h1 with e1 e2 e3
      subst e1 e3
      simp [Builtin.append_, run_underlying Tryz.underlying22, sizeOf, typeInfo, hi0, Builtin.lenOf, Builtin.firstCells, h2]
    · injection h1 with e1 e2 e3
      subst e1 e3
      simp [Builtin.append_, run_underlying Tryz.underlying22, sizeOf, typeInfo, hi0, Builtin.lenOf, Builtin.firstCells, hnc, storeCells]
  · have hnews : ∀ j u, (cellsT ys)[j]? = some u → w.cell? (ad.add j) = some u := fun j u hu => by
      rcases hsrc with h | ⟨b, off, h, ht⟩
      · have e : ys = [] := List.eq_nil_of_length_eq_zero h
        subst e
        simp [cellsT] at hu
      · cases h
        exact terms_news ht j u hu
    obtain ⟨v', w', hr, h2, h3, _, h5⟩ := run_append_own_at (P := Tryz.prog) w base 22 ty 46 i0 _ 3 32 Tryz.underlying22 hi0 hi1 hi2 hi3 rfl (by omega) v xs.length (cellsT xs) hown ad ys.length c (cellsT ys) (cellsT_length ys) hnews (cellsT_oneCell ys) (by unfold maxLen; omega) (by omega) hbase
    have hO : OwnT w' base v' (xs ++ ys) := by
      unfold OwnT
      rw [List.length_append, cellsT_append]
      exact h2
    obtain ⟨a', c', rfl⟩ := hform _ _ _ hO
    rw [List.length_append] at hr hO h5
    exact ⟨a', c', w', hr, hO, h3, h5⟩

theorem wpList_append_terms {ops : Array Oper} {rest : List Oper} {o : Oper} {a : Act} {w : World} {Q : Exit → Act → World → Prop} (hgd : o.guard = none) (s x : Operand)
    (ho : o.op = .call { callee := .builtin .append, args := #[s, x], argTypes := #[22, 22] })
    (base : Nat) (v : Value) (n : Nat) (xs ys : List Tm) (hs : a.eval s = v) (hn : n = xs.length) (hown : OwnT w base v xs) (A : Option Addr) (m c : Nat) (hx : a.eval x = .slice A m c) (hm : m = ys.length)
    (hsrc : m = 0 ∨ ∃ b off, A = some ⟨b, off, none⟩ ∧ TermsIn w b off ys) (hbig : n + m ≤ 4194304) (hbase : base ≤ w.heap.size)
    (h : ∀ a' c' w', OwnT w' base (.slice a' (n + m) c') (xs ++ ys) → w.grownBy w' v.ownBlock → ((Value.slice a' (n + m) c').ownBlock = v.ownBlock ∨ (Value.slice a' (n + m) c').ownBlock = some w.heap.size) → wpList Tryz.prog ops Q rest (a.put o.dst (.slice a' (n + m) c')) w') :
    wpList Tryz.prog ops Q (o :: rest) a w := by
  refine wpList_plain hgd fun K hK => ?_
  obtain ⟨a', c', w', hr, h2, h3, h4⟩ := run_append_terms w o.type base v n xs ys hn hown A m c hm hsrc hbig hbase
  unfold Oper.wp execOp
  simp only [ho, resolve, invoke, builtin, Sem.run_bind, Sem.run_pure, Result.andThen_ok, List.map_toArray, List.map_cons, List.map_nil, hs, hx, hr]
  exact hK _ _ (h a' c' w' h2 h3 h4)

theorem terms_one (w : World) (t : Tm) : TermsIn (w.alloc (.cells #[.string t.s, .int .i64 t.n, .int .i64 t.d] 46)) w.heap.size 0 [t] := fun i hi => by
  have h0 : i = 0 := by simpa using hi
  subst h0
  simp [go_sem]

/-- what putting a term comes to -/
def PutPost (r : Option (List Tm)) (W : World) (e : Ending) (w' : World) : Prop :=
  match r with
  | none => e = .returned (.tuple #[.slice none 0 0, .bool false]) ∧ Below W.heap.size W w'
  | some ts' => ∃ (a : Option Addr) (cap : Nat), e = .returned (.tuple #[.slice a ts'.length cap, .bool true]) ∧ ts'.length ≤ cap ∧ Below W.heap.size W w' ∧ NewRow W.heap.size w'.heap.size w' a ts'

theorem Row.drop {w : World} {a : Option Addr} {ts : List Tm} (h : Row w a ts) {k n c : Nat} (hn : n = ts.length) (hk : k ≤ n) (hc : n ≤ c) (A : Option Addr) (hA : ¬ c = k → A = a.map (·.add (k * 3))) :
    n - k = 0 ∨ ∃ b off, A = some ⟨b, off, none⟩ ∧ TermsIn w b off (ts.drop k) := by
  by_cases h0 : n - k = 0
  · exact .inl h0
  · rcases h with h | ⟨b, off, h1, h2, h3⟩
    · rw [h] at hn; simp at hn; omega
    · refine .inr ⟨b, off + k * 3, ?_, ?_⟩
      · rw [hA (by omega), h1]; simp [add_at]
      · have := cut_terms (i := k) (n := ts.length - k) h3 (by omega)
        rwa [List.take_of_length_le (by rw [List.length_drop]; omega)] at this
theorem Row.take {w : World} {a : Option Addr} {ts : List Tm} (h : Row w a ts) {k n : Nat} (hn : n = ts.length) (hk : k ≤ n) : k = 0 ∨ ∃ b off, a = some ⟨b, off, none⟩ ∧ TermsIn w b off (ts.take k) := by
  by_cases h0 : k = 0
  · exact .inl h0
  · rcases h with h | ⟨b, off, h1, h2, h3⟩
    · rw [h] at hn; simp at hn; omega
    · exact .inr ⟨b, off, h1, by have := cut_terms (i := 0) (n := k) h3 (by omega); rwa [List.drop_zero, Nat.zero_mul, Nat.add_zero] at this⟩

theorem str_eq_same (a : ByteArray) : (a.toList == a.toList) = true := by simp
theorem str_eq_other {a b : ByteArray} (h : a ≠ b) : (a.toList == b.toList) = false := by
  simp only [beq_eq_false_iff_ne, ne_eq, ByteArray.toList_eq]
  exact fun e => h (data_eq e)
theorem put_done {r : Option (List Tm)} {ts' : List Tm} {W w9 : World} {a9 : Option Addr} {m9 c9 : Nat} (hr : r = some ts') (hO : OwnT w9 (W.heap.size + 1) (.slice a9 m9 c9) ts') (hm : m9 = ts'.length) (hb : Below W.heap.size W w9) :
    PutPost r W (.returned (.tuple #[.slice a9 m9 c9, .bool true])) w9 := by
  subst hr hm
  obtain ⟨a', c', he, hle, hN⟩ := hO.newRow
  injection he with e1 e2 e3
  subst e1 e3
  exact ⟨a9, c9, rfl, hle, hb, hN.mono (by omega) (Nat.le_refl _)⟩
theorem Row.src {w : World} {a : Option Addr} {ts : List Tm} {n : Nat} (h : Row w a ts) (hn : n = ts.length) : n = 0 ∨ ∃ b off, a = some ⟨b, off, none⟩ ∧ TermsIn w b off ts := by
  rcases h with h | ⟨b, off, h1, h2, h3⟩
  · exact .inl (by rw [hn, h]; rfl)
  · exact .inr ⟨b, off, h1, h3⟩
theorem drop_in {w : World} {b off k : Nat} {ts : List Tm} (h : TermsIn w b off ts) (hk : k ≤ ts.length) : TermsIn w b (off + k * 3) (ts.drop k) := by
  have h2 := cut_terms (i := k) (n := ts.length - k) h (by omega)
  rwa [List.take_of_length_le (by rw [List.length_drop]; omega)] at h2
theorem own_grown {B : Nat} {w w' : World} {v : Value} {ts : List Tm} (hO : OwnT w B v ts) (hg : w.grownBy w' v.ownBlock) (hB : B ≤ w.heap.size) : Below B w w' := below_of_grown hg (fun g h => (hO.lt g h).1) hB

theorem put_none {r : Option (List Tm)} {W w9 : World} (hr : r = none) (hb : Below W.heap.size W w9) : PutPost r W (.returned (.tuple #[.slice none 0 0, .bool false])) w9 := by
  subst hr
  exact ⟨rfl, hb⟩
/-- where the sum's variable stands, whatever the order -/
def PlusCut (w1 : World) (N D : Int) (ok : Bool) (v10 v11 : Value) (wy : World) : Prop :=
  ∃ g, v10 = .pointer (some ⟨g, 0, none⟩) ∧ v11 = .bool ok ∧ w1.heap.size ≤ g ∧ g < wy.heap.size ∧ Below w1.heap.size w1 wy ∧ wy.cell? ⟨g, 0, none⟩ = some (.int .i64 N) ∧ wy.cell? ⟨g, 1, none⟩ = some (.int .i64 D)
def PutRel (ts : List Tm) (u : Tm) (n : Nat) (w : World) (vi : Value) (wr : World) : Prop :=
  ∃ k : Nat, k ≤ n ∧ vi = .int .i64 k ∧ (∀ j (h : j < ts.length), j < k → lessT ts[j] u = true) ∧ Below (w.heap.size + 1) (w.alloc (.cells #[.int .i64 u.n, .int .i64 u.d] 44)) wr

set_option maxRecDepth 100000 in
set_option maxHeartbeats 8000000 in
theorem l01Put_c (a : Option Addr) (n c : Nat) (ts : List Tm) (hn : n = ts.length) (s : ByteArray) (x d : Int) (hx : x.natAbs ≤ 1000000000 ∧ d.natAbs ≤ 1000000000) (hts : ∀ t ∈ ts, t.n.natAbs ≤ 1000000000 ∧ t.d.natAbs ≤ 1000000000) (hl : n ≤ 2097152) (hcap : n ≤ c) (w : World) (hr : Row w a ts) :
    Calls Tryz.prog 38 #[.slice a n c, .string s, .agg #[.int .i64 x, .int .i64 d]] w (PutPost (putL ts ⟨s, x, d⟩) w) := by
  have HR := Lib.hid hr
  have HTs := Lib.hid hts
  have HN := Lib.hid hn
  have hx1 := hx.1
  have hx2 := hx.2
  clear hr hts hn hx
  have hnI : (0 : Int) ≤ (n : Int) := by omega
  go_enter Tryz.func38, Tryz.ntmps38
  go_wp2_with fail
  go_loopw [8] (PutRel ts ⟨s, x, d⟩ n w) (fun vi _ => n - (intOf vi).toNat)
  case atStart => exact ⟨0, Nat.zero_le _, rfl, fun j _ h => absurd h (Nat.not_lt_zero _), Below.refl _ _⟩
  case round =>
    obtain ⟨k, hk, rfl, hless, hB⟩ := hrel
    have HL := Lib.hid hless
    have HB := Lib.hid hB
    clear hless hB
    have hz := HB.out.size
    simp only [World.size_alloc] at hz
    by_cases hlt : k < n
    · rcases HR.out with h | ⟨b, off, rfl, hb, ht⟩
      · have := HN.out; rw [h] at this; simp at this; omega
      have hlt2 : k < ts.length := by have := HN.out; omega
      have HT := Lib.hid ht
      obtain ⟨c0, c1, c2⟩ := (ht.below ((below1 w _).trans (HB.out.mono (Nat.le_succ _))) hb) k hlt2
      obtain ⟨s1, n1, d1, het⟩ : ∃ s1 n1 d1, ts[k] = ⟨s1, n1, d1⟩ := ⟨_, _, _, rfl⟩
      rw [het] at c0 c1 c2
      simp only at c0 c1 c2
      have HE := Lib.hid het
      clear het ht
      cases hls : lessL s1.data.toList s.data.toList with
      | true =>
        have HLn : Hid (∀ j (h : j < ts.length), j < k + 1 → lessT ts[j] ⟨s, x, d⟩ = true) := Lib.hid (fun j hj hjk => by
          by_cases e : j = k
          · subst e; rw [HE.out]; exact hls
          · exact HL.out j hj (by omega))
        have HLs := Lib.hid hls
        clear hls
        go_wp2_with (go_at_call 50; refine (l01Before_c _ _ _).mono ?_; rw [HLs.out]; rintro e w' ⟨rfl, rfl⟩)
        go_roundw
        case rel => exact ⟨k + 1, by omega, by go_num, HLn.out, HB.out⟩
        case measure => simp [intOf]; omega
      | false =>
        have HP := Lib.hid (putL_at ts ⟨s, x, d⟩ k (by omega) HL.out (fun t h => by
          rw [List.getElem?_eq_getElem hlt2, HE.out] at h
          cases h
          exact hls))
        have HLs := Lib.hid hls
        clear hls
        have hkI : (0 : Int) ≤ (k : Int) := by omega
        have hkN : (k : Int) ≤ (c : Int) := by omega
        go_wp2_with (first | (go_at_call 50; refine (l01Before_c _ _ _).mono ?_; rw [HLs.out]; rintro e w' ⟨rfl, hw⟩; have hw2 := hw.symm; clear hw; subst hw2) | (at_builtin; (refine wpList_append_terms rfl _ _ rfl (w.heap.size + 1) _ 0 [] (ts.take k) rfl rfl (OwnT.emptyRow (Blk.new wr _ #[]) (by omega)) _ k c rfl (by rw [List.length_take]; omega) ?_ (by omega) (by simp; omega) ?_)))
        · exact ((HR.out.below ((below1 w _).trans (HB.out.mono (Nat.le_succ _)))).below (below1 _ _)).take HN.out (by omega)
        intro a1 q1 w1 hO1 hG1 hloc1
        have HB1 := Lib.hid (HB.out.trans (((below1 wr (.cells #[] 46)).trans (below_of_grown hG1 (fun g h => by simp [Value.ownBlock] at h; omega) (by simp))).mono (by omega)))
        have HO1 := Lib.hid hO1
        have hz1 := HB1.out.size
        simp only [World.size_alloc] at hz1
        obtain ⟨hc, hf⟩ := bcellB HB1.out
        have x0 : w1.cell? ⟨w.heap.size, 0, none⟩ = some (.int .i64 x) := (hc _ _ (by omega)).trans (by go_simp)
        have x1 : w1.cell? ⟨w.heap.size, 1, none⟩ = some (.int .i64 d) := (hc _ _ (by omega)).trans (by go_simp)
        have z0 : w1.frozen? ⟨w.heap.size, 0, none⟩ = false := (hf _ _ (by omega)).trans (by go_simp)
        have z1 : w1.frozen? ⟨w.heap.size, 1, none⟩ = false := (hf _ _ (by omega)).trans (by go_simp)
        have HW1 := Lib.hid ((below1 w _).trans (HB1.out.mono (Nat.le_succ _)))
        obtain ⟨d0, d1', d2'⟩ := (HT.out.below HW1.out hb) k hlt2
        rw [HE.out] at d0 d1' d2'
        simp only at d0 d1' d2'
        clear c0 c1 c2 hO1 hG1 hloc1 hc hf
        have hdrop : ts.drop k = ⟨s1, n1, d1⟩ :: ts.drop (k + 1) := by rw [List.drop_eq_getElem_cons hlt2, HE.out]
        have HD := Lib.hid hdrop
        clear hdrop
        by_cases hse : s1 = s
        · subst hse
          have hst := str_eq_same s1
          have hbl : b < w1.heap.size := by omega
          have hwl : w.heap.size < w1.heap.size := by omega
          have hbd := HTs.out _ (List.getElem_mem hlt2)
          rw [HE.out] at hbd
          simp only at hbd
          go_upto_region 6 with fail
          go_cut [10, 11] (PlusCut w1 (fN (n1 * d + x * d1) (d1 * d)) (fD (n1 * d + x * d1) (d1 * d)) (fOk (n1 * d + x * d1) (d1 * d)))
          case first =>
            go_region_held3 (fun w' => w'.cell? ⟨b, off + k * 3 + 1, none⟩ = some (.int .i64 n1) ∧ w'.cell? ⟨b, off + k * 3 + 2, none⟩ = some (.int .i64 d1) ∧ w'.cell? ⟨w.heap.size, 0, none⟩ = some (.int .i64 x) ∧ w'.cell? ⟨w.heap.size, 1, none⟩ = some (.int .i64 d))
              (first | exact ⟨f0, f1, f2, f3⟩ | (rw [far_pair hbl, far_pair hbl, far_pair hwl, far_pair hwl]; exact ⟨f0, f1, f2, f3⟩) | go_keep)
              (first
                | (go_at_call 51; refine (l01Plus_c n1 d1 x d hbd.1 hbd.2 hx1 hx2 w1.drew).mono ?_; rintro e w2 ⟨rfl, hb0⟩; have hb2 : Below w1.heap.size w1 w2 := ⟨hb0.os, hb0.tape, hb0.output, hb0.size, hb0.block⟩; have f0 := (hb2.cell (p := ⟨b, off + k * 3 + 1, none⟩) (by show b < _; omega)).trans d1'; have f1 := (hb2.cell (p := ⟨b, off + k * 3 + 2, none⟩) (by show b < _; omega)).trans d2'; have f2 := (hb2.cell (p := ⟨w.heap.size, 0, none⟩) (by show w.heap.size < _; omega)).trans x0; have f3 := (hb2.cell (p := ⟨w.heap.size, 1, none⟩) (by show w.heap.size < _; omega)).trans x1)
                | (go_at_call 51; refine (l01Plus_c n1 d1 x d hbd.1 hbd.2 hx1 hx2 (w1.alloc (.cells #[.int .i64 0, .int .i64 0] 44)).drew).mono ?_; rintro e w2 ⟨rfl, hb0⟩; have hb2 : Below w1.heap.size w1 w2 := (below1 w1 (.cells #[.int .i64 0, .int .i64 0] 44)).trans ⟨hb0.os, hb0.tape, hb0.output, hb0.size, fun j hj => hb0.block j (by simp; omega)⟩; have g0 : w2.cell? ⟨w1.heap.size, 0, none⟩ = some (.int .i64 0) := (hb0.cell (p := ⟨w1.heap.size, 0, none⟩) (by simp)).trans (by go_simp); have g1 : w2.cell? ⟨w1.heap.size, 1, none⟩ = some (.int .i64 0) := (hb0.cell (p := ⟨w1.heap.size, 1, none⟩) (by simp)).trans (by go_simp); have z2 : w2.frozen? ⟨w1.heap.size, 0, none⟩ = false := (hb0.frozen (p := ⟨w1.heap.size, 0, none⟩) (by simp)).trans (by go_simp); have z3 : w2.frozen? ⟨w1.heap.size, 1, none⟩ = false := (hb0.frozen (p := ⟨w1.heap.size, 1, none⟩) (by simp)).trans (by go_simp); have f0 := (hb2.cell (p := ⟨b, off + k * 3 + 1, none⟩) (by show b < _; omega)).trans d1'; have f1 := (hb2.cell (p := ⟨b, off + k * 3 + 2, none⟩) (by show b < _; omega)).trans d2'; have f2 := (hb2.cell (p := ⟨w.heap.size, 0, none⟩) (by show w.heap.size < _; omega)).trans x0; have f3 := (hb2.cell (p := ⟨w.heap.size, 1, none⟩) (by show w.heap.size < _; omega)).trans x1))
            all_goals (go_wp2_with fail; go_meet)
            · exact ⟨w2.heap.size, rfl, rfl, hb2.size, by simp, hb2.alloc hb2.size _, by go_simp, by go_simp⟩
            · have hp := pair_stored (x := .int .i64 (fN (n1 * d + x * d1) (d1 * d))) (y := .int .i64 (fD (n1 * d + x * d1) (d1 * d))) g0 g1
              have hz2 : w1.heap.size < w2.heap.size := by have := hb0.size; simp at this; omega
              exact ⟨w1.heap.size, rfl, rfl, Nat.le_refl _, by simpa using hz2, (hb2.setCell (p := ⟨w1.heap.size, 0, none⟩) (Nat.le_refl _) _).setCell (p := ⟨w1.heap.size, 1, none⟩) (Nat.le_refl _) _, hp.1, hp.2⟩
          case rest =>
            obtain ⟨g, rfl, rfl, hg1, hg2, hbc, g0, g1⟩ := hcut
            obtain ⟨w3, rfl⟩ : ∃ w3 : World, w3 = wc := ⟨_, rfl⟩
            have HB3 := Lib.hid (HB1.out.trans (hbc.mono (by omega)))
            have HO3 := Lib.hid (HO1.out.below hbc (fun g h => (HO1.out.lt g h).2))
            have HW3 := Lib.hid (HW1.out.trans (hbc.mono HW1.out.size))
            have hz3 := hbc.size
            obtain ⟨hc, hf⟩ := bcellB HB3.out
            have y0 : w3.cell? ⟨w.heap.size, 0, none⟩ = some (.int .i64 x) := (hc _ _ (by omega)).trans (by go_simp)
            have y1 : w3.cell? ⟨w.heap.size, 1, none⟩ = some (.int .i64 d) := (hc _ _ (by omega)).trans (by go_simp)
            have u0 : w3.frozen? ⟨w.heap.size, 0, none⟩ = false := (hf _ _ (by omega)).trans (by go_simp)
            have u1 : w3.frozen? ⟨w.heap.size, 1, none⟩ = false := (hf _ _ (by omega)).trans (by go_simp)
            clear x0 x1 z0 z1 d0 d1' d2' hbc hc hf
            cases hok : fOk (n1 * d + x * d1) (d1 * d) with
            | false =>
              have HC : Hid (putL ts ⟨s1, x, d⟩ = none) := Lib.hid (by rw [HP.out, HD.out]; simp [putHere, sumOk, sumN, sumD, hok])
              clear hok
              go_wp2
              go_ret2
              exact put_none HC.out HW3.out
            | true =>
              have HC0 : Hid (putL ts ⟨s1, x, d⟩ = some (ts.take k ++ conT ⟨s1, fN (n1 * d + x * d1) (d1 * d), fD (n1 * d + x * d1) (d1 * d)⟩ (ts.drop (k + 1)))) := Lib.hid (by rw [HP.out, HD.out]; simp [putHere, sumOk, sumN, sumD, hok, sumT])
              clear hok
              generalize fN (n1 * d + x * d1) (d1 * d) = N at *
              generalize fD (n1 * d + x * d1) (d1 * d) = D at *
              have hkc : (k : Int) + 1 ≤ (c : Int) := by omega
              have HO4 := Lib.hid ((HO3.out.far (p := ⟨w.heap.size, 0, none⟩) (own_far HO3.out (n := w.heap.size) (by omega)) (.int .i64 N)).far (p := ⟨w.heap.size, 1, none⟩) (own_far HO3.out (n := w.heap.size) (by omega)) (.int .i64 D))
              have HW4 := Lib.hid ((HW3.out.setCell (p := ⟨w.heap.size, 0, none⟩) (Nat.le_refl _) (.int .i64 N)).setCell (p := ⟨w.heap.size, 1, none⟩) (Nat.le_refl _) (.int .i64 D))
              have v01 := pair_stored (x := .int .i64 N) (y := .int .i64 D) y0 y1
              have v0 := v01.1
              have v1 := v01.2
              clear v01
              by_cases hN0 : N = 0
              · have hxz : (N == 0) = true := by simpa using hN0
                have HC : Hid (putL ts ⟨s1, x, d⟩ = some (ts.take k ++ ts.drop (k + 1))) := Lib.hid (by rw [HC0.out]; simp [conT, hN0])
                clear hN0
                go_wp2_with fail
                refine (l01Zero_c _ _ _).mono ?_
                rw [hxz]
                rintro e w5 ⟨rfl, hb5⟩
                have HO5 := Lib.hid (HO4.out.below hb5 (fun g h => (HO4.out.lt g h).2))
                have HW5 := Lib.hid (HW4.out.trans (hb5.mono HW4.out.size))
                have hz5 : w3.heap.size ≤ w5.heap.size := by have := hb5.size; simp at this; omega
                clear v0 v1 y0 y1 u0 u1 hb5 g0 g1
                go_wp2_with (at_builtin; (refine wpList_append_terms rfl _ _ rfl (w.heap.size + 1) (.slice a1 k q1) k (ts.take k) (ts.drop (k + 1)) rfl (by rw [List.length_take]; omega) HO5.out _ (n - (k + 1)) _ rfl (by rw [List.length_drop, HN.out]) ?_ (by omega) (by omega) ?_))
                all_goals
                  first
                    | exact .inl (by omega)
                    | exact .inr ⟨b, off + (k + 1) * 3, ⟨rfl, rfl⟩, drop_in (HT.out.below HW5.out hb) (by omega)⟩
                    | exact .inr ⟨b, off + (k + 1) * 3, rfl, drop_in (HT.out.below HW5.out hb) (by omega)⟩
                    | skip
                all_goals
                      intro a9 q9 w9 hO9 hG9 _
                      have HB9 := Lib.hid (HW5.out.trans ((own_grown HO5.out hG9 (by omega)).mono (by omega)))
                      have HO9 := Lib.hid hO9
                      clear hO9 hG9
                      go_wp2
                      go_ret2
                      exact put_done HC.out HO9.out (by have := HN.out; rw [List.length_append, List.length_take, List.length_drop]; omega) HB9.out
              · have hxz : (N == 0) = false := by simpa using hN0
                have HC : Hid (putL ts ⟨s1, x, d⟩ = some (ts.take k ++ ⟨s1, N, D⟩ :: ts.drop (k + 1))) := Lib.hid (by rw [HC0.out]; simp [conT, hN0])
                clear hN0
                go_wp2_with fail
                refine (l01Zero_c _ _ _).mono ?_
                rw [hxz]
                rintro e w5 ⟨rfl, hb5⟩
                have HO5 := Lib.hid (HO4.out.below hb5 (fun g h => (HO4.out.lt g h).2))
                have HW5 := Lib.hid (HW4.out.trans (hb5.mono HW4.out.size))
                have hz5 : w3.heap.size ≤ w5.heap.size := by have := hb5.size; simp at this; omega
                have t0 : w5.cell? ⟨w.heap.size, 0, none⟩ = some (.int .i64 N) := (hb5.cell (p := ⟨w.heap.size, 0, none⟩) (by simp; omega)).trans v0
                have t1 : w5.cell? ⟨w.heap.size, 1, none⟩ = some (.int .i64 D) := (hb5.cell (p := ⟨w.heap.size, 1, none⟩) (by simp; omega)).trans v1
                clear v0 v1 y0 y1 u0 u1 hb5 g0 g1
                go_wp2_with (at_builtin; refine wpList_append_terms rfl _ _ rfl (w.heap.size + 1) (.slice a1 k q1) k (ts.take k) [⟨s1, N, D⟩] rfl (by rw [List.length_take]; omega) (HO5.out.alloc _) _ 1 _ rfl rfl (.inr ⟨_, 0, rfl, terms_one w5 ⟨s1, N, D⟩⟩) (by omega) (by simp; omega) ?_)
                intro a6 q6 w6 hO6 hG6 _
                have HW6 := Lib.hid (HW5.out.trans (((below1 w5 (.cells #[.string s1, .int .i64 N, .int .i64 D] 46)).mono (by omega)).trans ((own_grown (HO5.out.alloc _) hG6 (by simp; omega)).mono (by omega))))
                have HO6 := Lib.hid hO6
                have hz6 : w5.heap.size ≤ w6.heap.size := by have := hG6.size; simp at this; omega
                clear hO6 hG6 t0 t1
                go_wp2_with (at_builtin; (refine wpList_append_terms rfl _ _ rfl (w.heap.size + 1) (.slice a6 (k + 1) q6) (k + 1) (ts.take k ++ [⟨s1, N, D⟩]) (ts.drop (k + 1)) rfl (by rw [List.length_append, List.length_take, List.length_singleton]; omega) HO6.out _ (n - (k + 1)) _ rfl (by rw [List.length_drop, HN.out]) ?_ (by omega) (by omega) ?_))
                all_goals
                  first
                    | exact .inl (by omega)
                    | exact .inr ⟨b, off + (k + 1) * 3, ⟨rfl, rfl⟩, drop_in (HT.out.below HW6.out hb) (by omega)⟩
                    | exact .inr ⟨b, off + (k + 1) * 3, rfl, drop_in (HT.out.below HW6.out hb) (by omega)⟩
                    | skip
                all_goals
                      intro a9 q9 w9 hO9 hG9 _
                      have HB9 := Lib.hid (HW6.out.trans ((own_grown HO6.out hG9 (by omega)).mono (by omega)))
                      have HO9 := Lib.hid hO9
                      clear hO9 hG9
                      go_wp2
                      go_ret2
                      exact put_done HC.out HO9.out (by have := HN.out; rw [List.length_append, List.length_cons, List.length_take, List.length_drop]; omega) HB9.out
        · have hsf := str_eq_other hse
          have HR2 : Hid (putL ts ⟨s, x, d⟩ = some (ts.take k ++ conT ⟨s, x, d⟩ (ts.drop k))) := Lib.hid (by rw [HP.out, HD.out]; simp [putHere, hse])
          clear hse
          by_cases hx0 : x = 0
          · have hxz : (x == 0) = true := by simpa using hx0
            have HC : Hid (putL ts ⟨s, x, d⟩ = some ts) := Lib.hid (by rw [HR2.out]; simp [conT, hx0])
            clear hx0
            go_wp2_with fail
            refine (l01Zero_c _ _ _).mono ?_
            rw [hxz]
            rintro e w2 ⟨rfl, hb2⟩
            have HB2 := Lib.hid (HB1.out.trans (hb2.mono (by omega)))
            have HO2 := Lib.hid (HO1.out.below hb2 (fun g h => (HO1.out.lt g h).2))
            have hz2 := hb2.size
            have HW2 := Lib.hid (HW1.out.trans (hb2.mono HW1.out.size))
            clear x0 x1 z0 z1 d0 d1' d2' hb2
            go_wp2_with (at_builtin; refine wpList_append_terms rfl _ _ rfl (w.heap.size + 1) (.slice a1 k q1) k (ts.take k) (ts.drop k) rfl (by rw [List.length_take]; omega) HO2.out _ (n - k) _ rfl (by rw [List.length_drop, HN.out]) ?_ (by omega) (by omega) ?_)
            · exact .inr ⟨b, off + k * 3, rfl, drop_in (HT.out.below HW2.out hb) (by omega)⟩
            intro a9 q9 w9 hO9 hG9 _
            have HB9 := Lib.hid (HW2.out.trans ((own_grown HO2.out hG9 (by omega)).mono (by omega)))
            have HO9 := Lib.hid hO9
            clear hO9 hG9
            go_wp2
            go_ret2
            exact put_done HC.out HO9.out HN.out HB9.out
          · have hxz : (x == 0) = false := by simpa using hx0
            have HC : Hid (putL ts ⟨s, x, d⟩ = some (ts.take k ++ ⟨s, x, d⟩ :: ts.drop k)) := Lib.hid (by rw [HR2.out]; simp [conT, hx0])
            clear hx0
            go_wp2_with fail
            refine (l01Zero_c _ _ _).mono ?_
            rw [hxz]
            rintro e w2 ⟨rfl, hb2⟩
            have HB2 := Lib.hid (HB1.out.trans (hb2.mono (by omega)))
            have HO2 := Lib.hid (HO1.out.below hb2 (fun g h => (HO1.out.lt g h).2))
            have hz2 := hb2.size
            have HW2 := Lib.hid (HW1.out.trans (hb2.mono HW1.out.size))
            obtain ⟨hc, hf⟩ := bcellB HB2.out
            have y0 : w2.cell? ⟨w.heap.size, 0, none⟩ = some (.int .i64 x) := (hc _ _ (by omega)).trans (by go_simp)
            have y1 : w2.cell? ⟨w.heap.size, 1, none⟩ = some (.int .i64 d) := (hc _ _ (by omega)).trans (by go_simp)
            clear x0 x1 z0 z1 d0 d1' d2' hb2 hc hf
            go_wp2_with (at_builtin; refine wpList_append_terms rfl _ _ rfl (w.heap.size + 1) (.slice a1 k q1) k (ts.take k) [⟨s, x, d⟩] rfl (by rw [List.length_take]; omega) (HO2.out.alloc _) _ 1 _ rfl rfl (.inr ⟨_, 0, rfl, terms_one w2 ⟨s, x, d⟩⟩) (by omega) (by simp; omega) ?_)
            intro a3 q3 w3 hO3 hG3 _
            have HB3 := Lib.hid (HB2.out.trans (((below1 w2 (.cells #[.string s, .int .i64 x, .int .i64 d] 46)).mono (by omega)).trans (own_grown (HO2.out.alloc _) hG3 (by simp; omega))))
            have HO3 := Lib.hid hO3
            have hz3 := HB3.out.size
            simp only [World.size_alloc] at hz3
            have HW3 := Lib.hid ((below1 w _).trans (HB3.out.mono (Nat.le_succ _)))
            clear hO3 hG3 y0 y1
            go_wp2_with (at_builtin; (refine wpList_append_terms rfl _ _ rfl (w.heap.size + 1) (.slice a3 (k + 1) q3) (k + 1) (ts.take k ++ [⟨s, x, d⟩]) (ts.drop k) rfl (by rw [List.length_append, List.length_take, List.length_singleton]; omega) HO3.out _ (n - k) _ rfl (by rw [List.length_drop, HN.out]) ?_ (by omega) (by omega) ?_))
            · exact .inr ⟨b, off + k * 3, rfl, drop_in (HT.out.below HW3.out hb) (by omega)⟩
            intro a9 q9 w9 hO9 hG9 _
            have HB9 := Lib.hid (HW3.out.trans ((own_grown HO3.out hG9 (by omega)).mono (by omega)))
            have HO9 := Lib.hid hO9
            clear hO9 hG9
            go_wp2
            go_ret2
            exact put_done HC.out HO9.out (by have := HN.out; rw [List.length_append, List.length_cons, List.length_take, List.length_drop]; omega) HB9.out
    · obtain rfl : k = n := by omega
      have HP := Lib.hid (putL_at ts ⟨s, x, d⟩ k (by have := HN.out; omega) HL.out (fun t h => by
        rw [List.getElem?_eq_none (by have := HN.out; omega)] at h; cases h))
      have hdr : ts.drop k = [] := List.drop_eq_nil_of_le (by have := HN.out; omega)
      have htk : ts.take k = ts := List.take_of_length_le (by have := HN.out; omega)
      have HR2 : Hid (putL ts ⟨s, x, d⟩ = some (ts ++ conT ⟨s, x, d⟩ [])) := Lib.hid (by rw [HP.out, hdr, htk]; rfl)
      clear hdr htk
      have hkI : (0 : Int) ≤ (k : Int) := by omega
      have hkN : (k : Int) ≤ (c : Int) := by omega
      go_wp2_with (at_builtin; refine wpList_append_terms rfl _ _ rfl (w.heap.size + 1) _ 0 [] ts rfl rfl (OwnT.emptyRow (Blk.new wr _ #[]) (by omega)) _ k c rfl HN.out ?_ (by omega) (by simp; omega) ?_)
      · exact ((HR.out.below ((below1 w _).trans (HB.out.mono (Nat.le_succ _)))).below (below1 _ _)).src HN.out
      intro a1 q1 w1 hO1 hG1 hloc1
      have HB1 := Lib.hid (HB.out.trans (((below1 wr (.cells #[] 46)).trans (below_of_grown hG1 (fun g h => by simp [Value.ownBlock] at h; omega) (by simp))).mono (by omega)))
      have HO1 := Lib.hid hO1
      have hz1 := HB1.out.size
      simp only [World.size_alloc] at hz1
      obtain ⟨hc, hf⟩ := bcellB HB1.out
      have x0 : w1.cell? ⟨w.heap.size, 0, none⟩ = some (.int .i64 x) := (hc _ _ (by omega)).trans (by go_simp)
      have x1 : w1.cell? ⟨w.heap.size, 1, none⟩ = some (.int .i64 d) := (hc _ _ (by omega)).trans (by go_simp)
      have HW1 := Lib.hid ((below1 w _).trans (HB1.out.mono (Nat.le_succ _)))
      clear hO1 hG1 hloc1 hc hf
      by_cases hx0 : x = 0
      · have hxz : (x == 0) = true := by simpa using hx0
        have HC : Hid (putL ts ⟨s, x, d⟩ = some ts) := Lib.hid (by rw [HR2.out]; simp [conT, hx0])
        clear hx0
        go_wp2_with fail
        refine (l01Zero_c _ _ _).mono ?_
        rw [hxz]
        rintro e w2 ⟨rfl, hb2⟩
        have HO2 := Lib.hid (HO1.out.below hb2 (fun g h => (HO1.out.lt g h).2))
        have hz2 := hb2.size
        have HW2 := Lib.hid (HW1.out.trans (hb2.mono HW1.out.size))
        clear x0 x1 hb2
        go_wp2_with (at_builtin; refine wpList_append_terms rfl _ _ rfl (w.heap.size + 1) (.slice a1 k q1) k ts [] rfl HN.out HO2.out _ 0 _ rfl rfl (.inl rfl) (by omega) (by omega) ?_)
        all_goals
          intro a9 q9 w9 hO9 hG9 _
          have HB9 := Lib.hid (HW2.out.trans ((own_grown HO2.out hG9 (by omega)).mono (by omega)))
          have HO9 := Lib.hid hO9
          clear hO9 hG9
          go_wp2
          go_ret2
          exact put_done HC.out HO9.out HN.out HB9.out
      · have hxz : (x == 0) = false := by simpa using hx0
        have HC : Hid (putL ts ⟨s, x, d⟩ = some (ts ++ [⟨s, x, d⟩])) := Lib.hid (by rw [HR2.out]; simp [conT, hx0])
        clear hx0
        go_wp2_with fail
        refine (l01Zero_c _ _ _).mono ?_
        rw [hxz]
        rintro e w2 ⟨rfl, hb2⟩
        have HB2 := Lib.hid (HB1.out.trans (hb2.mono (by omega)))
        have HO2 := Lib.hid (HO1.out.below hb2 (fun g h => (HO1.out.lt g h).2))
        have hz2 := hb2.size
        obtain ⟨hc, hf⟩ := bcellB HB2.out
        have y0 : w2.cell? ⟨w.heap.size, 0, none⟩ = some (.int .i64 x) := (hc _ _ (by omega)).trans (by go_simp)
        have y1 : w2.cell? ⟨w.heap.size, 1, none⟩ = some (.int .i64 d) := (hc _ _ (by omega)).trans (by go_simp)
        clear x0 x1 hb2 hc hf
        go_wp2_with (at_builtin; refine wpList_append_terms rfl _ _ rfl (w.heap.size + 1) (.slice a1 k q1) k ts [⟨s, x, d⟩] rfl HN.out (HO2.out.alloc _) _ 1 _ rfl rfl (.inr ⟨_, 0, rfl, terms_one w2 ⟨s, x, d⟩⟩) (by omega) (by simp; omega) ?_)
        intro a3 q3 w3 hO3 hG3 _
        have HB3 := Lib.hid (HB2.out.trans (((below1 w2 (.cells #[.string s, .int .i64 x, .int .i64 d] 46)).mono (by omega)).trans (own_grown (HO2.out.alloc _) hG3 (by simp; omega))))
        have HO3 := Lib.hid hO3
        have hz3 := HB3.out.size
        simp only [World.size_alloc] at hz3
        have HW3 := Lib.hid ((below1 w _).trans (HB3.out.mono (Nat.le_succ _)))
        clear hO3 hG3 y0 y1
        go_wp2_with (at_builtin; refine wpList_append_terms rfl _ _ rfl (w.heap.size + 1) (.slice a3 (k + 1) q3) (k + 1) (ts ++ [⟨s, x, d⟩]) [] rfl (by rw [List.length_append, List.length_singleton, ← HN.out]) HO3.out _ 0 _ rfl rfl (.inl rfl) (by omega) (by omega) ?_)
        all_goals
          intro a9 q9 w9 hO9 hG9 _
          have HB9 := Lib.hid (HW3.out.trans ((own_grown HO3.out hG9 (by omega)).mono (by omega)))
          have HO9 := Lib.hid hO9
          clear hO9 hG9
          go_wp2
          go_ret2
          exact put_done HC.out HO9.out (by rw [List.length_append, List.length_singleton, ← HN.out]) HB9.out
end Go.Proofs.YtdgkkcjjfpenpaaGreatDoor

namespace Go.Proofs.YtdgkkcjjfpenpaaGreatDoor
open Go.RowKit

theorem putAll_snoc : ∀ (ts ys : List Tm) (u : Tm), putAll ts (ys ++ [u]) = (putAll ts ys).bind fun r => putL r u
  | ts, [], u => by simp [putAll]
  | ts, y :: ys, u => by
    simp only [List.cons_append, putAll]
    cases putL ts y with
    | none => rfl
    | some r => simpa using putAll_snoc r ys u
theorem putAll_append : ∀ (ts ys zs : List Tm), putAll ts (ys ++ zs) = (putAll ts ys).bind fun r => putAll r zs
  | ts, [], zs => by simp [putAll]
  | ts, y :: ys, zs => by
    simp only [List.cons_append, putAll]
    cases putL ts y with
    | none => rfl
    | some r => simpa using putAll_append r ys zs
theorem putAll_take {ts ys : List Tm} {k : Nat} (hk : k < ys.length) : putAll ts (ys.take (k + 1)) = (putAll ts (ys.take k)).bind fun r => putL r ys[k] := by
  rw [List.take_succ_eq_append_getElem hk, putAll_snoc]
theorem putAll_dead {ts ys : List Tm} (k : Nat) (h : putAll ts (ys.take k) = none) : putAll ts ys = none := by
  have e : ys = ys.take k ++ ys.drop k := (List.take_append_drop k ys).symm
  rw [e, putAll_append, h]; rfl

def bdT (t : Tm) : Prop := t.n.natAbs ≤ 1000000000 ∧ t.d.natAbs ≤ 1000000000
theorem f_bd (n d : Int) : (fN n d).natAbs ≤ 1000000000 ∧ (fD n d).natAbs ≤ 1000000000 := by
  cases h : fOk n d with
  | false => have e := low_no h; rw [e.1, e.2.1]; decide
  | true =>
    have e := low_yes h
    rw [e.1, e.2.1]
    have h2 : lowOk n d = true := by unfold fOk at h; rw [Bool.and_eq_true] at h; exact h.2
    have := isF_abs (show isF (lowN n d) (lowD n d) = true from h2)
    exact ⟨this.1, this.2.1⟩
theorem conT_bd {u : Tm} {r : List Tm} (hu : bdT u) (hr : ∀ t ∈ r, bdT t) : ∀ t ∈ conT u r, bdT t := by
  unfold conT
  split
  · exact hr
  · intro t ht
    rcases List.mem_cons.1 ht with rfl | ht
    · exact hu
    · exact hr t ht
theorem putL_bd : ∀ {ts r : List Tm} {u : Tm}, bdT u → (∀ t ∈ ts, bdT t) → putL ts u = some r → ∀ t ∈ r, bdT t
  | [], r, u, hu, _, h => by
    simp only [putL, putHere, Option.some.injEq] at h
    subst h
    exact conT_bd hu (fun t ht => by cases ht)
  | t :: ts, r, u, hu, hts, h => by
    have h1 := hts t (by simp)
    have h2 : ∀ t ∈ ts, bdT t := fun t' ht => hts t' (by simp [ht])
    simp only [putL] at h
    split at h
    · obtain ⟨r', e, rfl⟩ := Option.map_eq_some_iff.1 h
      intro t' ht'
      rcases List.mem_cons.1 ht' with rfl | ht'
      · exact h1
      · exact putL_bd hu h2 e t' ht'
    · simp only [putHere] at h
      split at h
      · split at h
        · simp only [Option.some.injEq] at h
          subst h
          exact conT_bd (f_bd _ _) h2
        · cases h
      · simp only [Option.some.injEq] at h
        subst h
        exact conT_bd hu hts

def SumPost (L V : Int) (r : Option (List Tm)) (W : World) (e : Ending) (w' : World) : Prop :=
  match r with
  | none => e = .returned (.tuple #[.agg #[.int .i64 0, .int .i64 0, .slice none 0 0], .bool false]) ∧ Below W.heap.size W w'
  | some ts' => ∃ (a : Option Addr) (cap : Nat), e = .returned (.tuple #[.agg #[.int .i64 L, .int .i64 V, .slice a ts'.length cap], .bool true]) ∧ Below W.heap.size W w' ∧ NewRow W.heap.size w'.heap.size w' a ts'
def SumRel (ts ys : List Tm) (B n : Nat) (x y : Value) (W : World) (vi : Value) (wr : World) : Prop :=
  ∃ (k : Nat) (a : Option Addr) (l c : Nat) (xs : List Tm), k ≤ ys.length ∧ vi = .int .i64 k ∧ putAll ts (ys.take k) = some xs ∧ l = xs.length ∧ l ≤ c ∧ NewRow B wr.heap.size wr a xs ∧ Blk wr n 24 #[x, y, .slice a l c] ∧ Below B W wr ∧ (∀ t ∈ xs, bdT t)

theorem NewRow.far1s {lo hi n i : Nat} {w : World} {a : Option Addr} {ts : List Tm} {x : Value} (h : NewRow lo hi w a ts) (hn : n < lo) : NewRow lo hi (w.setCell ⟨n, i, none⟩ x) a ts := by
  rcases h with h | ⟨g, e, h1, h2, h3, h4⟩
  · exact .inl h
  · exact .inr ⟨g, e, h1, h2, h3.set _ _, h4.setCell (by show n ≠ g; omega) _⟩

end Go.Proofs.YtdgkkcjjfpenpaaGreatDoor
