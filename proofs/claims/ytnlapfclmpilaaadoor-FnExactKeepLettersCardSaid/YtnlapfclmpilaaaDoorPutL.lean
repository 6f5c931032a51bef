/-
  The model's way to put a term into a row of terms.
-/
import Derived.Test.YtnlapfclmpilaaaDoorPartOf
import Derived.Test.YtnlapfclmpilaaaDoorSum
namespace Go.Proofs.YtnlapfclmpilaaaDoor
open Go.RowKit

set_option maxRecDepth 100000 in
theorem run_append_terms (w : World) (ty : TypeId) (base : Nat) (v : Value) (n : Nat) (xs ys : List Tm) (hn : n = xs.length) (hown : OwnT w base v xs) (A : Option Addr) (m c : Nat) (hm : m = ys.length)
    (hsrc : m = 0 ∨ ∃ b off, A = some ⟨b, off, none⟩ ∧ TermsIn w b off ys) (hbig : n + m ≤ 4194304) (hbase : base ≤ w.heap.size) :
    ∃ a' c' w', (Builtin.append_ #[26, 26] ty #[v, .slice A m c]).run Tryd.prog w = .ok (.slice a' (n + m) c') w' ∧ OwnT w' base (.slice a' (n + m) c') (xs ++ ys) ∧ w.grownBy w' v.ownBlock ∧
      ((Value.slice a' (n + m) c').ownBlock = v.ownBlock ∨ (Value.slice a' (n + m) c').ownBlock = some w.heap.size) := by
  obtain ⟨i0, hi0, hi1, hi2, hi3⟩ := info_parts info_term
  subst hn hm
  have hform : ∀ (W : World) (u : Value) (zs : List Tm), OwnT W base u zs → ∃ a' c', u = .slice a' zs.length c' := fun W u zs h => by
    obtain ⟨a', c', h1, _, _⟩ := h.newRow
    exact ⟨a', c', h1⟩
  rcases A with _ | ad
  · have h0 : ys = [] := by
      rcases hsrc with h | ⟨b, off, h, _⟩
      · exact List.eq_nil_of_length_eq_zero h
      · cases h
    subst h0
    obtain ⟨a', c', rfl⟩ := hform _ _ _ hown
    refine ⟨a', c', w, ?_, by simpa using hown, World.grownBy.refl w _, .inl rfl⟩
    rcases hown.2 with ⟨h1, h2⟩ | ⟨g, cap, cur, h1, _, _, hnc, _⟩
    · injection h1 with e1 e2 e3
      subst e1 e3
      simp [Builtin.append_, run_underlying Tryd.underlying26, sizeOf, typeInfo, hi0, Builtin.lenOf, Builtin.firstCells, h2]
    · injection h1 with e1 e2 e3
      subst e1 e3
      simp [Builtin.append_, run_underlying Tryd.underlying26, sizeOf, typeInfo, hi0, Builtin.lenOf, Builtin.firstCells, hnc, storeCells]
  · have hnews : ∀ j u, (cellsT ys)[j]? = some u → w.cell? (ad.add j) = some u := fun j u hu => by
      rcases hsrc with h | ⟨b, off, h, ht⟩
      · have e : ys = [] := List.eq_nil_of_length_eq_zero h
        subst e
        simp [cellsT] at hu
      · cases h
        exact terms_news ht j u hu
    obtain ⟨v', w', hr, h2, h3, _, h5⟩ := run_append_own_at (P := Tryd.prog) w base 26 ty 49 i0 _ 3 32 Tryd.underlying26 hi0 hi1 hi2 hi3 rfl (by omega) v xs.length (cellsT xs) hown ad ys.length c (cellsT ys) (cellsT_length ys) hnews (cellsT_oneCell ys) (by unfold maxLen; omega) (by omega) hbase
    have hO : OwnT w' base v' (xs ++ ys) := by
      unfold OwnT
      rw [List.length_append, cellsT_append]
      exact h2
    obtain ⟨a', c', rfl⟩ := hform _ _ _ hO
    rw [List.length_append] at hr hO h5
    exact ⟨a', c', w', hr, hO, h3, h5⟩

theorem wpList_append_terms {ops : Array Oper} {rest : List Oper} {o : Oper} {a : Act} {w : World} {Q : Exit → Act → World → Prop} (hgd : o.guard = none) (s x : Operand)
    (ho : o.op = .call { callee := .builtin .append, args := #[s, x], argTypes := #[26, 26] })
    (base : Nat) (v : Value) (n : Nat) (xs ys : List Tm) (hs : a.eval s = v) (hn : n = xs.length) (hown : OwnT w base v xs) (A : Option Addr) (m c : Nat) (hx : a.eval x = .slice A m c) (hm : m = ys.length)
    (hsrc : m = 0 ∨ ∃ b off, A = some ⟨b, off, none⟩ ∧ TermsIn w b off ys) (hbig : n + m ≤ 4194304) (hbase : base ≤ w.heap.size)
    (h : ∀ a' c' w', OwnT w' base (.slice a' (n + m) c') (xs ++ ys) → w.grownBy w' v.ownBlock → ((Value.slice a' (n + m) c').ownBlock = v.ownBlock ∨ (Value.slice a' (n + m) c').ownBlock = some w.heap.size) → wpList Tryd.prog ops Q rest (a.put o.dst (.slice a' (n + m) c')) w') :
    wpList Tryd.prog ops Q (o :: rest) a w := by
  refine wpList_plain hgd fun K hK => ?_
  obtain ⟨a', c', w', hr, h2, h3, h4⟩ := run_append_terms w o.type base v n xs ys hn hown A m c hm hsrc hbig hbase
  unfold Oper.wp execOp
  simp only [ho, resolve, invoke, builtin, Sem.run_bind, Sem.run_pure, Result.andThen_ok, List.map_toArray, List.map_cons, List.map_nil, hs, hx, hr]
  exact hK _ _ (h a' c' w' h2 h3 h4)

theorem terms_one (w : World) (t : Tm) : TermsIn (w.alloc (.cells #[.string t.s, .int .i64 t.n, .int .i64 t.d] 49)) w.heap.size 0 [t] := fun i hi => by
  have h0 : i = 0 := by simpa using hi
  subst h0
  simp [go_sem]

/-- what putting a term comes to -/
def PutPost (r : Option (List Tm)) (W : World) (e : Ending) (w' : World) : Prop :=
  match r with
  | none => e = .returned (.tuple #[.slice none 0 0, .bool false]) ∧ Below W.heap.size W w'
  | some ts' => ∃ (a : Option Addr) (cap : Nat), e = .returned (.tuple #[.slice a ts'.length cap, .bool true]) ∧ ts'.length ≤ cap ∧ Below W.heap.size W w' ∧ NewRow W.heap.size w'.heap.size w' a ts'

theorem Row.drop {w : World} {a : Option Addr} {ts : List Tm} (h : Row w a ts) {k n c : Nat} (hn : n = ts.length) (hk : k ≤ n) (hc : n ≤ c) (A : Option Addr) (hA : ¬ c = k → A = a.map (·.add (k * 3))) :
    n - k = 0 ∨ ∃ b off, A = some ⟨b, off, none⟩ ∧ TermsIn w b off (ts.drop k) := by
  by_cases h0 : n - k = 0
  · exact .inl h0
  · rcases h with h | ⟨b, off, h1, h2, h3⟩
    · rw [h] at hn; simp at hn; omega
    · refine .inr ⟨b, off + k * 3, ?_, ?_⟩
      · rw [hA (by omega), h1]; simp [add_at]
      · have := cut_terms (i := k) (n := ts.length - k) h3 (by omega)
        rwa [List.take_of_length_le (by rw [List.length_drop]; omega)] at this
theorem Row.take {w : World} {a : Option Addr} {ts : List Tm} (h : Row w a ts) {k n : Nat} (hn : n = ts.length) (hk : k ≤ n) : k = 0 ∨ ∃ b off, a = some ⟨b, off, none⟩ ∧ TermsIn w b off (ts.take k) := by
  by_cases h0 : k = 0
  · exact .inl h0
  · rcases h with h | ⟨b, off, h1, h2, h3⟩
    · rw [h] at hn; simp at hn; omega
    · exact .inr ⟨b, off, h1, by have := cut_terms (i := 0) (n := k) h3 (by omega); rwa [List.drop_zero, Nat.zero_mul, Nat.add_zero] at this⟩

theorem str_eq_same (a : ByteArray) : (a.toList == a.toList) = true := by simp
theorem str_eq_other {a b : ByteArray} (h : a ≠ b) : (a.toList == b.toList) = false := by
  simp only [beq_eq_false_iff_ne, ne_eq, ByteArray.toList_eq]
  exact fun e => h (data_eq e)
theorem put_done {r : Option (List Tm)} {ts' : List Tm} {W w9 : World} {a9 : Option Addr} {m9 c9 : Nat} (hr : r = some ts') (hO : OwnT w9 (W.heap.size + 1) (.slice a9 m9 c9) ts') (hm : m9 = ts'.length) (hb : Below W.heap.size W w9) :
    PutPost r W (.returned (.tuple #[.slice a9 m9 c9, .bool true])) w9 := by
  subst hr hm
  obtain ⟨a', c', he, hle, hN⟩ := hO.newRow
  injection he with e1 e2 e3
  subst e1 e3
  exact ⟨a9, c9, rfl, hle, hb, hN.mono (by omega) (Nat.le_refl _)⟩
theorem Row.src {w : World} {a : Option Addr} {ts : List Tm} {n : Nat} (h : Row w a ts) (hn : n = ts.length) : n = 0 ∨ ∃ b off, a = some ⟨b, off, none⟩ ∧ TermsIn w b off ts := by
  rcases h with h | ⟨b, off, h1, h2, h3⟩
  · exact .inl (by rw [hn, h]; rfl)
  · exact .inr ⟨b, off, h1, h3⟩
theorem drop_in {w : World} {b off k : Nat} {ts : List Tm} (h : TermsIn w b off ts) (hk : k ≤ ts.length) : TermsIn w b (off + k * 3) (ts.drop k) := by
  have h2 := cut_terms (i := k) (n := ts.length - k) h (by omega)
  rwa [List.take_of_length_le (by rw [List.length_drop]; omega)] at h2
theorem own_grown {B : Nat} {w w' : World} {v : Value} {ts : List Tm} (hO : OwnT w B v ts) (hg : w.grownBy w' v.ownBlock) (hB : B ≤ w.heap.size) : Below B w w' := below_of_grown hg (fun g h => (hO.lt g h).1) hB

theorem put_none {r : Option (List Tm)} {W w9 : World} (hr : r = none) (hb : Below W.heap.size W w9) : PutPost r W (.returned (.tuple #[.slice none 0 0, .bool false])) w9 := by
  subst hr
  exact ⟨rfl, hb⟩
/-- where the sum's variable stands, whatever the order -/
def PlusCut (w1 : World) (N D : Int) (ok : Bool) (v10 v11 : Value) (wy : World) : Prop :=
  ∃ g, v10 = .pointer (some ⟨g, 0, none⟩) ∧ v11 = .bool ok ∧ w1.heap.size ≤ g ∧ g < wy.heap.size ∧ Below w1.heap.size w1 wy ∧ wy.cell? ⟨g, 0, none⟩ = some (.int .i64 N) ∧ wy.cell? ⟨g, 1, none⟩ = some (.int .i64 D)
def PutRel (ts : List Tm) (u : Tm) (n : Nat) (w : World) (vi : Value) (wr : World) : Prop :=
  ∃ k : Nat, k ≤ n ∧ vi = .int .i64 k ∧ (∀ j (h : j < ts.length), j < k → lessT ts[j] u = true) ∧ Below (w.heap.size + 1) (w.alloc (.cells #[.int .i64 u.n, .int .i64 u.d] 47)) wr

end Go.Proofs.YtnlapfclmpilaaaDoor
