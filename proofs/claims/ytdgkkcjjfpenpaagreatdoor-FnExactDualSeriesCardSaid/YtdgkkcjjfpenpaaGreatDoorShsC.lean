/-
  Plain mathematics: sums of shuffles of words, times products of values, as maps of values: word by word. No program is named here.
  Plain mathematics: how many words are put at most, when the shuffles of the words of two series are added. No program is named here.
  Small facts on the words of a shuffle and the words of a series.
-/
import Derived.Test.YtdgkkcjjfpenpaaGreatDoorShuE
import Derived.Test.YtdgkkcjjfpenpaaGreatDoorAddL
import Derived.Test.YtdgkkcjjfpenpaaGreatDoorPrM
import Derived.Test.YtdgkkcjjfpenpaaGreatDoorShuF
import Derived.Test.YtdgkkcjjfpenpaaGreatDoorPairT
namespace Go.Proofs.YtdgkkcjjfpenpaaGreatDoor
set_option linter.unusedVariables false

/-- one word of a shuffle, with its number, times a / b, is added -/
def shStep (a b : Int) (f : VF) (x : ByteArray × Nat) : Option VF := addStep (fun _ => some ((x.2 : Int), 1)) a b f x.1
def shK (a b : Int) : List (ByteArray × Nat) → VF → Option VF
  | [], f => some f
  | x :: xs, f => (shStep a b f x).bind (shK a b xs)
theorem shStep_ap (a b : Int) (f : VF) (x : ByteArray × Nat) : shStep a b f x = (apS (valF f x.1).1 (valF f x.1).2 (x.2 : Int) 1 a b).map fun r => setF f x.1 (nzF r) := addStep_some (g := fun _ => some ((x.2 : Int), 1)) (v := ((x.2 : Int), 1)) rfl
theorem shStep_put (a b : Int) (f : VF) (x : ByteArray × Nat) : shStep a b f x = if fOk ((x.2 : Int) * a) (1 * b) = true then putF f x.1 (fN ((x.2 : Int) * a) (1 * b)) (fD ((x.2 : Int) * a) (1 * b)) else none := addStep_put (g := fun _ => some ((x.2 : Int), 1)) (v := ((x.2 : Int), 1)) rfl
theorem shK_app (a b : Int) : ∀ (xs ys : List (ByteArray × Nat)) (f : VF), shK a b (xs ++ ys) f = (shK a b xs f).bind (shK a b ys)
  | [], ys, f => rfl
  | x :: xs, ys, f => by
    show (shStep a b f x).bind (shK a b (xs ++ ys)) = ((shStep a b f x).bind (shK a b xs)).bind (shK a b ys)
    cases shStep a b f x with
    | none => rfl
    | some h => exact shK_app a b xs ys h
theorem shK_snoc {a b : Int} {xs : List (ByteArray × Nat)} {f h : VF} (e : shK a b xs f = some h) (x : ByteArray × Nat) : shK a b (xs ++ [x]) f = shStep a b h x := by
  rw [shK_app, e]
  show (shStep a b h x).bind (shK a b []) = _
  cases shStep a b h x <;> rfl
theorem shK_stop {a b : Int} {xs zs : List (ByteArray × Nat)} {f : VF} (h : xs <+: zs) (e : shK a b xs f = none) : shK a b zs f = none := by
  obtain ⟨t, rfl⟩ := h
  rw [shK_app, e]; rfl
theorem GoodV.shStep {ws : List ByteArray} {a b : Int} {f h : VF} {x : ByteArray × Nat} (hf : GoodV ws f) (hs : x.1 ∈ ws) (e : shStep a b f x = some h) : GoodV ws h := hf.addStep hs e
theorem GoodV.shK {ws : List ByteArray} {a b : Int} : ∀ {xs : List (ByteArray × Nat)} {f h : VF}, GoodV ws f → (∀ x ∈ xs, x.1 ∈ ws) → shK a b xs f = some h → GoodV ws h
  | [], f, h, hf, _, e => by
    unfold Go.Proofs.YtdgkkcjjfpenpaaGreatDoor.shK at e
    injection e with e; rw [← e]; exact hf
  | x :: xs, f, h, hf, hs, e => by
    unfold Go.Proofs.YtdgkkcjjfpenpaaGreatDoor.shK at e
    obtain ⟨f', h1, h2⟩ := Option.bind_eq_some_iff.1 e
    exact (hf.shStep (hs x (by simp)) h1).shK (fun t ht => hs t (by simp [ht])) h2
/-- the shuffle of the words of two terms, times both values: none where something does not fit -/
def shPair (D N : Nat) (s t : Tm) (f : VF) : Option VF :=
  if fOk (s.n * t.n) (s.d * t.d) = true then
    (if s.s.size + t.s.size ≤ N then shK (fN (s.n * t.n) (s.d * t.d)) (fD (s.n * t.n) (s.d * t.d)) (eachL s.s.data.toList t.s.data.toList (s.s.size + t.s.size) ByteArray.empty) f else some f)
  else none
def shRow (D N : Nat) (s : Tm) : List Tm → VF → Option VF
  | [], f => some f
  | t :: ts, f => (shPair D N s t f).bind (shRow D N s ts)
def shAll (D N : Nat) (ys : List Tm) : List Tm → VF → Option VF
  | [], f => some f
  | s :: ss, f => (shRow D N s ys f).bind (shAll D N ys ss)
theorem shPair_no {D N : Nat} {s t : Tm} {f : VF} (h : fOk (s.n * t.n) (s.d * t.d) = false) : shPair D N s t f = none := by unfold shPair; rw [h]; rfl
theorem shPair_far {D N : Nat} {s t : Tm} {f : VF} (h : fOk (s.n * t.n) (s.d * t.d) = true) (h2 : ¬ s.s.size + t.s.size ≤ N) : shPair D N s t f = some f := by unfold shPair; rw [if_pos h, if_neg h2]
theorem shPair_in {D N : Nat} {s t : Tm} {f : VF} (h : fOk (s.n * t.n) (s.d * t.d) = true) (h2 : s.s.size + t.s.size ≤ N) : shPair D N s t f = shK (fN (s.n * t.n) (s.d * t.d)) (fD (s.n * t.n) (s.d * t.d)) (eachL s.s.data.toList t.s.data.toList (s.s.size + t.s.size) ByteArray.empty) f := by unfold shPair; rw [if_pos h, if_pos h2]
theorem shRow_next {D N : Nat} {s : Tm} {ys : List Tm} {j : Nat} (hj : j < ys.length) (f : VF) : shRow D N s (ys.drop j) f = (shPair D N s ys[j] f).bind (shRow D N s (ys.drop (j + 1))) := by rw [List.drop_eq_getElem_cons hj]; rfl
theorem shRow_end {D N : Nat} {s : Tm} {ys : List Tm} {j : Nat} (hj : ys.length ≤ j) (f : VF) : shRow D N s (ys.drop j) f = some f := by rw [List.drop_eq_nil_of_le hj]; rfl
theorem shAll_next {D N : Nat} {xs ys : List Tm} {i : Nat} (hi : i < xs.length) (f : VF) : shAll D N ys (xs.drop i) f = (shRow D N xs[i] (ys.drop 0) f).bind (shAll D N ys (xs.drop (i + 1))) := by rw [List.drop_eq_getElem_cons hi]; rfl
theorem shAll_end {D N : Nat} {xs ys : List Tm} {i : Nat} (hi : xs.length ≤ i) (f : VF) : shAll D N ys (xs.drop i) f = some f := by rw [List.drop_eq_nil_of_le hi]; rfl
end Go.Proofs.YtdgkkcjjfpenpaaGreatDoor

namespace Go.Proofs.YtdgkkcjjfpenpaaGreatDoor
set_option linter.unusedVariables false

theorem sum_sub (g : ByteArray → Nat) : ∀ (l L : List ByteArray), l.Nodup → (∀ x ∈ l, x ∈ L) → (l.map g).sum ≤ (L.map g).sum
  | [], L, _, _ => Nat.zero_le _
  | a :: l, L, hn, hs => by
    have hn' := List.nodup_cons.1 hn
    obtain ⟨L1, L2, rfl⟩ := List.append_of_mem (hs a (by simp))
    have h := sum_sub g l (L1 ++ L2) hn'.2 (fun x hx => by
      have h1 := hs x (by simp [hx])
      rw [List.mem_append, List.mem_cons] at h1
      rcases h1 with h1 | rfl | h1
      · exact List.mem_append.2 (.inl h1)
      · exact absurd hx hn'.1
      · exact List.mem_append.2 (.inr h1))
    rw [List.map_append, List.sum_append_nat] at h ⊢
    rw [List.map_cons, List.sum_cons, List.map_cons, List.sum_cons]
    omega
/-- a sum over the numbers of letters -/
def lenS (D : Nat) (h : Nat → Nat) : Nat → Nat
  | 0 => h 0
  | n + 1 => lenS D h n + D ^ (n + 1) * h (n + 1)
theorem sum_const {h : Nat → Nat} {k : Nat} : ∀ {l : List ByteArray}, (∀ w ∈ l, w.size = k) → (l.map fun w => h w.size).sum = l.length * h k
  | [], _ => by simp
  | a :: l, hl => by
    rw [List.map_cons, List.sum_cons, sum_const (fun w hw => hl w (by simp [hw])), hl a (by simp), List.length_cons, Nat.add_mul, Nat.one_mul, Nat.add_comm]
theorem allW_sum (D : Nat) (h : Nat → Nat) : ∀ n, ((allW D n).map fun w => h w.size).sum = lenS D h n
  | 0 => by
    show ([ByteArray.empty].map fun w => h w.size).sum = h 0
    simp
  | n + 1 => by
    rw [allW, List.map_append, List.sum_append_nat, allW_sum D h n, sum_const (k := n + 1) (wordsL_size D (n + 1)), wordsL_length]
    rfl
/-- whether two words together have at most N letters, as a number -/
def fit1 (N a b : Nat) : Nat := if a + b ≤ N then 1 else 0
theorem pairs_few : ∀ D, D ≤ 3 → ∀ N, N ≤ 5 → lenS D (fun a => lenS D (fun b => fit1 N a b) N) N ≤ 2005 := by decide
/-- at most so many words are put for one word of the first series; for all -/
def budR (N : Nat) (s : Tm) (ys : List Tm) : Nat := (ys.map fun t => 243 * fit1 N s.s.size t.s.size).sum
def bud (N : Nat) (ys xs : List Tm) : Nat := (xs.map fun s => budR N s ys).sum
theorem budR_next {N : Nat} {s : Tm} {ys : List Tm} {j : Nat} (hj : j < ys.length) : budR N s (ys.drop j) = 243 * fit1 N s.s.size ys[j].s.size + budR N s (ys.drop (j + 1)) := by unfold budR; rw [List.drop_eq_getElem_cons hj, List.map_cons, List.sum_cons]
theorem bud_next {N : Nat} {xs ys : List Tm} {i : Nat} (hi : i < xs.length) : bud N ys (xs.drop i) = budR N xs[i] ys + bud N ys (xs.drop (i + 1)) := by unfold bud; rw [List.drop_eq_getElem_cons hi, List.map_cons, List.sum_cons]
theorem sum_le {α : Type} {f g : α → Nat} : ∀ {l : List α}, (∀ x ∈ l, f x ≤ g x) → (l.map f).sum ≤ (l.map g).sum
  | [], _ => Nat.le_refl _
  | a :: l, h => by
    rw [List.map_cons, List.sum_cons, List.map_cons, List.sum_cons]
    have h1 := h a (by simp)
    have h2 := sum_le (l := l) (fun x hx => h x (by simp [hx]))
    omega
theorem sum_mul (c : Nat) {α : Type} (f : α → Nat) : ∀ l : List α, (l.map fun x => c * f x).sum = c * (l.map f).sum
  | [] => by simp
  | a :: l => by rw [List.map_cons, List.sum_cons, sum_mul c f l, List.map_cons, List.sum_cons, Nat.mul_add]
theorem bud_few {D N : Nat} (hD : D ≤ 3) (hN : N ≤ 5) {xs ys : List Tm} (nx : (xs.map (·.s)).Nodup) (ny : (ys.map (·.s)).Nodup) (ix : ∀ t ∈ xs, t.s ∈ allW D N) (iy : ∀ t ∈ ys, t.s ∈ allW D N) : bud N ys xs ≤ 487215 := by
  have h1 : ∀ s ∈ xs, budR N s ys ≤ 243 * lenS D (fun b => fit1 N s.s.size b) N := fun s _ => by
    unfold budR
    rw [sum_mul 243 (fun t : Tm => fit1 N s.s.size t.s.size) ys, ← allW_sum D (fun b => fit1 N s.s.size b) N]
    refine Nat.mul_le_mul_left _ ?_
    have h := sum_sub (fun w => fit1 N s.s.size w.size) (ys.map (·.s)) (allW D N) ny (fun w hw => by obtain ⟨t, ht, rfl⟩ := List.mem_map.1 hw; exact iy t ht)
    rw [List.map_map] at h
    exact h
  have h2 : bud N ys xs ≤ (xs.map fun s => 243 * lenS D (fun b => fit1 N s.s.size b) N).sum := sum_le h1
  rw [sum_mul 243 (fun s : Tm => lenS D (fun b => fit1 N s.s.size b) N) xs] at h2
  have h3 := sum_sub (fun w => lenS D (fun b => fit1 N w.size b) N) (xs.map (·.s)) (allW D N) nx (fun w hw => by obtain ⟨t, ht, rfl⟩ := List.mem_map.1 hw; exact ix t ht)
  rw [List.map_map, allW_sum D (fun a => lenS D (fun b => fit1 N a b) N) N] at h3
  have h4 := pairs_few D hD N hN
  have h5 : (xs.map fun s => lenS D (fun b => fit1 N s.s.size b) N).sum ≤ 2005 := Nat.le_trans h3 h4
  omega
end Go.Proofs.YtdgkkcjjfpenpaaGreatDoor

namespace Go.Proofs.YtdgkkcjjfpenpaaGreatDoor
open Go.RowKit
set_option linter.unusedVariables false

theorem termsOf_few (f : VF) (ws : List ByteArray) : (termsOf f ws).length ≤ ws.length := List.length_filterMap_le _ _
theorem isF_whole {x : Int} (h : -1000000000 ≤ x ∧ x ≤ 1000000000) : isF x 1 = true := by
  simp only [isF, decide_eq_true_eq]
  refine ⟨by omega, by omega, by omega, by omega, ?_⟩
  unfold gi
  simp
theorem each_good {D N : Nat} (hD : D ≤ 3) (hN : N ≤ 5) {v u : ByteArray} (hv : wordB (D : Int) v.data.toList = true) (hu : wordB (D : Int) u.data.toList = true) (hvu : v.size + u.size ≤ N) :
    (∀ x ∈ eachL v.data.toList u.data.toList (v.size + u.size) ByteArray.empty, x.1 ∈ allW D N ∧ isF (x.2 : Int) 1 = true) ∧ (eachL v.data.toList u.data.toList (v.size + u.size) ByteArray.empty).length ≤ 243 := by
  rw [eachL_is hD hv hu]
  refine ⟨fun x hx => ?_, ?_⟩
  · obtain ⟨s, hs, rfl⟩ := List.mem_map.1 hx
    have hs1 := (List.mem_filter.1 hs).1
    have hsz := wordsL_size D _ s hs1
    have h := shN_le s.data.toList v.data.toList u.data.toList
    have h2 : s.data.toList.length ≤ 8 := by have : s.data.toList.length = s.size := rfl; omega
    have h3 : 2 ^ s.data.toList.length ≤ 2 ^ 8 := Nat.pow_le_pow_right (by omega) h2
    exact ⟨word_in hvu hs1, isF_whole (by show -1000000000 ≤ ((shN v.data.toList u.data.toList s.data.toList : Nat) : Int) ∧ ((shN v.data.toList u.data.toList s.data.toList : Nat) : Int) ≤ 1000000000; omega)⟩
  · rw [List.length_map]
    exact Nat.le_trans (List.length_filter_le _ _) (wordsL_few hD (by omega))
theorem ser_wordB {L V : Int} {ts : List Tm} (h : serB L V ts = true) : ∀ t ∈ ts, wordB L t.s.data.toList = true ∧ (t.s.size : Int) ≤ V := fun t ht => by
  have e := ser_term h t ht
  simp only [termB, Bool.and_eq_true, decide_eq_true_eq] at e
  exact ⟨e.1.2, e.1.1⟩
theorem ser_allW {D N : Nat} (hD : D ≤ 3) {ts : List Tm} (h : serB (D : Int) (N : Int) ts = true) : ∀ t ∈ ts, t.s ∈ allW D N := fun t ht => by
  have e := ser_wordB h t ht
  exact word_in (by have := e.2; omega) (wordsL_all hD t.s.size t.s rfl e.1)
theorem ser_nodup {L V : Int} {ts : List Tm} (h : serB L V ts = true) : (ts.map (·.s)).Nodup := List.pairwise_map.2 (ser_neP h)
theorem allW_len {D : Nat} : ∀ {n : Nat} {s : ByteArray}, s ∈ allW D n → s.size ≤ n
  | 0, s, h => by have := wordsL_size D 0 s h; omega
  | n + 1, s, h => by
    rw [allW] at h
    rcases List.mem_append.1 h with h | h
    · have := allW_len h; omega
    · have := wordsL_size D (n + 1) s h; omega
theorem areIn_c (n : Int) (v u : ByteArray) (hv : v.size ≤ 1048576) (hu : u.size ≤ 1048576) (W : World) : Calls Tryz.prog 73 #[.int .i64 n, .string v, .string u] W fun e w' => e = .returned (.bool (decide ((v.size : Int) + (u.size : Int) ≤ n))) ∧ w' = W := by
  go_enter Tryz.func73, Tryz.ntmps73
  go_wp2
  go_ret
  exact ⟨rfl, rfl⟩
end Go.Proofs.YtdgkkcjjfpenpaaGreatDoor
