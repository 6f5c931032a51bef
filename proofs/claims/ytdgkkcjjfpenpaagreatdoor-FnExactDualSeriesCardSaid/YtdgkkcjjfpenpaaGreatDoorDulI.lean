/-
  Plain mathematics: the dual series of a word: by its first letter, or by its factors. No program is named here.
  Plain mathematics: the values of a dual series are positive, and it has at least one. No program is named here.
  The program's ordersOf: the product of the factorials of the numbers of equal factors.
  The program's ScaleSeries at a row of terms of any room.
  The program's ShuffleSeries at series of one shape whose lists are handed over as they come.
  The program's dualOfFactors: the shuffle of the factors' dual series, divided by the product of the factorials.
  Contracts of the program's DualSeries.
-/
import Derived.Test.YtdgkkcjjfpenpaaGreatDoorShPw
import Derived.Test.YtdgkkcjjfpenpaaGreatDoorFacS
import Derived.Test.YtdgkkcjjfpenpaaGreatDoorScT
import Derived.Test.YtdgkkcjjfpenpaaGreatDoorScS
import Derived.Test.YtdgkkcjjfpenpaaGreatDoorMapV
import Derived.Test.YtdgkkcjjfpenpaaGreatDoorConst
import Derived.Test.YtdgkkcjjfpenpaaGreatDoorUnitS
import Derived.Test.YtdgkkcjjfpenpaaGreatDoorPartOf
import Derived.Test.YtdgkkcjjfpenpaaGreatDoorTri
import Derived.BigQuiet
import Derived.Deep.RegionHeld3
import Derived.BigRegion
namespace Go.Proofs.YtdgkkcjjfpenpaaGreatDoor
set_option linter.unusedVariables false

/-- terms, each word behind a beginning -/
def pre1 (c : ByteArray) (ts : List Tm) : List Tm := ts.map fun t => ⟨c ++ t.s, t.n, t.d⟩
/-- the product of the factorials of the numbers of equal neighbours, from one factor on -/
def ordG : Option ByteArray → Int → Int → List ByteArray → Int
  | _, e, d, [] => d
  | p, e, d, f :: fs => if p = some f then ordG (some f) (e + 1) (d * (e + 1)) fs else ordG (some f) 1 (d * 1) fs
theorem ordG_bd : ∀ (fs : List ByteArray) (p : Option ByteArray) (e d : Int), 0 ≤ e → e + fs.length ≤ 5 → 1 ≤ d → 1 ≤ ordG p e d fs ∧ ordG p e d fs ≤ d * 5 ^ fs.length
  | [], p, e, d, h1, h2, h3 => by
    show 1 ≤ d ∧ d ≤ d * 5 ^ 0
    simp; omega
  | f :: fs, p, e, d, h1, h2, h3 => by
    have h2' : e + 1 + (fs.length : Int) ≤ 5 := by simp only [List.length_cons] at h2; omega
    have hlen : (0 : Int) ≤ (fs.length : Int) := by omega
    have hp : (0 : Int) < 5 ^ fs.length := Int.pow_pos (by omega)
    rw [ordG]
    split
    · have hd : 1 ≤ d * (e + 1) := by have := Int.mul_le_mul h3 (show (1 : Int) ≤ e + 1 by omega) (by omega) (by omega); omega
      have h := ordG_bd fs (some f) (e + 1) (d * (e + 1)) (by omega) (by omega) hd
      refine ⟨h.1, Int.le_trans h.2 ?_⟩
      rw [List.length_cons, Int.pow_succ, Int.mul_comm (5 ^ fs.length) 5, ← Int.mul_assoc]
      exact Int.mul_le_mul_of_nonneg_right (Int.mul_le_mul_of_nonneg_left (by omega) (by omega)) (by omega)
    · have h := ordG_bd fs (some f) 1 (d * 1) (by omega) (by omega) (by omega)
      refine ⟨h.1, Int.le_trans h.2 ?_⟩
      rw [List.length_cons, Int.pow_succ, Int.mul_comm (5 ^ fs.length) 5, ← Int.mul_assoc]
      exact Int.mul_le_mul_of_nonneg_right (Int.mul_le_mul_of_nonneg_left (by omega) (by omega)) (by omega)
/-- the shuffle of series that fit, one behind the other -/
def mulD (D N : Nat) : List (Option (List Tm)) → Option (List Tm) → Option (List Tm)
  | [], a => a
  | o :: os, a => mulD D N os (a.bind fun x => o.bind fun y => shsL D N x y)
theorem mulD_none (D N : Nat) : ∀ os, mulD D N os none = none
  | [] => rfl
  | o :: os => mulD_none D N os
/-- the dual series of a word, if all fits -/
inductive DualIs (D N : Nat) : ByteArray → Option (List Tm) → Prop
  | lyn (w : ByteArray) (o : Option (List Tm)) : lynB w = true → DualIs D N (endS w 1) o → DualIs D N w (o.map (pre1 (w.extract 0 1)))
  | fac (w : ByteArray) (fs : List ByteArray) (os : List (Option (List Tm))) : lynB w = false → Facts w fs → os.length = fs.length → (∀ i (h : i < fs.length) (h' : i < os.length), DualIs D N fs[i] os[i]) → DualIs D N w ((mulD D N os (some [⟨ByteArray.empty, 1, 1⟩])).bind (scaleL 1 (ordG none 0 1 fs)))
theorem Facts.small : ∀ {w : ByteArray} {fs : List ByteArray}, Facts w fs → ∀ f ∈ fs, lynB f = true ∧ f.size ≤ w.size ∧ (f.size = w.size → lynB w = true)
  | _, _, .done s h => fun f hf => by cases hf
  | _, _, .more s n fs h1 h2 => fun f hf => by
    have a := h1.1
    have b := h1.2.1
    rcases List.mem_cons.1 hf with rfl | hf
    · refine ⟨h1.2.2.1, by rw [ByteArray.size_extract]; omega, fun e => ?_⟩
      rw [ByteArray.size_extract] at e
      obtain rfl : n = s.size := by omega
      have h3 := h1.2.2.1
      rwa [ByteArray.extract_zero_size] at h3
    · have h3 := h2.small f hf
      rw [endS_size] at h3
      exact ⟨h3.1, by omega, fun e => by omega⟩
theorem duals_of {α β : Type} {P : α → β → Prop} : ∀ {l : List α}, (∀ a ∈ l, ∃ b, P a b) → ∃ bs : List β, bs.length = l.length ∧ ∀ i (h : i < l.length) (h' : i < bs.length), P l[i] bs[i]
  | [], _ => ⟨[], rfl, fun i h => by simp at h⟩
  | a :: l, h => by
    obtain ⟨b, hb⟩ := h a (List.mem_cons_self ..)
    obtain ⟨bs, h1, h2⟩ := duals_of fun x hx => h x (List.mem_cons_of_mem _ hx)
    refine ⟨b :: bs, by simp [h1], fun i hi hi' => ?_⟩
    cases i with
    | zero => exact hb
    | succ i => exact h2 i (by simpa using hi) (by simpa using hi')
theorem dual_is (D N : Nat) : ∀ (k : Nat) (w : ByteArray), w.size ≤ k → ∃ o, DualIs D N w o
  | 0, w, h => ⟨_, .fac w [] [] (lynB_empty (by omega)) (.done w (by omega)) rfl (fun i h => by simp at h)⟩
  | k + 1, w, h => by
    cases hl : lynB w with
    | true =>
      have h0 := (lynB_true hl).1
      obtain ⟨o, ho⟩ := dual_is D N k (endS w 1) (by rw [endS_size]; omega)
      exact ⟨_, .lyn w o hl ho⟩
    | false =>
      obtain ⟨fs, hf, _⟩ := facts_is w.size w (Nat.le_refl _)
      obtain ⟨os, h1, h2⟩ := duals_of (P := DualIs D N) (l := fs) fun f hm => dual_is D N k f (by
        obtain ⟨_, h3, h4⟩ := hf.small f hm
        have h5 : f.size ≠ w.size := fun e => by rw [h4 e] at hl; cases hl
        omega)
      exact ⟨_, .fac w fs os hl hf h1 h2⟩
theorem bl_frontD (p a b : List UInt8) (h : Op.bytesLess a b = true) : Op.bytesLess (p ++ a) (p ++ b) = true := by
  induction p with
  | nil => exact h
  | cons x p ih =>
    simp only [List.cons_append, Op.bytesLess, Bool.or_eq_true, decide_eq_true_eq, Bool.and_eq_true, beq_iff_eq]
    exact .inr ⟨by first | trivial | rfl, ih⟩
/-- values at words of one length alone -/
def SupV (k : Nat) (f : VF) : Prop := ∀ s p, f s = some p → s.size = k
theorem SupV.none (k : Nat) : SupV k (fun _ => none) := fun s p h => by cases h
theorem SupV.shStep {k : Nat} {a b : Int} {f h : VF} {x : ByteArray × Nat} (hf : SupV k f) (hx : x.1.size = k) (e : Go.Proofs.YtdgkkcjjfpenpaaGreatDoor.shStep a b f x = some h) : SupV k h := by
  rw [shStep_ap] at e
  obtain ⟨r, _, rfl⟩ := Option.map_eq_some_iff.1 e
  intro s p hs
  unfold setF at hs
  split at hs
  · rename_i hsx; rw [hsx]; exact hx
  · exact hf s p hs
theorem SupV.shK {k : Nat} {a b : Int} : ∀ {xs : List (ByteArray × Nat)} {f h : VF}, SupV k f → (∀ x ∈ xs, x.1.size = k) → Go.Proofs.YtdgkkcjjfpenpaaGreatDoor.shK a b xs f = some h → SupV k h
  | [], f, h, hf, _, e => by
    unfold Go.Proofs.YtdgkkcjjfpenpaaGreatDoor.shK at e
    injection e with e; rw [← e]; exact hf
  | x :: xs, f, h, hf, hx, e => by
    unfold Go.Proofs.YtdgkkcjjfpenpaaGreatDoor.shK at e
    obtain ⟨f', h1, h2⟩ := Option.bind_eq_some_iff.1 e
    exact (hf.shStep (hx x (List.mem_cons_self ..)) h1).shK (fun y hy => hx y (List.mem_cons_of_mem _ hy)) h2
theorem SupV.shPair {D N k : Nat} {s t : Tm} {f h : VF} (hk : s.s.size + t.s.size = k) (hf : SupV k f) (e : Go.Proofs.YtdgkkcjjfpenpaaGreatDoor.shPair D N s t f = some h) : SupV k h := by
  unfold Go.Proofs.YtdgkkcjjfpenpaaGreatDoor.shPair at e
  split at e
  · split at e
    · refine hf.shK (fun x hx => ?_) e
      have h1 := (eachL_mem.1 (List.mem_map_of_mem (f := fun x : ByteArray × Nat => x.1) hx)).1
      have h2 := goesOn_size h1
      have : ByteArray.empty.size = 0 := rfl
      omega
    · injection e with e; rw [← e]; exact hf
  · cases e
theorem SupV.shRow {D N ka kb : Nat} {s : Tm} (hs : s.s.size = ka) : ∀ {ys : List Tm} {f h : VF}, (∀ t ∈ ys, t.s.size = kb) → SupV (ka + kb) f → Go.Proofs.YtdgkkcjjfpenpaaGreatDoor.shRow D N s ys f = some h → SupV (ka + kb) h
  | [], f, h, _, hf, e => by
    unfold Go.Proofs.YtdgkkcjjfpenpaaGreatDoor.shRow at e
    injection e with e; rw [← e]; exact hf
  | t :: ys, f, h, hy, hf, e => by
    unfold Go.Proofs.YtdgkkcjjfpenpaaGreatDoor.shRow at e
    obtain ⟨f', h1, h2⟩ := Option.bind_eq_some_iff.1 e
    exact SupV.shRow hs (fun u hu => hy u (List.mem_cons_of_mem _ hu)) (hf.shPair (by rw [hs, hy t (List.mem_cons_self ..)]) h1) h2
theorem SupV.shAll {D N ka kb : Nat} {ys : List Tm} (hy : ∀ t ∈ ys, t.s.size = kb) : ∀ {xs : List Tm} {f h : VF}, (∀ t ∈ xs, t.s.size = ka) → SupV (ka + kb) f → Go.Proofs.YtdgkkcjjfpenpaaGreatDoor.shAll D N ys xs f = some h → SupV (ka + kb) h
  | [], f, h, _, hf, e => by
    unfold Go.Proofs.YtdgkkcjjfpenpaaGreatDoor.shAll at e
    injection e with e; rw [← e]; exact hf
  | s :: xs, f, h, hx, hf, e => by
    unfold Go.Proofs.YtdgkkcjjfpenpaaGreatDoor.shAll at e
    obtain ⟨f', h1, h2⟩ := Option.bind_eq_some_iff.1 e
    exact SupV.shAll hy (fun u hu => hx u (List.mem_cons_of_mem _ hu)) (hf.shRow (hx s (List.mem_cons_self ..)) hy h1) h2
/-- a series of words of one length -/
def OneLen (D N k : Nat) (ts : List Tm) : Prop := serB (D : Int) (N : Int) ts = true ∧ ∀ t ∈ ts, t.s.size = k
theorem shsL_good {D N ka kb : Nat} (hD : D ≤ 3) (hN : N ≤ 5) (hs : shapeB (D : Int) (N : Int) = true) {xs ys ts : List Tm} (hx : OneLen D N ka xs) (hy : OneLen D N kb ys) (e : shsL D N xs ys = some ts) : OneLen D N (ka + kb) ts := by
  unfold shsL at e
  obtain ⟨h, h1, rfl⟩ := Option.map_eq_some_iff.1 e
  have hg := GoodV.shAll hD hN (fun t ht => (ser_wordB hy.1 t ht).1) (fun t ht => (ser_wordB hx.1 t ht).1) (GoodV.none _) h1
  refine ⟨ser_terms hs hg, fun t ht => ?_⟩
  exact SupV.shAll hy.2 hx.2 (SupV.none _) h1 t.s (t.n, t.d) (termsOf_iff.1 ht).2
/-- the lengths of the factors together are the word's -/
theorem Facts.sum : ∀ {w : ByteArray} {fs : List ByteArray}, Facts w fs → (fs.map (·.size)).sum = w.size
  | _, _, .done s h => by simp [h]
  | _, _, .more s n fs h1 h2 => by
    have e := h2.sum
    rw [endS_size] at e
    have a := h1.1
    have b := h1.2.1
    rw [List.map_cons, List.sum_cons, e, ByteArray.size_extract]
    omega
theorem lessL_front {p a b : ByteArray} (h : lessL a.data.toList b.data.toList = true) : lessL (p ++ a).data.toList (p ++ b).data.toList = true := by
  unfold lessL at h ⊢
  rw [app_list, app_list, List.length_append, List.length_append]
  by_cases e : a.data.toList.length = b.data.toList.length
  · rw [if_pos e] at h
    rw [if_pos (by rw [e])]
    exact bl_frontD _ _ _ h
  · rw [if_neg e] at h
    rw [if_neg (by omega)]
    simp only [decide_eq_true_eq] at h ⊢
    omega
theorem pre1_good {D N k : Nat} {c : ByteArray} {ts : List Tm} (hc : c.size = 1) (hcw : wordB (D : Int) c.data.toList = true) (hk : k + 1 ≤ N) (hs : OneLen D N k ts) : OneLen D N (k + 1) (pre1 c ts) := by
  obtain ⟨h1, h2⟩ := hs
  have hsh : shapeB (D : Int) (N : Int) = true := by have h := h1; unfold serB at h; rw [Bool.and_eq_true] at h; exact h.1
  have hall : ∀ k, k < ts.length → goodAt (D : Int) (N : Int) ts k = true := by
    have h := h1
    unfold serB at h
    rw [Bool.and_eq_true, List.all_eq_true] at h
    exact fun k hk => h.2 k (List.mem_range.2 hk)
  refine ⟨serB_good hsh fun j hj => ?_, fun t ht => ?_⟩
  · unfold pre1 at hj ⊢
    rw [List.length_map] at hj
    have hat : ∀ i (hi : i < ts.length), (ts.map fun t => (⟨c ++ t.s, t.n, t.d⟩ : Tm))[i]? = some ⟨c ++ (ts[i]).s, (ts[i]).n, (ts[i]).d⟩ := fun i hi => by rw [List.getElem?_map, List.getElem?_eq_getElem hi]; rfl
    have ht := ser_term h1 ts[j] (List.getElem_mem hj)
    have hz := h2 ts[j] (List.getElem_mem hj)
    have hb : termB (D : Int) (N : Int) ⟨c ++ (ts[j]).s, (ts[j]).n, (ts[j]).d⟩ = true := by
      have e := ht
      simp only [termB, Bool.and_eq_true, decide_eq_true_eq] at e ⊢
      refine ⟨⟨?_, ?_⟩, e.2⟩
      · rw [ByteArray.size_append, hc, hz]; omega
      · rw [app_list]
        unfold wordB at hcw ⊢
        have e2 : (ts[j]).s.data.toList.all (letB (D : Int)) = true := e.1.2
        rw [List.all_append, hcw, e2]; rfl
    cases j with
    | zero => exact goodAt_zero (hat 0 hj) hb
    | succ j =>
      have hj0 : j < ts.length := by omega
      rw [goodAt_succ (hat (j + 1) hj) (hat j hj0) hb]
      have h3 := hall (j + 1) hj
      rw [goodAt_succ (List.getElem?_eq_getElem hj) (List.getElem?_eq_getElem hj0) ht] at h3
      exact lessL_front h3
  · obtain ⟨u, hu, rfl⟩ := List.mem_map.1 ht
    show (c ++ u.s).size = k + 1
    rw [ByteArray.size_append, hc, h2 u hu]
    omega
theorem scale_good {D N k : Nat} {p q : Int} (hp : p ≠ 0) {ts r : List Tm} (hs : OneLen D N k ts) (e : scaleL p q ts = some r) : OneLen D N k r := by
  obtain ⟨h1, h2⟩ := hs
  have hsh : shapeB (D : Int) (N : Int) = true := by have h := h1; unfold serB at h; rw [Bool.and_eq_true] at h; exact h.1
  have hall : ∀ k, k < ts.length → goodAt (D : Int) (N : Int) ts k = true := by
    have h := h1
    unfold serB at h
    rw [Bool.and_eq_true, List.all_eq_true] at h
    exact fun k hk => h.2 k (List.mem_range.2 hk)
  unfold scaleL at e
  split at e
  case isFalse => cases e
  rename_i hok
  injection e with e
  subst e
  refine ⟨serB_good hsh fun j hj => ?_, fun t ht => ?_⟩
  · rw [List.length_map] at hj
    have hat : ∀ i (hi : i < ts.length), (ts.map (mulT p q))[i]? = some (mulT p q ts[i]) := fun i hi => by rw [List.getElem?_map, List.getElem?_eq_getElem hi]; rfl
    have ht := ser_term h1 ts[j] (List.getElem_mem hj)
    have hf : fOk ((ts[j]).n * p) ((ts[j]).d * q) = true := by
      unfold okAll at hok
      rw [List.all_eq_true] at hok
      exact hok _ (List.getElem_mem hj)
    have hb : termB (D : Int) (N : Int) (mulT p q ts[j]) = true := by
      have e := ht
      have g1 := fOk_isFp hf
      have g2 := f_nonzero (Int.mul_ne_zero (ser_nn h1 _ (List.getElem_mem hj)) hp) hf
      unfold mulT
      simp only [termB, Bool.and_eq_true, decide_eq_true_eq] at e ⊢
      refine ⟨e.1, g1, ?_⟩
      simpa using g2
    cases j with
    | zero => exact goodAt_zero (hat 0 hj) hb
    | succ j =>
      have hj0 : j < ts.length := by omega
      rw [goodAt_succ (hat (j + 1) hj) (hat j hj0) hb]
      have h3 := hall (j + 1) hj
      rw [goodAt_succ (List.getElem?_eq_getElem hj) (List.getElem?_eq_getElem hj0) ht] at h3
      exact h3
  · obtain ⟨u, hu, rfl⟩ := List.mem_map.1 ht
    exact h2 u hu
theorem unit_good {D N : Nat} (hs : shapeB (D : Int) (N : Int) = true) : OneLen D N 0 [⟨ByteArray.empty, 1, 1⟩] := by
  refine ⟨?_, fun t ht => ?_⟩
  · rw [← unit_terms D N]
    exact ser_terms hs (good_unitP D N)
  · obtain rfl := List.mem_singleton.1 ht
    rfl
theorem mulD_good {D N : Nat} (hD : D ≤ 3) (hN : N ≤ 5) (hs : shapeB (D : Int) (N : Int) = true) : ∀ {os : List (Option (List Tm))} {ks : List Nat} {k : Nat} {x ts : List Tm}, os.length = ks.length → (∀ i (h : i < os.length) (h' : i < ks.length) ys, os[i] = some ys → OneLen D N ks[i] ys) → OneLen D N k x → mulD D N os (some x) = some ts → OneLen D N (k + ks.sum) ts
  | [], [], k, x, ts, _, _, hx, e => by
    injection e with e
    subst e
    simpa using hx
  | o :: os, kk :: ks, k, x, ts, hl, hg, hx, e => by
    have h0 := hg 0 (by simp) (by simp)
    rw [mulD] at e
    cases o with
    | none =>
      simp only [Option.bind_some, Option.bind_none] at e
      rw [mulD_none] at e
      cases e
    | some y =>
      simp only [Option.bind_some] at e
      cases hr : shsL D N x y with
      | none => rw [hr, mulD_none] at e; cases e
      | some z =>
        rw [hr] at e
        have hz := shsL_good hD hN hs hx (h0 y rfl) hr
        have h := mulD_good hD hN hs (os := os) (ks := ks) (by simpa using hl) (fun i h h' ys he => hg (i + 1) (by simpa using h) (by simpa using h') ys he) hz e
        rw [List.sum_cons, ← Nat.add_assoc]
        exact h
theorem wordB_sub {d : Int} {v : ByteArray} (h : wordB d v.data.toList = true) (a b : Nat) : wordB d (v.extract a b).data.toList = true := by
  unfold wordB at h ⊢
  rw [List.all_eq_true] at h ⊢
  intro c hc
  simp only [ByteArray.data_extract, Array.toList_extract, List.extract_eq_take_drop] at hc
  exact h c (List.mem_of_mem_drop (List.mem_of_mem_take hc))
theorem Facts.wordB {d : Int} : ∀ {w : ByteArray} {fs : List ByteArray}, Facts w fs → Go.Proofs.YtdgkkcjjfpenpaaGreatDoor.wordB d w.data.toList = true → ∀ f ∈ fs, Go.Proofs.YtdgkkcjjfpenpaaGreatDoor.wordB d f.data.toList = true
  | _, _, .done s h => fun _ f hf => by cases hf
  | _, _, .more s n fs h1 h2 => fun hw f hf => by
    rcases List.mem_cons.1 hf with rfl | hf
    · exact wordB_sub hw 0 n
    · exact h2.wordB (wordB_sub hw n s.size) f hf
/-- **a dual series is a series of words of the word's length** -/
theorem DualIs.good {D N : Nat} (hD : D ≤ 3) (hN : N ≤ 5) (hs : shapeB (D : Int) (N : Int) = true) : ∀ {w : ByteArray} {o : Option (List Tm)}, DualIs D N w o → wordB (D : Int) w.data.toList = true → w.size ≤ N → ∀ ts, o = some ts → OneLen D N w.size ts := by
  intro w o h
  induction h with
  | lyn w o hl _ ih =>
    intro hw hz ts he
    obtain ⟨ys, rfl, rfl⟩ := Option.map_eq_some_iff.1 he
    have h0 := (lynB_true hl).1
    have hf := And.intro (wordB_sub hw 0 1) (wordB_sub hw 1 w.size)
    have h1 := ih hf.2 (by rw [endS_size]; omega) ys rfl
    rw [endS_size] at h1
    have h2 := pre1_good (c := w.extract 0 1) (by rw [ByteArray.size_extract]; omega) hf.1 (by omega) h1
    rwa [Nat.sub_add_cancel h0] at h2
  | fac w fs os hl hf hlen _ ih =>
    intro hw hz ts he
    obtain ⟨x, h1, h2⟩ := Option.bind_eq_some_iff.1 he
    have hfw : ∀ f ∈ fs, wordB (D : Int) f.data.toList = true := hf.wordB hw
    have h3 := mulD_good hD hN hs (os := os) (ks := fs.map (·.size)) (by rw [List.length_map]; exact hlen) (fun i h h' ys hy => by
      have hi : i < fs.length := by rw [List.length_map] at h'; exact h'
      rw [List.getElem_map]
      exact ih i hi h (hfw _ (List.getElem_mem hi)) (by have := (hf.small _ (List.getElem_mem hi)).2.1; omega) ys hy) (unit_good hs) h1
    rw [hf.sum, Nat.zero_add] at h3
    exact scale_good (by decide) h3 h2
end Go.Proofs.YtdgkkcjjfpenpaaGreatDoor

namespace Go.Proofs.YtdgkkcjjfpenpaaGreatDoor
set_option linter.unusedVariables false

theorem f_pos {n d : Int} (hn : 0 < n) (hd : 1 ≤ d) (h : fOk n d = true) : 0 < fN n d := by
  have h1 := f_nonzero (Int.ne_of_gt hn) h
  have h2 : 0 ≤ fN n d := by
    rw [(low_yes h).1]
    unfold lowN
    rw [if_neg (by omega)]
    exact Int.ediv_nonneg (by omega) (gi_nonneg n d)
  omega
/-- positive values, at least one where `b` -/
def PosV (b : Prop) (f : VF) : Prop := (∀ s p, f s = some p → 0 < p.1 ∧ 1 ≤ p.2) ∧ (b → ∃ s p, f s = some p)
theorem PosV.setF {b : Prop} {f : VF} (hf : PosV b f) (s : ByteArray) {x y : Int} (hx : 0 < x) (hy : 1 ≤ y) : PosV True (Go.Proofs.YtdgkkcjjfpenpaaGreatDoor.setF f s (nzF (x, y))) := by
  have e : nzF (x, y) = some (x, y) := nzF_1 (Int.ne_of_gt hx)
  rw [e]
  refine ⟨fun t p ht => ?_, fun _ => ⟨s, (x, y), setF_same⟩⟩
  by_cases h : t = s
  · subst h
    rw [setF_same] at ht
    injection ht with ht
    subst ht
    exact ⟨hx, hy⟩
  · rw [setF_other h] at ht
    exact hf.1 t p ht
theorem PosV.putF {b : Prop} {f h : VF} (hf : PosV b f) {s : ByteArray} {x y : Int} (hx : 0 < x) (hy : 1 ≤ y) (e : Go.Proofs.YtdgkkcjjfpenpaaGreatDoor.putF f s x y = some h) : PosV True h := by
  unfold Go.Proofs.YtdgkkcjjfpenpaaGreatDoor.putF at e
  split at e
  · injection e with e
    rw [← e]
    exact hf.setF s hx hy
  · rename_i v hv
    split at e
    · rename_i hok
      injection e with e
      rw [← e]
      have hp := hf.1 s v hv
      have h1 : 0 < v.1 * y := Int.mul_pos hp.1 (by omega)
      have h2 : 0 < x * v.2 := Int.mul_pos hx (by omega)
      have h3 : 0 < v.2 * y := Int.mul_pos (by omega) (by omega)
      exact hf.setF s (f_pos (by omega) (by omega) hok) (isF_abs (fOk_isFp hok)).2.2
    · cases e
theorem PosV.shStep {b : Prop} {p q : Int} {f h : VF} {x : ByteArray × Nat} (hf : PosV b f) (hp : 0 < p) (hq : 1 ≤ q) (hx : 0 < x.2) (e : Go.Proofs.YtdgkkcjjfpenpaaGreatDoor.shStep p q f x = some h) : PosV True h := by
  rw [shStep_put] at e
  split at e
  · rename_i hok
    have h1 : 0 < (x.2 : Int) * p := Int.mul_pos (by omega) hp
    exact hf.putF (f_pos h1 (by omega) hok) (isF_abs (fOk_isFp hok)).2.2 e
  · cases e
theorem PosV.shK {p q : Int} (hp : 0 < p) (hq : 1 ≤ q) : ∀ {xs : List (ByteArray × Nat)} {b : Prop} {f h : VF}, PosV b f → (∀ x ∈ xs, 0 < x.2) → Go.Proofs.YtdgkkcjjfpenpaaGreatDoor.shK p q xs f = some h → PosV (b ∨ xs ≠ []) h
  | [], b, f, h, hf, _, e => by
    unfold Go.Proofs.YtdgkkcjjfpenpaaGreatDoor.shK at e
    injection e with e
    rw [← e]
    exact ⟨hf.1, fun hb => hf.2 (by rcases hb with hb | hb; exact hb; exact absurd rfl hb)⟩
  | x :: xs, b, f, h, hf, hx, e => by
    unfold Go.Proofs.YtdgkkcjjfpenpaaGreatDoor.shK at e
    obtain ⟨f', h1, h2⟩ := Option.bind_eq_some_iff.1 e
    have h3 := PosV.shK hp hq (hf.shStep hp hq (hx x (List.mem_cons_self ..)) h1) (fun y hy => hx y (List.mem_cons_of_mem _ hy)) h2
    exact ⟨h3.1, fun _ => h3.2 (.inl trivial)⟩
theorem each_some {v u : ByteArray} (hv : wordB 3 v.data.toList = true) (hu : wordB 3 u.data.toList = true) : eachL v.data.toList u.data.toList (v.size + u.size) ByteArray.empty ≠ [] := by
  intro h
  have hm : (v ++ u) ∈ (eachL v.data.toList u.data.toList (v.size + u.size) ByteArray.empty).map (·.1) := by
    refine eachL_mem.2 ⟨⟨(v ++ u).data.toList, ?_, fun c hc => ?_, rfl⟩, ?_⟩
    · exact ByteArray.size_append
    · rw [app_list, List.mem_append] at hc
      unfold wordB at hv hu
      rw [List.all_eq_true] at hv hu
      rcases hc with hc | hc
      · exact letB_3 (hv c hc)
      · exact letB_3 (hu c hc)
    · rw [app_list]
      have := shN_self v.data.toList u.data.toList
      omega
  rw [h] at hm
  cases hm
theorem PosV.shPair {D N : Nat} (hD : D ≤ 3) {b : Prop} {s t : Tm} {f h : VF} (hs : wordB (D : Int) s.s.data.toList = true) (ht : wordB (D : Int) t.s.data.toList = true) (hps : 0 < s.n ∧ 1 ≤ s.d) (hpt : 0 < t.n ∧ 1 ≤ t.d) (hfit : s.s.size + t.s.size ≤ N) (hf : PosV b f) (e : Go.Proofs.YtdgkkcjjfpenpaaGreatDoor.shPair D N s t f = some h) : PosV True h := by
  cases hok : fOk (s.n * t.n) (s.d * t.d) with
  | false => rw [shPair_no hok] at e; cases e
  | true =>
    rw [shPair_in hok hfit] at e
    have h1 : 0 < s.n * t.n := Int.mul_pos hps.1 hpt.1
    have h2 : 0 < s.d * t.d := Int.mul_pos (by omega) (by omega)
    have h3 := PosV.shK (f_pos h1 (by omega) hok) (isF_abs (fOk_isFp hok)).2.2 hf (fun x hx => Nat.pos_of_ne_zero (eachL_num hx).2) e
    exact ⟨h3.1, fun _ => h3.2 (.inr (each_some (wordB_up hD hs) (wordB_up hD ht)))⟩
/-- terms that are positive -/
def PosT (ts : List Tm) : Prop := ∀ t ∈ ts, 0 < t.n ∧ 1 ≤ t.d
theorem PosV.shRow {D N : Nat} (hD : D ≤ 3) {s : Tm} (hs : wordB (D : Int) s.s.data.toList = true) (hps : 0 < s.n ∧ 1 ≤ s.d) : ∀ {ys : List Tm} {b : Prop} {f h : VF}, (∀ t ∈ ys, wordB (D : Int) t.s.data.toList = true ∧ s.s.size + t.s.size ≤ N) → PosT ys → PosV b f → Go.Proofs.YtdgkkcjjfpenpaaGreatDoor.shRow D N s ys f = some h → PosV (b ∨ ys ≠ []) h
  | [], b, f, h, _, _, hf, e => by
    unfold Go.Proofs.YtdgkkcjjfpenpaaGreatDoor.shRow at e
    injection e with e
    rw [← e]
    exact ⟨hf.1, fun hb => hf.2 (by rcases hb with hb | hb; exact hb; exact absurd rfl hb)⟩
  | t :: ys, b, f, h, hy, hp, hf, e => by
    unfold Go.Proofs.YtdgkkcjjfpenpaaGreatDoor.shRow at e
    obtain ⟨f', h1, h2⟩ := Option.bind_eq_some_iff.1 e
    have ht := hy t (List.mem_cons_self ..)
    have h3 := PosV.shRow hD hs hps (fun u hu => hy u (List.mem_cons_of_mem _ hu)) (fun u hu => hp u (List.mem_cons_of_mem _ hu)) (hf.shPair hD hs ht.1 hps (hp t (List.mem_cons_self ..)) ht.2 h1) h2
    exact ⟨h3.1, fun _ => h3.2 (.inl trivial)⟩
theorem PosV.shAll {D N ka kb : Nat} (hD : D ≤ 3) (hk : ka + kb ≤ N) {ys : List Tm} (hy : ∀ t ∈ ys, wordB (D : Int) t.s.data.toList = true ∧ t.s.size = kb) (hpy : PosT ys) (hye : ys ≠ []) : ∀ {xs : List Tm} {b : Prop} {f h : VF}, (∀ t ∈ xs, wordB (D : Int) t.s.data.toList = true ∧ t.s.size = ka) → PosT xs → PosV b f → Go.Proofs.YtdgkkcjjfpenpaaGreatDoor.shAll D N ys xs f = some h → PosV (b ∨ xs ≠ []) h
  | [], b, f, h, _, _, hf, e => by
    unfold Go.Proofs.YtdgkkcjjfpenpaaGreatDoor.shAll at e
    injection e with e
    rw [← e]
    exact ⟨hf.1, fun hb => hf.2 (by rcases hb with hb | hb; exact hb; exact absurd rfl hb)⟩
  | s :: xs, b, f, h, hx, hp, hf, e => by
    unfold Go.Proofs.YtdgkkcjjfpenpaaGreatDoor.shAll at e
    obtain ⟨f', h1, h2⟩ := Option.bind_eq_some_iff.1 e
    have hs := hx s (List.mem_cons_self ..)
    have h3 := PosV.shAll hD hk hy hpy hye (fun u hu => hx u (List.mem_cons_of_mem _ hu)) (fun u hu => hp u (List.mem_cons_of_mem _ hu)) (hf.shRow hD hs.1 (hp s (List.mem_cons_self ..)) (fun t ht => ⟨(hy t ht).1, by rw [hs.2, (hy t ht).2]; exact hk⟩) hpy h1) h2
    exact ⟨h3.1, fun _ => h3.2 (.inl (.inr hye))⟩
theorem shsL_pos {D N ka kb : Nat} (hD : D ≤ 3) (hN : N ≤ 5) (hk : ka + kb ≤ N) {xs ys ts : List Tm} (hx : OneLen D N ka xs) (hy : OneLen D N kb ys) (px : PosT xs ∧ xs ≠ []) (py : PosT ys ∧ ys ≠ []) (e : shsL D N xs ys = some ts) : PosT ts ∧ ts ≠ [] := by
  unfold shsL at e
  obtain ⟨h, h1, rfl⟩ := Option.map_eq_some_iff.1 e
  have hg := GoodV.shAll hD hN (fun t ht => (ser_wordB hy.1 t ht).1) (fun t ht => (ser_wordB hx.1 t ht).1) (GoodV.none _) h1
  have hp := PosV.shAll (b := False) hD hk (fun t ht => ⟨(ser_wordB hy.1 t ht).1, hy.2 t ht⟩) py.1 py.2 (fun t ht => ⟨(ser_wordB hx.1 t ht).1, hx.2 t ht⟩) px.1 ⟨fun s p hs => (by cases hs), fun hb => hb.elim⟩ h1
  refine ⟨fun t ht => hp.1 t.s (t.n, t.d) (termsOf_iff.1 ht).2, fun he => ?_⟩
  obtain ⟨s, p, hs⟩ := hp.2 (.inr px.2)
  have hm : (⟨s, p.1, p.2⟩ : Tm) ∈ termsOf h (allW D N) := termsOf_iff.2 ⟨(hg s p hs).1, hs⟩
  rw [he] at hm
  cases hm
theorem mulD_pos {D N : Nat} (hD : D ≤ 3) (hN : N ≤ 5) (hs : shapeB (D : Int) (N : Int) = true) : ∀ {os : List (Option (List Tm))} {ks : List Nat} {k : Nat} {x ts : List Tm}, os.length = ks.length → (∀ i (h : i < os.length) (h' : i < ks.length) ys, os[i] = some ys → OneLen D N ks[i] ys ∧ PosT ys ∧ ys ≠ []) → k + ks.sum ≤ N → OneLen D N k x → PosT x ∧ x ≠ [] → mulD D N os (some x) = some ts → PosT ts ∧ ts ≠ []
  | [], [], k, x, ts, _, _, _, _, hp, e => by
    injection e with e
    subst e
    exact hp
  | o :: os, kk :: ks, k, x, ts, hl, hg, hk, hx, hp, e => by
    have h0 := hg 0 (by simp) (by simp)
    rw [List.sum_cons] at hk
    rw [mulD] at e
    cases o with
    | none =>
      simp only [Option.bind_some, Option.bind_none] at e
      rw [mulD_none] at e
      cases e
    | some y =>
      simp only [Option.bind_some] at e
      have hy := h0 y rfl
      cases hr : shsL D N x y with
      | none => rw [hr, mulD_none] at e; cases e
      | some z =>
        rw [hr] at e
        have hz := shsL_good hD hN hs hx hy.1 hr
        have hq := shsL_pos hD hN (by show k + kk ≤ N; omega) hx hy.1 hp hy.2 hr
        exact mulD_pos hD hN hs (os := os) (ks := ks) (k := k + kk) (by simpa using hl) (fun i h h' ys he => hg (i + 1) (by simpa using h) (by simpa using h') ys he) (by omega) hz hq e
/-- **a dual series is positive and not empty** -/
theorem DualIs.pos {D N : Nat} (hD : D ≤ 3) (hN : N ≤ 5) (hs : shapeB (D : Int) (N : Int) = true) : ∀ {w : ByteArray} {o : Option (List Tm)}, DualIs D N w o → wordB (D : Int) w.data.toList = true → w.size ≤ N → ∀ ts, o = some ts → PosT ts ∧ ts ≠ [] := by
  intro w o h
  induction h with
  | lyn w o hl _ ih =>
    intro hw hz ts he
    obtain ⟨ys, rfl, rfl⟩ := Option.map_eq_some_iff.1 he
    have h1 := ih (wordB_sub hw 1 w.size) (by rw [endS_size]; omega) ys rfl
    refine ⟨fun t ht => ?_, fun he => h1.2 (List.map_eq_nil_iff.1 he)⟩
    obtain ⟨u, hu, rfl⟩ := List.mem_map.1 ht
    exact h1.1 u hu
  | fac w fs os hl hf hlen hdu ih =>
    intro hw hz ts he
    obtain ⟨x, h1, h2⟩ := Option.bind_eq_some_iff.1 he
    have hfw := hf.wordB hw
    have h3 := mulD_pos hD hN hs (os := os) (ks := fs.map (·.size)) (k := 0) (by rw [List.length_map]; exact hlen) (fun i h h' ys hy => by
      have hi : i < fs.length := by rw [List.length_map] at h'; exact h'
      have hsz : (fs[i]).size ≤ N := by have := (hf.small _ (List.getElem_mem hi)).2.1; omega
      rw [List.getElem_map]
      exact ⟨(hdu i hi h).good hD hN hs (hfw _ (List.getElem_mem hi)) hsz ys hy, ih i hi h (hfw _ (List.getElem_mem hi)) hsz ys hy⟩) (by rw [hf.sum]; omega) (unit_good hs) ⟨fun t ht => by obtain rfl := List.mem_singleton.1 ht; exact ⟨by decide, by decide⟩, by simp⟩ h1
    unfold scaleL at h2
    split at h2
    case isFalse => cases h2
    rename_i hok
    injection h2 with h2
    subst h2
    have hq : 1 ≤ ordG none 0 1 fs := by
      have h4 := hf.len
      exact (ordG_bd fs none 0 1 (by omega) (by omega) (by omega)).1
    refine ⟨fun t ht => ?_, fun he => h3.2 (List.map_eq_nil_iff.1 he)⟩
    obtain ⟨u, hu, rfl⟩ := List.mem_map.1 ht
    have hu2 := h3.1 u hu
    unfold okAll at hok
    rw [List.all_eq_true] at hok
    have h5 := hok u hu
    have h6 : 0 < u.n * 1 := by omega
    have h7 : 0 < u.d * ordG none 0 1 fs := Int.mul_pos (by omega) (by omega)
    exact ⟨f_pos h6 (by omega) h5, (isF_abs (fOk_isFp h5)).2.2⟩
end Go.Proofs.YtdgkkcjjfpenpaaGreatDoor

namespace Go.Proofs.YtdgkkcjjfpenpaaGreatDoor
open Go.RowKit
set_option linter.unusedVariables false

/-- the factor ahead of the k-th one -/
def prevO (ss : List ByteArray) (k : Nat) : Option ByteArray := if k = 0 then none else ss[k - 1]?
theorem prevO_succ {ss : List ByteArray} {k : Nat} (hk : k < ss.length) : prevO ss (k + 1) = some ss[k] := by
  unfold prevO
  rw [if_neg (by omega), Nat.add_sub_cancel, List.getElem?_eq_getElem hk]
theorem ordG_next {ss : List ByteArray} {k : Nat} (hk : k < ss.length) (e d : Int) : ordG (prevO ss k) e d (ss.drop k) = if prevO ss k = some ss[k] then ordG (prevO ss (k + 1)) (e + 1) (d * (e + 1)) (ss.drop (k + 1)) else ordG (prevO ss (k + 1)) 1 (d * 1) (ss.drop (k + 1)) := by
  rw [List.drop_eq_getElem_cons hk, ordG, prevO_succ hk]
theorem pow5_next (k : Nat) : (5 : Int) ^ (k + 1) = 5 ^ k * 5 := Int.pow_succ 5 k
theorem pow5_le : ∀ {k : Nat}, k ≤ 5 → (5 : Int) ^ k ≤ 3125
  | 0, _ | 1, _ | 2, _ | 3, _ | 4, _ | 5, _ => by decide
  | k + 6, h => by omega
/-- how far the count of orders has come -/
def OrdAt (ss : List ByteArray) (k : Nat) (p e : Int) : Prop := 0 ≤ e ∧ e ≤ k ∧ 1 ≤ p ∧ p ≤ 5 ^ k ∧ ordG none 0 1 ss = ordG (prevO ss k) e p (ss.drop k)
theorem OrdAt.start (ss : List ByteArray) : OrdAt ss 0 1 0 := ⟨by omega, by omega, by omega, by simp, by simp [prevO]⟩
theorem OrdAt.same {ss : List ByteArray} {k : Nat} {p e : Int} (h : OrdAt ss k p e) (hk : k < ss.length) (h5 : ss.length ≤ 5) (he : prevO ss k = some ss[k]) : OrdAt ss (k + 1) (p * (e + 1)) (e + 1) ∧ 1 ≤ p * (e + 1) ∧ p * (e + 1) ≤ 3125 := by
  obtain ⟨h1, h2, h3, h4, h6⟩ := h
  rw [ordG_next hk, if_pos he] at h6
  have a : p * (e + 1) ≤ 5 ^ k * 5 := Int.mul_le_mul h4 (by omega) (by omega) (Int.le_trans (by omega) h4)
  have b : 1 ≤ p * (e + 1) := by have := Int.mul_le_mul h3 (show (1 : Int) ≤ e + 1 by omega) (by omega) (by omega); omega
  have c := pow5_le (k := k + 1) (by omega)
  rw [pow5_next] at c
  exact ⟨⟨by omega, by omega, b, by rw [pow5_next]; exact a, h6⟩, b, Int.le_trans a c⟩
theorem OrdAt.other {ss : List ByteArray} {k : Nat} {p e : Int} (h : OrdAt ss k p e) (hk : k < ss.length) (he : prevO ss k ≠ some ss[k]) : OrdAt ss (k + 1) (p * 1) 1 := by
  obtain ⟨h1, h2, h3, h4, h6⟩ := h
  rw [ordG_next hk, if_neg he] at h6
  refine ⟨by omega, by omega, by omega, ?_, h6⟩
  rw [pow5_next]
  omega
theorem OrdAt.bd {ss : List ByteArray} {k : Nat} {p e : Int} (h : OrdAt ss k p e) (hk : k ≤ 5) : 1 ≤ p ∧ p ≤ 3125 ∧ 0 ≤ e ∧ e ≤ 5 := ⟨h.2.2.1, Int.le_trans h.2.2.2.1 (pow5_le hk), h.1, by have := h.2.1; omega⟩
theorem OrdAt.end_ {ss : List ByteArray} {p e : Int} (h : OrdAt ss ss.length p e) : ordG none 0 1 ss = p := by
  have := h.2.2.2.2
  rw [List.drop_length] at this
  exact this

set_option maxRecDepth 100000 in
set_option maxHeartbeats 4000000 in
theorem ordersOf_c (a : Option Addr) (cap : Nat) (ss : List ByteArray) (hl : ss.length ≤ 5) (w : World) (hr : SRow w a ss) :
    Calls Tryz.prog 43 #[.slice a ss.length cap] w fun e w' => e = .returned (.int .i64 (ordG none 0 1 ss)) ∧ Below w.heap.size w w' := by
  have HR := Lib.hid hr
  clear hr
  go_enter Tryz.func43, Tryz.ntmps43
  go_wp2_with fail
  go_loopw [3, 4, 9] (fun vp ve vk wr => ∃ (k : Nat) (p e : Int), k ≤ ss.length ∧ vp = .int .i64 p ∧ ve = .int .i64 e ∧ vk = .int .i64 k ∧ OrdAt ss k p e ∧ Below w.heap.size w wr) (fun _ _ vk _ => ss.length - (intOf vk).toNat)
  case atStart => exact ⟨0, 1, 0, Nat.zero_le _, rfl, rfl, rfl, OrdAt.start ss, Below.refl _ _⟩
  case round =>
    obtain ⟨k, p, e, hk, rfl, rfl, rfl, hO, hB⟩ := hrel
    obtain ⟨p1, p2, e1, e2⟩ := hO.bd (by omega)
    have HO := Lib.hid hO
    have HB := Lib.hid hB
    clear hO hB
    by_cases hlt : k < ss.length
    · rcases HR.out with h0 | ⟨b, off, rfl, hb, hT⟩
      · rw [h0] at hlt; simp at hlt
      have hbz : b < wr.heap.size := Nat.lt_of_lt_of_le hb HB.out.size
      have c0 := hT.below HB.out hb k hlt
      by_cases hk0 : k = 0
      · obtain rfl : e = 0 := by have := HO.out.2.1; omega
        have HN := Lib.hid (HO.out.other hlt (by unfold prevO; rw [if_pos hk0]; simp))
        subst hk0
        clear e1 e2
        simp only [Nat.add_zero] at c0
        clear HO hT
        go_wp2
        go_roundw
        case rel => exact ⟨1, p * 1, 1, by omega, by go_num, by go_num, by go_num, HN.out, HB.out⟩
        case measure => simp [intOf]; omega
      · have c1 := hT.below HB.out hb (k - 1) (by omega)
        have hix : ((k - 1 : Nat) : Int) = (k : Int) - 1 := by omega
        have hpv : prevO ss k = some ss[k - 1] := by unfold prevO; rw [if_neg hk0, List.getElem?_eq_getElem (by omega)]
        by_cases he : ss[k - 1] = ss[k]
        · obtain ⟨hN, m1, m2⟩ := HO.out.same hlt hl (by rw [hpv, he])
          have HN := Lib.hid hN
          rw [he] at c1
          obtain ⟨s, hs⟩ : ∃ s, ss[k] = s := ⟨_, rfl⟩
          rw [hs] at c0 c1
          have hqs := str_eq_same s
          have hqs2 : (s.toList != s.toList) = false := by simp
          clear hN hpv he hs HO hT
          go_wp2
          go_roundw
          case rel => exact ⟨k + 1, p * (e + 1), e + 1, by omega, by go_num, by go_num, by go_num, HN.out, HB.out⟩
          case measure => simp [intOf]; omega
        · have HN := Lib.hid (HO.out.other hlt (by rw [hpv]; simpa using he))
          obtain ⟨s, hs⟩ : ∃ s, ss[k] = s := ⟨_, rfl⟩
          obtain ⟨t, ht⟩ : ∃ t, ss[k - 1] = t := ⟨_, rfl⟩
          rw [hs] at c0 he
          rw [ht] at c1 he
          have hq := str_eq_other (fun h => he h.symm : s ≠ t)
          have hq3 : (s.toList != t.toList) = true := by simp [bne, hq]
          clear hpv he hs ht HO hT
          go_wp2
          go_roundw
          case rel => exact ⟨k + 1, p * 1, 1, by omega, by go_num, by go_num, by go_num, HN.out, HB.out⟩
          case measure => simp [intOf]; omega
    · obtain rfl : k = ss.length := by omega
      have HE := Lib.hid HO.out.end_
      go_wp2
      go_ret
      exact ⟨by rw [HE.out]; rfl, HB.out⟩
end Go.Proofs.YtdgkkcjjfpenpaaGreatDoor

namespace Go.Proofs.YtdgkkcjjfpenpaaGreatDoor
open Go.RowKit

section
variable (L V p q : Int) (g : Nat) (ts : List Tm) (w : World)
variable {cX : Nat}
set_option maxRecDepth 100000 in
set_option maxHeartbeats 4000000 in
theorem iScaleR_3 (h1 : serB L V ts = true) (h2 : isF p q = true) (hF : ∀ t ∈ ts, isF t.n t.d = true) (hok : okAll ts p q = false) (hl : ts.length ≤ 1048576) (hs : ∀ i (h : i < ts.length), (ts[i]).s.size ≤ maxLen) (hb : g < w.heap.size) (ht : TermsIn w g 0 ts) :
    Calls Tryz.prog 42 #[.agg #[.int .i64 L, .int .i64 V, .slice (some ⟨g, 0, none⟩) ts.length cX], .agg #[.int .i64 p, .int .i64 q]] w (SerPost 0 0 [] 3 w) := by
  have HT := Lib.hid ht
  have HS := Lib.hid hs
  have HF := Lib.hid hF
  have HZ := Lib.hid (ser_small h1)
  clear hF
  clear ht hs
  go_enter Tryz.func42, Tryz.ntmps42
  go_wp2_with fail
  refine (iIsSeries_c L V g 0 _ ts hl HS.out _ (by simp; omega) (HT.out.below (below3 w _ _ _) hb)).mono ?_
  rintro e w1 ⟨rfl, hb1⟩
  have hB := hb1
  simp only [World.size_alloc] at hB
  have hz := hB.size
  simp only [World.size_alloc] at hz
  obtain ⟨hc, hf⟩ := bcellB hB
  have x0 : w1.cell? ⟨w.heap.size, 0, none⟩ = some (.int .i64 L) := (hc _ _ (by omega)).trans (by go_simp)
  have x1 : w1.cell? ⟨w.heap.size, 1, none⟩ = some (.int .i64 V) := (hc _ _ (by omega)).trans (by go_simp)
  have x2 : w1.cell? ⟨w.heap.size, 2, none⟩ = some (.slice (some ⟨g, 0, none⟩) ts.length cX) := (hc _ _ (by omega)).trans (by go_simp)
  have y0 : w1.cell? ⟨w.heap.size + 1, 0, none⟩ = some (.int .i64 p) := (hc _ _ (by omega)).trans (by go_simp)
  have y1 : w1.cell? ⟨w.heap.size + 1, 1, none⟩ = some (.int .i64 q) := (hc _ _ (by omega)).trans (by go_simp)
  have hz2 : w.heap.size + 1 + 1 < w1.heap.size := by omega
  have HB := Lib.hid hB
  clear hb1 hB hc hf
  rw [h1]
  go_wp2_with fail
  refine (isFraction_c _ _ _).mono ?_
  rintro e w2 ⟨rfl, hb2⟩
  rw [h2]
  have hz3 := hb2.size
  have HB2 := Lib.hid (HB.out.trans (hb2.mono (by omega)))
  obtain ⟨hc, hf⟩ := bcellB HB2.out
  clear x0 x1 x2 y0 y1
  have x0 : w2.cell? ⟨w.heap.size, 0, none⟩ = some (.int .i64 L) := (hc _ _ (by omega)).trans (by go_simp)
  have x1 : w2.cell? ⟨w.heap.size, 1, none⟩ = some (.int .i64 V) := (hc _ _ (by omega)).trans (by go_simp)
  have x2 : w2.cell? ⟨w.heap.size, 2, none⟩ = some (.slice (some ⟨g, 0, none⟩) ts.length cX) := (hc _ _ (by omega)).trans (by go_simp)
  have y0 : w2.cell? ⟨w.heap.size + 1, 0, none⟩ = some (.int .i64 p) := (hc _ _ (by omega)).trans (by go_simp)
  have y1 : w2.cell? ⟨w.heap.size + 1, 1, none⟩ = some (.int .i64 q) := (hc _ _ (by omega)).trans (by go_simp)
  have hz4 : w.heap.size + 1 + 1 < w2.heap.size := by omega
  have hg2 : g < w2.heap.size := by omega
  have hW : Below w.heap.size w w2 := (below3 w _ _ _).trans (HB2.out.mono (by omega))
  have HT2 := Lib.hid (HT.out.below hW hb)
  clear hb2 hc hf hW
  go_wp2_with fail
  refine (multiplesOf_c p q h2 _ _ ts hl HF.out _ (.inr ⟨g, 0, rfl, hg2, HT2.out⟩)).mono ?_
  rintro e w3 ⟨hb3, _, hE⟩
  obtain rfl := hE hok
  have hz5 := hb3.size
  have HB3 := Lib.hid (HB2.out.trans (hb3.mono (by omega)))
  obtain ⟨hc, hf⟩ := bcellB HB3.out
  have r0 : w3.cell? ⟨w.heap.size + 1 + 1, 0, none⟩ = some (.int .i64 0) := (hc _ _ (by omega)).trans (by go_simp)
  have r1 : w3.cell? ⟨w.heap.size + 1 + 1, 1, none⟩ = some (.int .i64 0) := (hc _ _ (by omega)).trans (by go_simp)
  have r2 : w3.cell? ⟨w.heap.size + 1 + 1, 2, none⟩ = some (.slice none 0 0) := (hc _ _ (by omega)).trans (by go_simp)
  have z0 : w3.frozen? ⟨w.heap.size + 1 + 1, 0, none⟩ = false := (hf _ _ (by omega)).trans (by go_simp)
  have z1 : w3.frozen? ⟨w.heap.size + 1 + 1, 1, none⟩ = false := (hf _ _ (by omega)).trans (by go_simp)
  have z2 : w3.frozen? ⟨w.heap.size + 1 + 1, 2, none⟩ = false := (hf _ _ (by omega)).trans (by go_simp)
  have hz6 : w.heap.size + 1 + 1 < w3.heap.size := by omega
  have hW : Below w.heap.size w w3 := (below3 w _ _ _).trans (HB3.out.mono (by omega))
  clear hb3 hc hf x0 x1 x2 y0 y1 hE
  go_wp2
  exact bodyPost_ret (v := .tuple #[.agg #[.int .i64 0, .int .i64 0, .slice none 0 0], .int .i64 3]) (by simp [results, Tryz.results42, go_sem, r0, r1, r2]) rfl (SerPost.err 3 rfl (by go_grown))
set_option maxRecDepth 100000 in
set_option maxHeartbeats 8000000 in
theorem iScaleR_4 (h1 : serB L V ts = true) (h2 : isF p q = true) (hF : ∀ t ∈ ts, isF t.n t.d = true) (hok : okAll ts p q = true) (hl : ts.length ≤ 1048576) (hs : ∀ i (h : i < ts.length), (ts[i]).s.size ≤ maxLen) (hb : g < w.heap.size) (ht : TermsIn w g 0 ts) :
    Calls Tryz.prog 42 #[.agg #[.int .i64 L, .int .i64 V, .slice (some ⟨g, 0, none⟩) ts.length cX], .agg #[.int .i64 p, .int .i64 q]] w (SerPost L V (keepL p q ts) 0 w) := by
  have HT := Lib.hid ht
  have HS := Lib.hid hs
  have HF := Lib.hid hF
  have HZ := Lib.hid (ser_small h1)
  clear hF
  clear ht hs
  go_enter Tryz.func42, Tryz.ntmps42
  go_wp2_with fail
  refine (iIsSeries_c L V g 0 _ ts hl HS.out _ (by simp; omega) (HT.out.below (below3 w _ _ _) hb)).mono ?_
  rintro e w1 ⟨rfl, hb1⟩
  have hB := hb1
  simp only [World.size_alloc] at hB
  have hz := hB.size
  simp only [World.size_alloc] at hz
  obtain ⟨hc, hf⟩ := bcellB hB
  have x0 : w1.cell? ⟨w.heap.size, 0, none⟩ = some (.int .i64 L) := (hc _ _ (by omega)).trans (by go_simp)
  have x1 : w1.cell? ⟨w.heap.size, 1, none⟩ = some (.int .i64 V) := (hc _ _ (by omega)).trans (by go_simp)
  have x2 : w1.cell? ⟨w.heap.size, 2, none⟩ = some (.slice (some ⟨g, 0, none⟩) ts.length cX) := (hc _ _ (by omega)).trans (by go_simp)
  have y0 : w1.cell? ⟨w.heap.size + 1, 0, none⟩ = some (.int .i64 p) := (hc _ _ (by omega)).trans (by go_simp)
  have y1 : w1.cell? ⟨w.heap.size + 1, 1, none⟩ = some (.int .i64 q) := (hc _ _ (by omega)).trans (by go_simp)
  have hz2 : w.heap.size + 1 + 1 < w1.heap.size := by omega
  have HB := Lib.hid hB
  clear hb1 hB hc hf
  rw [h1]
  go_wp2_with fail
  refine (isFraction_c _ _ _).mono ?_
  rintro e w2 ⟨rfl, hb2⟩
  rw [h2]
  have hz3 := hb2.size
  have HB2 := Lib.hid (HB.out.trans (hb2.mono (by omega)))
  obtain ⟨hc, hf⟩ := bcellB HB2.out
  clear x0 x1 x2 y0 y1
  have x0 : w2.cell? ⟨w.heap.size, 0, none⟩ = some (.int .i64 L) := (hc _ _ (by omega)).trans (by go_simp)
  have x1 : w2.cell? ⟨w.heap.size, 1, none⟩ = some (.int .i64 V) := (hc _ _ (by omega)).trans (by go_simp)
  have x2 : w2.cell? ⟨w.heap.size, 2, none⟩ = some (.slice (some ⟨g, 0, none⟩) ts.length cX) := (hc _ _ (by omega)).trans (by go_simp)
  have y0 : w2.cell? ⟨w.heap.size + 1, 0, none⟩ = some (.int .i64 p) := (hc _ _ (by omega)).trans (by go_simp)
  have y1 : w2.cell? ⟨w.heap.size + 1, 1, none⟩ = some (.int .i64 q) := (hc _ _ (by omega)).trans (by go_simp)
  have hz4 : w.heap.size + 1 + 1 < w2.heap.size := by omega
  have hg2 : g < w2.heap.size := by omega
  have hW : Below w.heap.size w w2 := (below3 w _ _ _).trans (HB2.out.mono (by omega))
  have HT2 := Lib.hid (HT.out.below hW hb)
  clear hb2 hc hf hW
  go_wp2_with fail
  refine (multiplesOf_c p q h2 _ _ ts hl HF.out _ (.inr ⟨g, 0, rfl, hg2, HT2.out⟩)).mono ?_
  rintro e w3 ⟨hb3, hE, _⟩
  obtain ⟨bm, rfl, hbm, hM⟩ := hE hok
  have hz5 := hb3.size
  have HM := Lib.hid hM
  have hbl := hM.lt
  have HB3 := Lib.hid (HB2.out.trans (hb3.mono (by omega)))
  have HT3 := Lib.hid (HT2.out.below hb3 hg2)
  obtain ⟨hc, hf⟩ := bcellB HB3.out
  clear x0 x1 x2 y0 y1
  have x0 : w3.cell? ⟨w.heap.size, 0, none⟩ = some (.int .i64 L) := (hc _ _ (by omega)).trans (by go_simp)
  have x1 : w3.cell? ⟨w.heap.size, 1, none⟩ = some (.int .i64 V) := (hc _ _ (by omega)).trans (by go_simp)
  have x2 : w3.cell? ⟨w.heap.size, 2, none⟩ = some (.slice (some ⟨g, 0, none⟩) ts.length cX) := (hc _ _ (by omega)).trans (by go_simp)
  have hz6 : w.heap.size + 1 + 1 < w3.heap.size := by omega
  have hg3 : g < w3.heap.size := by omega
  clear hb3 hc hf hE hM
  go_wp2_with fail
  go_loopw [8, 35] (fun v vk wr => ∃ (k : Nat) (at_ : Option Addr) (l c : Nat), k ≤ ts.length ∧ vk = .int .i64 k ∧ v = .slice at_ l c ∧ l = (keepL p q (ts.take k)).length ∧ OwnT wr w3.heap.size (.slice at_ l c) (keepL p q (ts.take k)) ∧ Below w3.heap.size w3 wr) (fun _ vk _ => ts.length - (intOf vk).toNat)
  case atStart => exact ⟨0, none, 0, 0, Nat.zero_le _, rfl, rfl, rfl, OwnT.nil _ _, Below.refl _ _⟩
  case round =>
    obtain ⟨k, av, lv, cv, hk, rfl, rfl, hlv, hO, hB⟩ := hrel
    have HO := Lib.hid hO
    have HBr := Lib.hid hB
    have HL := Lib.hid hlv
    have hzr := hB.size
    have hfew := keep_le (p := p) (q := q) (ts := ts) (k := k)
    clear hO hB hlv x0 x1 x2
    by_cases hlt : k < ts.length
    · obtain ⟨c0, c1, c2⟩ := HT3.out.below HBr.out hg3 k hlt
      have hsz := HS.out k hlt
      have HK := Lib.hid (keep_snoc (p := p) (q := q) hlt)
      have HMa := Lib.hid (mulF_at (ts := ts) (p := p) (q := q) ts.length (Nat.le_refl _) k hlt hlt)
      have hv := HF.out _ (List.getElem_mem hlt)
      obtain ⟨s, n, d, het⟩ : ∃ s n d, ts[k] = ⟨s, n, d⟩ := ⟨_, _, _, rfl⟩
      rw [het] at c0 c1 c2 hsz HK HMa hv
      simp only [mulT] at c0 c1 c2 hsz HK HMa hv
      simp only [Nat.zero_add] at c0 c1 c2
      simp only [prodFm] at HMa
      generalize fN (n * p) (d * q) = N at *
      generalize fD (n * p) (d * q) = D at *
      have hF2 := isF_out hv
      have hsm : SmallF (n, d) := ⟨by simp only; omega, by simp only; omega⟩
      have HSm := Lib.hid hsm
      have HMr := Lib.hid (HM.out.below HBr.out hbl)
      clear het hF2 hsm hv
      go_wp2_with (at_lookup; refine wpList_lookF1 rfl _ _ rfl rfl (HMr.out.alloc _) n d rfl HSm.out ?_; rw [HMa.out]; simp only [look1])
      refine (isZero_c _ _ _).mono ?_
      rintro e w5 ⟨rfl, hb5⟩
      have hbs := hb5
      simp only [World.size_alloc] at hbs
      have hz7 := hbs.size
      simp only [World.size_alloc] at hz7
      have t0 : w5.cell? ⟨wr.heap.size, 0, none⟩ = some (.string s) := (hbs.cell (p := ⟨wr.heap.size, 0, none⟩) (show wr.heap.size < wr.heap.size + 1 + 1 by omega)).trans (by go_simp)
      have u0 : w5.cell? ⟨wr.heap.size + 1, 0, none⟩ = some (.int .i64 N) := (hbs.cell (p := ⟨wr.heap.size + 1, 0, none⟩) (show wr.heap.size + 1 < wr.heap.size + 1 + 1 by omega)).trans (by go_simp)
      have u1 : w5.cell? ⟨wr.heap.size + 1, 1, none⟩ = some (.int .i64 D) := (hbs.cell (p := ⟨wr.heap.size + 1, 1, none⟩) (show wr.heap.size + 1 < wr.heap.size + 1 + 1 by omega)).trans (by go_simp)
      have HO5 := Lib.hid (((HO.out.alloc (.cells #[.string s, .int .i64 n, .int .i64 d] 46)).alloc (.cells #[.int .i64 N, .int .i64 D] 44)).below hb5 (fun g h => by have := (HO.out.lt g h).2; simp; omega))
      have HB5 := Lib.hid (HBr.out.trans (((below2 wr (.cells #[.string s, .int .i64 n, .int .i64 d] 46) (.cells #[.int .i64 N, .int .i64 D] 44)).mono (by omega)).trans (hbs.mono (by omega))))
      have hz8 : wr.heap.size < w5.heap.size := by omega
      have hz9 : wr.heap.size + 1 < w5.heap.size := by omega
      have hzA : w3.heap.size ≤ w5.heap.size := by omega
      clear hb5 hbs c0 c1 c2 HMa
      cases hk0 : (N == 0 && D == 1) with
      | true =>
        have hK := HK.out
        simp only [keepT, hk0, Bool.not_true, cond_false, List.append_nil] at hK
        have HK2 := Lib.hid hK
        clear hK hk0
        go_wp2
        go_roundw
        case rel => exact ⟨k + 1, av, lv, cv, by omega, by go_num, rfl, by rw [HK2.out]; exact HL.out, by rw [HK2.out]; exact HO5.out, HB5.out⟩
        case measure => simp [intOf]; omega
      | false =>
        have hK := HK.out
        simp only [keepT, hk0, Bool.not_false, cond_true] at hK
        have HK2 := Lib.hid hK
        have HT1 := Lib.hid (terms_one w5 ⟨s, N, D⟩)
        clear hK hk0
        go_wp2_with (at_builtin; refine wpList_append_terms rfl _ _ rfl w3.heap.size (.slice av lv cv) lv (keepL p q (ts.take k)) [⟨s, N, D⟩] rfl HL.out (HO5.out.alloc _) _ 1 1 rfl rfl (.inr ⟨w5.heap.size, 0, rfl, HT1.out⟩) (by have := HL.out; omega) (by simp; omega) ?_)
        intro a6 c6 w6 hO6 hG6 _
        have HB6 := Lib.hid (HB5.out.trans (((below1 w5 _).mono hzA).trans (own_grown (HO5.out.alloc _) hG6 (by simp; omega))))
        have HO6 := Lib.hid hO6
        clear hO6 hG6 t0 u0 u1
        go_wp2
        go_roundw
        case rel => exact ⟨k + 1, a6, _, c6, by omega, by go_num, rfl, by rw [HK2.out, List.length_append, HL.out]; rfl, by rw [HK2.out]; exact HO6.out, HB6.out⟩
        case measure => simp [intOf]; omega
    · obtain rfl : k = ts.length := by omega
      have HBw := Lib.hid (HB3.out.trans (HBr.out.mono (show w.heap.size + 1 + 1 + 1 ≤ w3.heap.size by omega)))
      obtain ⟨hc, hf⟩ := bcellB HBw.out
      have x0 : wr.cell? ⟨w.heap.size, 0, none⟩ = some (.int .i64 L) := (hc _ _ (by omega)).trans (by go_simp)
      have x1 : wr.cell? ⟨w.heap.size, 1, none⟩ = some (.int .i64 V) := (hc _ _ (by omega)).trans (by go_simp)
      have hO := HO.out
      rw [List.take_length] at hO
      have hl2 := HL.out
      rw [List.take_length] at hl2
      rw [List.take_length] at hfew
      subst hl2
      obtain ⟨a', c', he, hle, hNr⟩ := hO.newRow
      injection he with e1 e2 e3
      subst e1 e3
      have HNr := Lib.hid hNr.row
      clear hc hf hO hNr
      go_wp2_with fail
      refine (newSeries_c L V av cv (keepL p q ts) (by omega) (fun i hi => by
        obtain ⟨u, hu, e⟩ := keep_mem (List.getElem_mem hi)
        rw [e]
        have := HZ.out u hu
        show u.s.size ≤ _
        omega) _ HNr.out).mono ?_
      clear x0 x1
      rintro e w5 ⟨gz, rfl, hb5, hg5, hM5, hT5⟩
      have HM5 := Lib.hid hM5
      have HT5 := Lib.hid hT5
      have hz9 := hb5.size
      have HB9 := Lib.hid (HBw.out.trans (hb5.mono (by omega)))
      obtain ⟨hc, hf⟩ := bcellB HB9.out
      have r0 : w5.cell? ⟨w.heap.size + 1 + 1, 0, none⟩ = some (.int .i64 0) := (hc _ _ (by omega)).trans (by go_simp)
      have r1 : w5.cell? ⟨w.heap.size + 1 + 1, 1, none⟩ = some (.int .i64 0) := (hc _ _ (by omega)).trans (by go_simp)
      have r2 : w5.cell? ⟨w.heap.size + 1 + 1, 2, none⟩ = some (.slice none 0 0) := (hc _ _ (by omega)).trans (by go_simp)
      have z0 : w5.frozen? ⟨w.heap.size + 1 + 1, 0, none⟩ = false := (hf _ _ (by omega)).trans (by go_simp)
      have z1 : w5.frozen? ⟨w.heap.size + 1 + 1, 1, none⟩ = false := (hf _ _ (by omega)).trans (by go_simp)
      have z2 : w5.frozen? ⟨w.heap.size + 1 + 1, 2, none⟩ = false := (hf _ _ (by omega)).trans (by go_simp)
      have hzz : w.heap.size + 1 + 1 < w5.heap.size := by omega
      have hW3 : Below w.heap.size w w5 := (below3 w _ _ _).trans (HB9.out.mono (by omega))
      clear hc hf hb5 hM5 hT5
      go_wp2
      refine bodyPost_ret (v := .tuple #[.agg #[.int .i64 L, .int .i64 V, .slice (some ⟨gz, 0, none⟩) (keepL p q ts).length (keepL p q ts).length], .int .i64 0]) (by simp [results, Tryz.results42, go_sem, r0, r1, r2]) rfl ⟨some ⟨gz, 0, none⟩, (keepL p q ts).length, rfl, by go_grown, ?_⟩
      exact ((NewRow.of_to hg5 HM5.out HT5.out).far3 (n := w.heap.size + 1 + 1) (by omega)).mono (by omega) (Nat.le_refl _)
end
end Go.Proofs.YtdgkkcjjfpenpaaGreatDoor

namespace Go.Proofs.YtdgkkcjjfpenpaaGreatDoor
open Go.RowKit
set_option linter.unusedVariables false

set_option maxRecDepth 100000 in
set_option maxHeartbeats 4000000 in
theorem checkFactorsS_c (L1 V1 L2 V2 : Int) (aX aY : Option Addr) (cX cY : Nat) (xs ys : List Tm) (hl1 : xs.length ≤ 1048576) (hl2 : ys.length ≤ 1048576) (hs1 : ∀ i (h : i < xs.length), (xs[i]).s.size ≤ maxLen) (hs2 : ∀ i (h : i < ys.length), (ys[i]).s.size ≤ maxLen) (w : World) (hr1 : Row w aX xs) (hr2 : Row w aY ys) :
    Calls Tryz.prog 55 #[.agg #[.int .i64 L1, .int .i64 V1, .slice aX xs.length cX], .agg #[.int .i64 L2, .int .i64 V2, .slice aY ys.length cY]] w fun e w' => e = .returned (.int .i64 (codeL L1 V1 xs L2 V2 ys)) ∧ Below w.heap.size w w' := by
  have HT1 := Lib.hid hr1
  have HT2 := Lib.hid hr2
  have HS1 := Lib.hid hs1
  have HS2 := Lib.hid hs2
  clear hr1 hr2 hs1 hs2
  cases a1 : serB L1 V1 xs with
  | false =>
    have HC := Lib.hid (codeL_1 (L2 := L2) (V2 := V2) (ys := ys) a1)
    have HA1 := Lib.hid a1
    clear a1
    go_enter Tryz.func55, Tryz.ntmps55
    go_wp2_with fail
    refine (iIs_row L1 V1 aX cX xs hl1 HS1.out _ ((HT1.out.below (below1 w _)).below (below1 _ _))).mono ?_
    rw [HA1.out]
    rintro e w1 ⟨rfl, hb⟩
    have hW := (below2 w (.cells #[.int .i64 L1, .int .i64 V1, .slice aX xs.length cX] 24) (.cells #[.int .i64 L2, .int .i64 V2, .slice aY ys.length cY] 24)).trans (hb.mono (by simp; omega))
    clear hb
    go_wp2
    go_ret
    exact ⟨by rw [HC.out]; rfl, hW⟩
  | true =>
    have HA1 := Lib.hid a1
    go_enter Tryz.func55, Tryz.ntmps55
    go_wp2_with fail
    refine (iIs_row L1 V1 aX cX xs hl1 HS1.out _ ((HT1.out.below (below1 w _)).below (below1 _ _))).mono ?_
    rw [HA1.out]
    rintro e w1 ⟨rfl, hb⟩
    have hB := hb
    simp only [World.size_alloc] at hB
    obtain ⟨hc, hf⟩ := bcellB hB
    have x0 : w1.cell? ⟨w.heap.size, 0, none⟩ = some (.int .i64 L1) := (hc _ _ (by omega)).trans (by go_simp)
    have x1 : w1.cell? ⟨w.heap.size, 1, none⟩ = some (.int .i64 V1) := (hc _ _ (by omega)).trans (by go_simp)
    have x2 : w1.cell? ⟨w.heap.size, 2, none⟩ = some (.slice aX xs.length cX) := (hc _ _ (by omega)).trans (by go_simp)
    have y0 : w1.cell? ⟨w.heap.size + 1, 0, none⟩ = some (.int .i64 L2) := (hc _ _ (by omega)).trans (by go_simp)
    have y1 : w1.cell? ⟨w.heap.size + 1, 1, none⟩ = some (.int .i64 V2) := (hc _ _ (by omega)).trans (by go_simp)
    have y2 : w1.cell? ⟨w.heap.size + 1, 2, none⟩ = some (.slice aY ys.length cY) := (hc _ _ (by omega)).trans (by go_simp)
    have HW := Lib.hid ((below2 w (.cells #[.int .i64 L1, .int .i64 V1, .slice aX xs.length cX] 24) (.cells #[.int .i64 L2, .int .i64 V2, .slice aY ys.length cY] 24)).trans (hB.mono (by omega)))
    have hz : w.heap.size + 1 < w1.heap.size := by have := hB.size; simp at this; omega
    have HC1 := Lib.hid (show Cs w1 [(w.heap.size, 0, .int .i64 L1), (w.heap.size, 1, .int .i64 V1), (w.heap.size, 2, .slice aX xs.length cX), (w.heap.size + 1, 0, .int .i64 L2), (w.heap.size + 1, 1, .int .i64 V2), (w.heap.size + 1, 2, .slice aY ys.length cY)] from ((((((Cs.nil w1).cons hz y2).cons hz y1).cons hz y0).cons (by omega) x2).cons (by omega) x1).cons (by omega) x0)
    clear hc hf hB hb
    go_wp2_with fail
    refine (iIs_row L2 V2 aY cY ys hl2 HS2.out _ (HT2.out.below HW.out)).mono ?_
    rintro e w2 ⟨rfl, hb⟩
    have HC2 := Lib.hid (HC1.out.below hb (Nat.le_refl _))
    have HW2 := Lib.hid (HW.out.trans (hb.mono (by omega)))
    clear hb x0 x1 x2 y0 y1 y2
    cases a2 : serB L2 V2 ys with
    | false =>
      have HC := Lib.hid (codeL_2 (L := L1) (V := V1) (ts := xs) a2)
      clear a1 a2
      go_wp2
      go_ret
      exact ⟨by rw [HC.out]; rfl, HW2.out⟩
    | true =>
      have x0 := HC2.out.get 0 rfl
      have x1 := HC2.out.get 1 rfl
      have x2 := HC2.out.get 2 rfl
      have y0 := HC2.out.get 3 rfl
      have y1 := HC2.out.get 4 rfl
      have y2 := HC2.out.get 5 rfl
      have HA2 := Lib.hid a2
      clear a2 a1
      go_wp2_with fail
      refine (areAlike_c L1 V1 L2 V2 _ _ _ _ _ _ _).mono ?_
      rintro e w3 ⟨rfl, hb⟩
      have HW3 := Lib.hid (HW2.out.trans (hb.mono HW2.out.size))
      clear hb x0 x1 x2 y0 y1 y2
      cases a3 : alikeB L1 V1 L2 V2 with
      | false =>
        have HC := Lib.hid (codeL_3 HA1.out HA2.out a3)
        clear a3
        go_wp2
        go_ret
        exact ⟨by rw [HC.out]; rfl, HW3.out⟩
      | true =>
        have HC := Lib.hid (codeL_4 HA1.out HA2.out a3)
        clear a3
        go_wp2
        go_ret
        exact ⟨by rw [HC.out]; rfl, HW3.out⟩
set_option maxRecDepth 100000 in
set_option maxHeartbeats 4000000 in
theorem iShsR (D N : Nat) (aX aY : Option Addr) (cX cY : Nat) (xs ys : List Tm) (hl1 : xs.length ≤ 1048576) (hl2 : ys.length ≤ 1048576) (hs1 : ∀ i (h : i < xs.length), (xs[i]).s.size ≤ maxLen) (hs2 : ∀ i (h : i < ys.length), (ys[i]).s.size ≤ maxLen) (h1 : serB D N xs = true) (h2 : serB D N ys = true) (w : World) (t1 : Row w aX xs) (t2 : Row w aY ys) :
    Calls Tryz.prog 41 #[.agg #[.int .i64 D, .int .i64 N, .slice aX xs.length cX], .agg #[.int .i64 D, .int .i64 N, .slice aY ys.length cY]] w (ShsPost D N (shsL D N xs ys) w) := by
  have hsh : shapeB (D : Int) (N : Int) = true := by unfold serB at h1; rw [Bool.and_eq_true] at h1; exact h1.1
  have hDN := shape_out hsh
  have HT1 := Lib.hid t1
  have HT2 := Lib.hid t2
  have HS1 := Lib.hid hs1
  have HS2 := Lib.hid hs2
  have HC := Lib.hid (codeL_4 h1 h2 (show alikeB (D : Int) (N : Int) (D : Int) (N : Int) = true by simp [alikeB]))
  have HTm := Lib.hid (fun W r1 r2 => sums_c D N (by omega) (by omega) aX aY cX cY xs ys h1 h2 hl1 hl2 W r1 r2)
  have HMr := Lib.hid (show shsL D N xs ys = (shAll D N ys xs (fun _ => none)).map (fun h => termsOf h (allW D N)) from rfl)
  clear t1 t2 hs1 hs2 h1 h2 hsh
  go_enter Tryz.func41, Tryz.ntmps41
  go_wp2_with fail
  refine (checkFactorsS_c D N D N aX aY cX cY xs ys hl1 hl2 HS1.out HS2.out _ (HT1.out.below (below3 w _ _ _)) (HT2.out.below (below3 w _ _ _))).mono ?_
  rw [HC.out]
  rintro e w1 ⟨rfl, hb⟩
  have HB := Lib.hid (show Below (w.heap.size + 1 + 1 + 1) (((w.alloc (.cells #[.int .i64 D, .int .i64 N, .slice aX xs.length cX] 24)).alloc (.cells #[.int .i64 D, .int .i64 N, .slice aY ys.length cY] 24)).alloc (.cells #[.int .i64 0, .int .i64 0, .slice none 0 0] 24)) w1 from by simpa using hb)
  have hz1 : w.heap.size + 1 + 1 + 1 ≤ w1.heap.size := by have := HB.out.size; simp at this; omega
  have HW := Lib.hid ((below3 w _ _ _).trans (HB.out.mono (by omega)))
  have bc := bcellB HB.out
  have x0 : w1.cell? ⟨w.heap.size, 0, none⟩ = some (.int .i64 D) := (bc.1 _ _ (by omega)).trans (by go_simp)
  have x1 : w1.cell? ⟨w.heap.size, 1, none⟩ = some (.int .i64 N) := (bc.1 _ _ (by omega)).trans (by go_simp)
  have x2 : w1.cell? ⟨w.heap.size, 2, none⟩ = some (.slice aX xs.length cX) := (bc.1 _ _ (by omega)).trans (by go_simp)
  have y0 : w1.cell? ⟨w.heap.size + 1, 0, none⟩ = some (.int .i64 D) := (bc.1 _ _ (by omega)).trans (by go_simp)
  have y1 : w1.cell? ⟨w.heap.size + 1, 1, none⟩ = some (.int .i64 N) := (bc.1 _ _ (by omega)).trans (by go_simp)
  have y2 : w1.cell? ⟨w.heap.size + 1, 2, none⟩ = some (.slice aY ys.length cY) := (bc.1 _ _ (by omega)).trans (by go_simp)
  clear hb bc
  go_wp2_with fail
  refine (HTm.out _ (HT1.out.below HW.out) (HT2.out.below HW.out)).mono ?_
  rw [← HMr.out]
  clear x0 x1 x2 y0 y1 y2
  cases hr : shsL D N xs ys with
  | none =>
    rintro e w2 ⟨a3, c3, rfl, hb, hN⟩
    have HB2 := Lib.hid (HB.out.trans (hb.mono (by omega)))
    have hz2 : w.heap.size + 1 + 1 < w2.heap.size := by have := hb.size; omega
    have bc := bcellB HB2.out
    have r0 : w2.cell? ⟨w.heap.size + 1 + 1, 0, none⟩ = some (.int .i64 0) := (bc.1 _ _ (by omega)).trans (by go_simp)
    have r1 : w2.cell? ⟨w.heap.size + 1 + 1, 1, none⟩ = some (.int .i64 0) := (bc.1 _ _ (by omega)).trans (by go_simp)
    have r2 : w2.cell? ⟨w.heap.size + 1 + 1, 2, none⟩ = some (.slice none 0 0) := (bc.1 _ _ (by omega)).trans (by go_simp)
    have z0 : w2.frozen? ⟨w.heap.size + 1 + 1, 0, none⟩ = false := (bc.2 _ _ (by omega)).trans (by go_simp)
    have z1 : w2.frozen? ⟨w.heap.size + 1 + 1, 1, none⟩ = false := (bc.2 _ _ (by omega)).trans (by go_simp)
    have z2 : w2.frozen? ⟨w.heap.size + 1 + 1, 2, none⟩ = false := (bc.2 _ _ (by omega)).trans (by go_simp)
    have HW2 := Lib.hid ((below3 w _ _ _).trans (HB2.out.mono (by omega)))
    have HRr := Lib.hid hr
    have HN := Lib.hid hN
    clear bc hb hr hN
    go_wp2
    rw [HRr.out]
    refine bodyPost_ret (v := .tuple #[.agg #[.int .i64 0, .int .i64 0, .slice a3 ([] : List Tm).length c3], .int .i64 3]) (by simp [results, Tryz.results41, go_sem, r0, r1, r2]) rfl ⟨a3, c3, rfl, ?_, .inl rfl⟩
    have hW := HW2.out
    go_grown
  | some ts =>
    rintro e w2 ⟨a3, c3, rfl, hb, hN⟩
    have HB2 := Lib.hid (HB.out.trans (hb.mono (by omega)))
    have hz2 : w.heap.size + 1 + 1 < w2.heap.size := by have := hb.size; omega
    have bc := bcellB HB2.out
    have r0 : w2.cell? ⟨w.heap.size + 1 + 1, 0, none⟩ = some (.int .i64 0) := (bc.1 _ _ (by omega)).trans (by go_simp)
    have r1 : w2.cell? ⟨w.heap.size + 1 + 1, 1, none⟩ = some (.int .i64 0) := (bc.1 _ _ (by omega)).trans (by go_simp)
    have r2 : w2.cell? ⟨w.heap.size + 1 + 1, 2, none⟩ = some (.slice none 0 0) := (bc.1 _ _ (by omega)).trans (by go_simp)
    have z0 : w2.frozen? ⟨w.heap.size + 1 + 1, 0, none⟩ = false := (bc.2 _ _ (by omega)).trans (by go_simp)
    have z1 : w2.frozen? ⟨w.heap.size + 1 + 1, 1, none⟩ = false := (bc.2 _ _ (by omega)).trans (by go_simp)
    have z2 : w2.frozen? ⟨w.heap.size + 1 + 1, 2, none⟩ = false := (bc.2 _ _ (by omega)).trans (by go_simp)
    have HW2 := Lib.hid ((below3 w _ _ _).trans (HB2.out.mono (by omega)))
    have HN := Lib.hid hN
    have HRr := Lib.hid hr
    clear bc hb hr hN
    go_wp2
    rw [HRr.out]
    refine bodyPost_ret (v := .tuple #[.agg #[.int .i64 D, .int .i64 N, .slice a3 ts.length c3], .int .i64 0]) (by simp [results, Tryz.results41, go_sem, r0, r1, r2]) rfl ⟨a3, c3, rfl, ?_, ?_⟩
    · have hW := HW2.out
      go_grown
    · have hw2 : w.heap.size + 1 + 1 < w1.heap.size := by omega
      exact ((((HN.out.far1s (n := w.heap.size + 1 + 1) (i := 0) (x := .int .i64 D) (by omega)).far1s (n := w.heap.size + 1 + 1) (i := 1) (x := .int .i64 N) (by omega)).far1s (n := w.heap.size + 1 + 1) (i := 2) (x := .slice a3 ts.length c3) (by omega))).mono (by omega) (by simp)
end Go.Proofs.YtdgkkcjjfpenpaaGreatDoor

namespace Go.Proofs.YtdgkkcjjfpenpaaGreatDoor
open Go.RowKit
set_option linter.unusedVariables false
set_option linter.unusedSimpArgs false

/-- the factors' dual series so far, shuffled -/
def MulAt (D N : Nat) (fs : List ByteArray) (os : List (Option (List Tm))) (k : Nat) (x : List Tm) : Prop :=
  mulD D N os (some [⟨ByteArray.empty, 1, 1⟩]) = mulD D N (os.drop k) (some x) ∧ OneLen D N ((fs.take k).map (·.size)).sum x ∧ PosT x ∧ x ≠ []
/-- what the factors' dual series are -/
def DualsOk (D N : Nat) (fs : List ByteArray) (os : List (Option (List Tm))) : Prop :=
  os.length = fs.length ∧ (fs.map (·.size)).sum ≤ N ∧ ∀ i (h : i < fs.length) (h' : i < os.length) ys, os[i] = some ys → OneLen D N (fs[i]).size ys ∧ PosT ys ∧ ys ≠ []
theorem sum_take_le : ∀ (l : List Nat) (k : Nat), (l.take k).sum ≤ l.sum
  | [], k => by simp
  | x :: l, 0 => by simp
  | x :: l, k + 1 => by
    have := sum_take_le l k
    rw [List.take_succ_cons, List.sum_cons, List.sum_cons]
    omega
theorem sum_take_succ {fs : List ByteArray} {k : Nat} (hk : k < fs.length) : ((fs.take (k + 1)).map (·.size)).sum = ((fs.take k).map (·.size)).sum + (fs[k]).size := by
  rw [List.take_succ_eq_append_getElem hk, List.map_append, List.sum_append]
  simp
theorem MulAt.start {D N : Nat} (hs : shapeB (D : Int) (N : Int) = true) (fs : List ByteArray) (os : List (Option (List Tm))) : MulAt D N fs os 0 [⟨ByteArray.empty, 1, 1⟩] :=
  ⟨by simp, by simpa using unit_good hs, fun t ht => by obtain rfl := List.mem_singleton.1 ht; exact ⟨by decide, by decide⟩, by simp⟩
theorem MulAt.none {D N : Nat} {fs : List ByteArray} {os : List (Option (List Tm))} {k : Nat} {x : List Tm} (h : MulAt D N fs os k x) (hk : k < os.length) (he : os[k] = .none) : mulD D N os (some [⟨ByteArray.empty, 1, 1⟩]) = .none := by
  rw [h.1, List.drop_eq_getElem_cons hk, mulD, he]
  exact mulD_none D N _
theorem MulAt.dead {D N : Nat} {fs : List ByteArray} {os : List (Option (List Tm))} {k : Nat} {x y : List Tm} (h : MulAt D N fs os k x) (hk : k < os.length) (he : os[k] = some y) (hr : shsL D N x y = .none) : mulD D N os (some [⟨ByteArray.empty, 1, 1⟩]) = .none := by
  rw [h.1, List.drop_eq_getElem_cons hk, mulD, he]
  simp only [Option.bind_some, hr]
  exact mulD_none D N _
theorem MulAt.next {D N : Nat} (hD : D ≤ 3) (hN : N ≤ 5) (hs : shapeB (D : Int) (N : Int) = true) {fs : List ByteArray} {os : List (Option (List Tm))} {k : Nat} {x y z : List Tm} (h : MulAt D N fs os k x) (hok : DualsOk D N fs os) (hk : k < fs.length) (hk' : k < os.length) (he : os[k] = some y) (hr : shsL D N x y = some z) : MulAt D N fs os (k + 1) z := by
  obtain ⟨h1, h2, h3, h4⟩ := h
  obtain ⟨y1, y2, y3⟩ := hok.2.2 k hk hk' y he
  have hz := shsL_good hD hN hs h2 y1 hr
  rw [← sum_take_succ hk] at hz
  have hle := sum_take_le (fs.map (·.size)) (k + 1)
  rw [← List.map_take] at hle
  have h5 := hok.2.1
  have hp := shsL_pos hD hN (by rw [sum_take_succ hk] at hle; omega) h2 y1 ⟨h3, h4⟩ ⟨y2, y3⟩ hr
  refine ⟨?_, hz, hp.1, hp.2⟩
  rw [h1, List.drop_eq_getElem_cons hk', mulD, he]
  simp only [Option.bind_some, hr]
theorem MulAt.end_ {D N : Nat} {fs : List ByteArray} {os : List (Option (List Tm))} {k : Nat} {x : List Tm} (h : MulAt D N fs os k x) (hk : os.length ≤ k) : mulD D N os (some [⟨ByteArray.empty, 1, 1⟩]) = some x := by
  rw [h.1, List.drop_eq_nil_of_le hk]
  rfl
theorem far3c {g n o : Nat} {u v x : Value} {w' : World} (h : g ≠ n) : (((w'.setCell ⟨g, 0, none⟩ u).setCell ⟨g, 1, none⟩ v).setCell ⟨g, 2, none⟩ x).cell? ⟨n, o, none⟩ = w'.cell? ⟨n, o, none⟩ := by
  rw [World.cell?_setCell_far _ _ _ _ (by show g ≠ n; exact h), World.cell?_setCell_far _ _ _ _ (by show g ≠ n; exact h), World.cell?_setCell_far _ _ _ _ (by show g ≠ n; exact h)]
theorem isF_one {q : Int} (h1 : 1 ≤ q) (h2 : q ≤ 1000000000) : isF 1 q = true := by
  simp only [isF, decide_eq_true_eq]
  refine ⟨by omega, by omega, by omega, by omega, ?_⟩
  unfold gi
  rw [Int.one_gcd]
  rfl
theorem ser_sizes {L V : Int} {ts : List Tm} (h : serB L V ts = true) : ∀ i (hi : i < ts.length), (ts[i]).s.size ≤ maxLen := fun i hi => by
  have h1 := ser_small h _ (List.getElem_mem hi)
  unfold maxLen
  omega
/-- **ScaleSeries by one part, at a series that is not empty** -/
theorem shareS_c (D N : Nat) (q : Int) (h1 : 1 ≤ q) (h2 : q ≤ 1000000000) (xs : List Tm) (hx : serB (D : Int) (N : Int) xs = true) (h0 : xs ≠ []) (a : Option Addr) (c : Nat) (w : World) (hr : NewRow 0 w.heap.size w a xs) :
    Calls Tryz.prog 42 #[.agg #[.int .i64 D, .int .i64 N, .slice a xs.length c], .agg #[.int .i64 1, .int .i64 q]] w (ShsPost D N (scaleL 1 q xs) w) := by
  have hfew := ser_few hx
  rcases hr with h | ⟨g, rfl, _, _, hM, hT⟩
  · exact absurd h h0
  · cases hok : okAll xs 1 q with
    | false =>
      have e : scaleL 1 q xs = none := by unfold scaleL; rw [hok]; rfl
      rw [e]
      exact iScaleR_3 D N 1 q g xs w hx (isF_one h1 h2) (ser_isF hx) hok (by omega) (ser_sizes hx) hM.1 hT
    | true =>
      have e : scaleL 1 q xs = some (keepL 1 q xs) := by unfold scaleL; rw [hok, keep_all (by decide) (ser_nn hx) hok]; rfl
      rw [e]
      exact iScaleR_4 D N 1 q g xs w hx (isF_one h1 h2) (ser_isF hx) hok (by omega) (ser_sizes hx) hM.1 hT

set_option maxRecDepth 100000 in
set_option maxHeartbeats 8000000 in
theorem dualOfFactors_c (D N : Nat) (hD : 1 ≤ D ∧ D ≤ 3) (hN : N ≤ 5) (hs : shapeB (D : Int) (N : Int) = true) (fs : List ByteArray) (os : List (Option (List Tm))) (hok : DualsOk D N fs os) (hl5 : fs.length ≤ 5)
    (H : ∀ i (h : i < fs.length) (h' : i < os.length) (W : World), Calls Tryz.prog 14 #[.int .i64 D, .int .i64 N, .string fs[i]] W (ShsPost D N os[i] W)) (af : Option Addr) (cf : Nat) (w : World) (hr : SRow w af fs) :
    Calls Tryz.prog 29 #[.int .i64 D, .int .i64 N, .slice af fs.length cf] w (ShsPost D N ((mulD D N os (some [⟨ByteArray.empty, 1, 1⟩])).bind (scaleL 1 (ordG none 0 1 fs))) w) := by
  have HR := Lib.hid hr
  have HOK := Lib.hid hok
  have HC := Lib.hid H
  have HSh := Lib.hid hs
  have hol := hok.1
  have hord := ordG_bd fs none 0 1 (by omega) (by omega) (by omega)
  have hp5 := pow5_le hl5
  have HQ := Lib.hid (show 1 ≤ ordG none 0 1 fs ∧ ordG none 0 1 fs ≤ 1000000000 from ⟨hord.1, by have := hord.2; omega⟩)
  have HOr := Lib.hid (fun W (r : SRow W af fs) => ordersOf_c af cf fs hl5 W r)
  obtain ⟨o, ho⟩ : ∃ o, (mulD D N os (some [⟨ByteArray.empty, 1, 1⟩])).bind (scaleL 1 (ordG none 0 1 fs)) = o := ⟨_, rfl⟩
  have HO := Lib.hid ho
  rw [ho]
  have HOn := Lib.hid (fun (h : mulD D N os (some [⟨ByteArray.empty, 1, 1⟩]) = none) => show o = none from by rw [← HO.out, h]; rfl)
  clear hr hok H hs hord hp5 ho
  go_enter Tryz.func29, Tryz.ntmps29
  go_wp2_with fail
  refine (iUnit_2 D N _ HSh.out).mono ?_
  rintro e w1 ⟨a1, c1, rfl, hb1, hN1⟩
  have hz1 : w.heap.size < w1.heap.size := by have := hb1.size; simp at this; omega
  have HB1 := Lib.hid (show Below (w.heap.size + 1) (w.alloc (.cells #[.int .i64 0, .int .i64 0, .slice none 0 0] 24)) w1 from by simpa using hb1)
  have HN1 := Lib.hid (show NewRow (w.heap.size + 1) w1.heap.size w1 a1 [⟨ByteArray.empty, 1, 1⟩] from by simpa using hN1)
  clear hb1 hN1
  go_wp2_with fail
  go_loopw [22] (fun vk wr => ∃ (k : Nat) (x : List Tm) (a : Option Addr) (c : Nat), k ≤ fs.length ∧ vk = .int .i64 k ∧ MulAt D N fs os k x ∧ T3 wr w1.heap.size (.int .i64 D) (.int .i64 N) (.slice a x.length c) ∧ RowF (w.heap.size + 1) w1.heap.size w1.heap.size wr a x ∧ Below (w.heap.size + 1) (w.alloc (.cells #[.int .i64 0, .int .i64 0, .slice none 0 0] 24)) wr) (fun vk _ => fs.length - (intOf vk).toNat)
  case atStart =>
    exact ⟨0, [⟨ByteArray.empty, 1, 1⟩], a1, c1, Nat.zero_le _, rfl, MulAt.start HSh.out fs os, T3.new _ _ _ _ _ _ _, (RowF.of HN1.out (Nat.le_refl _) (.inr (Nat.le_refl _)) (.inr (Nat.le_refl _))).alloc _, HB1.out.alloc (by omega) _⟩
  case round =>
    obtain ⟨k, x, a, c, hk, rfl, hM, hT, hF, hB⟩ := hrel
    have HM := Lib.hid hM
    have HT := Lib.hid hT
    have HF := Lib.hid hF
    have HB := Lib.hid hB
    have hzt := hT.1
    have hzr := hB.size
    simp only [World.size_alloc] at hzr
    clear hM hT hF hB
    by_cases hlt : k < fs.length
    · have hko : k < os.length := by omega
      have HCk := Lib.hid (HC.out k hlt hko)
      have c0 : ∃ b off, af = some ⟨b, off, none⟩ ∧ b < w.heap.size ∧ wr.cell? ⟨b, off + k, none⟩ = some (.string fs[k]) := by
        rcases HR.out with h0 | ⟨b, off, e, hb, hS⟩
        · rw [h0] at hlt; simp at hlt
        · exact ⟨b, off, e, hb, hS.below ((below1 w _).trans (HB.out.mono (Nat.le_succ _))) hb k hlt⟩
      obtain ⟨b, off, rfl, hb, c0⟩ := c0
      have hbz : b < wr.heap.size := by omega
      go_wp2_with fail
      refine (HCk.out _).mono ?_
      cases hok : os[k] with
      | none =>
        have HZ := Lib.hid (HOn.out (HM.out.none hko hok))
        rintro e w2 ⟨a3, c3, rfl, hb2, hN2⟩
        have HB2 := Lib.hid (HB.out.trans (hb2.mono (by omega)))
        have hz2 := hb2.size
        have bc := bcellB HB2.out
        have r0 : w2.cell? ⟨w.heap.size, 0, none⟩ = some (.int .i64 0) := (bc.1 _ _ (by omega)).trans (by go_simp)
        have r1 : w2.cell? ⟨w.heap.size, 1, none⟩ = some (.int .i64 0) := (bc.1 _ _ (by omega)).trans (by go_simp)
        have r2 : w2.cell? ⟨w.heap.size, 2, none⟩ = some (.slice none 0 0) := (bc.1 _ _ (by omega)).trans (by go_simp)
        have z0 : w2.frozen? ⟨w.heap.size, 0, none⟩ = false := (bc.2 _ _ (by omega)).trans (by go_simp)
        have z1 : w2.frozen? ⟨w.heap.size, 1, none⟩ = false := (bc.2 _ _ (by omega)).trans (by go_simp)
        have z2 : w2.frozen? ⟨w.heap.size, 2, none⟩ = false := (bc.2 _ _ (by omega)).trans (by go_simp)
        have hzb : w.heap.size < w2.heap.size := (by omega)
        clear bc
        have HW2 := Lib.hid ((below1 w _).trans (HB2.out.mono (Nat.le_succ _)))
        clear hb2 hN2 hok c0
        go_wp2
        rw [HZ.out]
        refine bodyPost_ret (v := .tuple #[.agg #[.int .i64 0, .int .i64 0, .slice none 0 0], .int .i64 3]) (by simp [results, Tryz.results29, go_sem, r0, r1, r2, hzb]) rfl (SerPost.err 3 rfl ?_)
        have hW := HW2.out
        go_grown
      | some y =>
        have HYk := Lib.hid (HOK.out.2.2 k hlt hko y hok)
        rintro e w2 ⟨a3, c3, rfl, hb2, hN2⟩
        have HB2 := Lib.hid (HB.out.trans (hb2.mono (by omega)))
        have HT2 := Lib.hid (HT.out.next hb2)
        have HF2 := Lib.hid (HF.out.below hb2)
        have HN2 := Lib.hid hN2
        have hz2 := hb2.size
        have hsx := HM.out.2.1.1
        have hsy := HYk.out.1.1
        have HSh2 := Lib.hid (fun W (t1 : Row W a x) (t2 : Row W a3 y) => iShsR D N a a3 c c3 x y (by have := ser_few hsx; omega) (by have := ser_few hsy; omega) (ser_sizes hsx) (ser_sizes hsy) hsx hsy W t1 t2)
        obtain ⟨hzt2, t0, t1, t2, -, -, -⟩ := HT2.out
        clear hb2 hN2 c0 hsx hsy
        go_wp2_with fail
        refine (HSh2.out _ ?_ ?_).mono ?_
        · exact (HF2.out.alloc _).newRow.row
        · exact (HN2.out.below (below1 _ _) (Nat.le_refl _)).row
        cases hr : shsL D N x y with
        | none =>
          have HZ := Lib.hid (HOn.out (HM.out.dead hko hok hr))
          rintro e w3 ⟨a4, c4, rfl, hb3, hN3⟩
          have HBa := Lib.hid (HB2.out.alloc (by omega) (.cells #[.int .i64 D, .int .i64 N, .slice a3 y.length c3] 24))
          have HB3 := Lib.hid (HBa.out.trans (hb3.mono (by simp; omega)))
          have hz3 := hb3.size
          simp only [World.size_alloc] at hz3
          obtain ⟨u0, t0, t1, t2, f0, f1, f2⟩ := (HT2.out.alloc (.cells #[.int .i64 D, .int .i64 N, .slice a3 y.length c3] 24)).next hb3
          have bc := bcellB HB3.out
          have r0 : w3.cell? ⟨w.heap.size, 0, none⟩ = some (.int .i64 0) := (bc.1 _ _ (by omega)).trans (by go_simp)
          have r1 : w3.cell? ⟨w.heap.size, 1, none⟩ = some (.int .i64 0) := (bc.1 _ _ (by omega)).trans (by go_simp)
          have r2 : w3.cell? ⟨w.heap.size, 2, none⟩ = some (.slice none 0 0) := (bc.1 _ _ (by omega)).trans (by go_simp)
          have z0 : w3.frozen? ⟨w.heap.size, 0, none⟩ = false := (bc.2 _ _ (by omega)).trans (by go_simp)
          have z1 : w3.frozen? ⟨w.heap.size, 1, none⟩ = false := (bc.2 _ _ (by omega)).trans (by go_simp)
          have z2 : w3.frozen? ⟨w.heap.size, 2, none⟩ = false := (bc.2 _ _ (by omega)).trans (by go_simp)
          have hzb : w.heap.size < w3.heap.size := (by omega)
          clear bc
          have HW3 := Lib.hid ((below1 w _).trans (HB3.out.mono (Nat.le_succ _)))
          have hne : w1.heap.size ≠ w.heap.size := by omega
          clear hb3 hN3 hok hr
          go_wp2
          rw [HZ.out]
          refine bodyPost_ret (v := .tuple #[.agg #[.int .i64 0, .int .i64 0, .slice none 0 0], .int .i64 3]) (by simp [results, Tryz.results29, go_sem, r0, r1, r2, hzb]) rfl (SerPost.err 3 rfl ?_)
          have hW := HW3.out
          go_grown
        | some z =>
          have HMn := Lib.hid (HM.out.next (by omega) hN HSh.out HOK.out hlt hko hok hr)
          rintro e w3 ⟨a4, c4, rfl, hb3, hN3⟩
          have HBa := Lib.hid (HB2.out.alloc (by omega) (.cells #[.int .i64 D, .int .i64 N, .slice a3 y.length c3] 24))
          have HB3 := Lib.hid (HBa.out.trans (hb3.mono (by simp; omega)))
          have hz3 := hb3.size
          simp only [World.size_alloc] at hz3
          have HT3 := Lib.hid ((HT2.out.alloc (.cells #[.int .i64 D, .int .i64 N, .slice a3 y.length c3] 24)).next hb3)
          have HN3 := Lib.hid (show NewRow (w2.heap.size + 1) w3.heap.size w3 a4 z from by simpa using hN3)
          obtain ⟨u0, t0, t1, t2, f0, f1, f2⟩ := HT3.out
          clear hb3 hN3 hok hr
          go_wp2
          go_roundw
          case rel =>
            refine ⟨k + 1, z, a4, c4, by omega, by go_num, HMn.out, HT3.out.set3, ?_, ?_⟩
            · exact (((RowF.of HN3.out (by omega) (.inl (by omega)) (.inl (by omega))).set (.inl rfl)).set (.inl rfl)).set (.inl rfl)
            · exact ((HB3.out.setCell (p := ⟨w1.heap.size, 0, none⟩) (by show _ ≤ w1.heap.size; omega) _).setCell (p := ⟨w1.heap.size, 1, none⟩) (by show _ ≤ w1.heap.size; omega) _).setCell (p := ⟨w1.heap.size, 2, none⟩) (by show _ ≤ w1.heap.size; omega) _
          case measure => simp [intOf]; omega
    · obtain rfl : k = fs.length := by omega
      have HE := Lib.hid (show scaleL 1 (ordG none 0 1 fs) x = o from by rw [← HO.out, HM.out.end_ (by omega)]; rfl)
      have HRr := Lib.hid (HR.out.below ((below1 w _).trans (HB.out.mono (Nat.le_succ _))) (Nat.le_refl _))
      have HSc := Lib.hid (fun W (hW : Below wr.heap.size wr W) => shareS_c D N _ HQ.out.1 HQ.out.2 x HM.out.2.1.1 HM.out.2.2.2 a c W ((HF.out.below hW).newRow.mono (Nat.zero_le _) (Nat.le_refl _)))
      rw [HE.out] at HSc
      have HOd := Lib.hid (fun W (hW : Below wr.heap.size wr W) => HOr.out W (HRr.out.below hW (by omega)))
      have KS := Lib.hid (show ∀ w', Below wr.heap.size wr w' → (w'.cell? ⟨w1.heap.size, 0, none⟩ = some (.int .i64 D) ∧ w'.cell? ⟨w1.heap.size, 1, none⟩ = some (.int .i64 N) ∧ w'.cell? ⟨w1.heap.size, 2, none⟩ = some (.slice a x.length c)) from fun w' hb => ⟨(HT.out.next hb).2.1, (HT.out.next hb).2.2.1, (HT.out.next hb).2.2.2.1⟩)
      obtain ⟨-, t0, t1, t2, -, -, -⟩ := HT.out
      have hne6 : w.heap.size ≠ w1.heap.size := by omega
      generalize ordG none 0 1 fs = q at *
      cases o with
      | none =>
        go_upto_region 11 with fail
        go_region_held3 (fun w' => w'.cell? ⟨w1.heap.size, 0, none⟩ = some (.int .i64 D) ∧ w'.cell? ⟨w1.heap.size, 1, none⟩ = some (.int .i64 N) ∧ w'.cell? ⟨w1.heap.size, 2, none⟩ = some (.slice a x.length c))
          (first | (refine KS.out _ ?_; (repeat' (first | with_reducible assumption | with_reducible exact Below.refl _ _ | (with_reducible refine Below.drew ?_) | (with_reducible refine Below.setCell ?_ (by (try dsimp only); omega) _) | (with_reducible refine Below.alloc ?_ (by (try simp only [World.size_setCell]); (try simp only [World.size_drew]); (try simp only [World.size_alloc]); (try simp only [World.size_setCell]); (try simp only [World.size_alloc]); omega) _))); done) | (rw [far3c hne6, far3c hne6, far3c hne6]; exact KS.out _ hb6))
          (first
            | (go_at_call 43; (with_reducible refine (HOd.out _ ?_).mono ?_); (focus repeat' (first | with_reducible assumption | with_reducible exact Below.refl _ _ | (with_reducible refine Below.drew ?_) | (with_reducible refine Below.setCell ?_ (by (try dsimp only); omega) _) | (with_reducible refine Below.alloc ?_ (by (try simp only [World.size_setCell]); (try simp only [World.size_drew]); (try simp only [World.size_alloc]); (try simp only [World.size_setCell]); (try simp only [World.size_alloc]); omega) _))); rintro e w5 ⟨rfl, hb0⟩; have hb5 : Below wr.heap.size wr w5 := below_step (by repeat' (first | with_reducible assumption | with_reducible exact Below.refl _ _ | (with_reducible refine Below.drew ?_) | (with_reducible refine Below.setCell ?_ (by (try dsimp only); omega) _) | (with_reducible refine Below.alloc ?_ (by (try simp only [World.size_setCell]); (try simp only [World.size_drew]); (try simp only [World.size_alloc]); (try simp only [World.size_setCell]); (try simp only [World.size_alloc]); omega) _))) hb0 (Nat.le_refl _); have hz5 := hb5.size)
            | (go_at_call 42; (with_reducible refine (HSc.out _ ?_).mono ?_); (focus repeat' (first | with_reducible assumption | with_reducible exact Below.refl _ _ | (with_reducible refine Below.drew ?_) | (with_reducible refine Below.setCell ?_ (by (try dsimp only); omega) _) | (with_reducible refine Below.alloc ?_ (by (try simp only [World.size_setCell]); (try simp only [World.size_drew]); (try simp only [World.size_alloc]); (try simp only [World.size_setCell]); (try simp only [World.size_alloc]); omega) _))); rintro e w6 ⟨a6, c6, rfl, hb0, hN6⟩; have hb6 : Below wr.heap.size wr w6 := below_step (by repeat' (first | with_reducible assumption | with_reducible exact Below.refl _ _ | (with_reducible refine Below.drew ?_) | (with_reducible refine Below.setCell ?_ (by (try dsimp only); omega) _) | (with_reducible refine Below.alloc ?_ (by (try simp only [World.size_setCell]); (try simp only [World.size_drew]); (try simp only [World.size_alloc]); (try simp only [World.size_setCell]); (try simp only [World.size_alloc]); omega) _))) hb0 (Nat.le_refl _); have HB6 := Lib.hid (HB.out.trans (hb6.mono (by omega))); have hz6 := hb6.size; have bc := bcellB HB6.out; have r0 : w6.cell? ⟨w.heap.size, 0, none⟩ = some (.int .i64 0) := (bc.1 _ _ (by omega)).trans (by go_simp); have r1 : w6.cell? ⟨w.heap.size, 1, none⟩ = some (.int .i64 0) := (bc.1 _ _ (by omega)).trans (by go_simp); have r2 : w6.cell? ⟨w.heap.size, 2, none⟩ = some (.slice none 0 0) := (bc.1 _ _ (by omega)).trans (by go_simp); have z0 : w6.frozen? ⟨w.heap.size, 0, none⟩ = false := (bc.2 _ _ (by omega)).trans (by go_simp); have z1 : w6.frozen? ⟨w.heap.size, 1, none⟩ = false := (bc.2 _ _ (by omega)).trans (by go_simp); have z2 : w6.frozen? ⟨w.heap.size, 2, none⟩ = false := (bc.2 _ _ (by omega)).trans (by go_simp); have hzb : w.heap.size < w6.heap.size := (by omega); clear bc)
            )
        all_goals
          have HW6 := Lib.hid ((below1 w _).trans (HB6.out.mono (Nat.le_succ _)))
          have HN6 := Lib.hid hN6
          clear hN6
          go_wp2
          refine bodyPost_ret (v := .tuple #[.agg #[.int .i64 0, .int .i64 0, .slice a6 ([] : List Tm).length c6], .int .i64 3]) (by simp [results, Tryz.results29, go_sem, r0, r1, r2, hzb]) rfl ⟨a6, c6, rfl, ?_, .inl rfl⟩
          have hW := HW6.out
          go_grown
      | some r =>
        go_upto_region 11 with fail
        go_region_held3 (fun w' => w'.cell? ⟨w1.heap.size, 0, none⟩ = some (.int .i64 D) ∧ w'.cell? ⟨w1.heap.size, 1, none⟩ = some (.int .i64 N) ∧ w'.cell? ⟨w1.heap.size, 2, none⟩ = some (.slice a x.length c))
          (first | (refine KS.out _ ?_; (repeat' (first | with_reducible assumption | with_reducible exact Below.refl _ _ | (with_reducible refine Below.drew ?_) | (with_reducible refine Below.setCell ?_ (by (try dsimp only); omega) _) | (with_reducible refine Below.alloc ?_ (by (try simp only [World.size_setCell]); (try simp only [World.size_drew]); (try simp only [World.size_alloc]); (try simp only [World.size_setCell]); (try simp only [World.size_alloc]); omega) _))); done) | (rw [far3c hne6, far3c hne6, far3c hne6]; exact KS.out _ hb6))
          (first
            | (go_at_call 43; (with_reducible refine (HOd.out _ ?_).mono ?_); (focus repeat' (first | with_reducible assumption | with_reducible exact Below.refl _ _ | (with_reducible refine Below.drew ?_) | (with_reducible refine Below.setCell ?_ (by (try dsimp only); omega) _) | (with_reducible refine Below.alloc ?_ (by (try simp only [World.size_setCell]); (try simp only [World.size_drew]); (try simp only [World.size_alloc]); (try simp only [World.size_setCell]); (try simp only [World.size_alloc]); omega) _))); rintro e w5 ⟨rfl, hb0⟩; have hb5 : Below wr.heap.size wr w5 := below_step (by repeat' (first | with_reducible assumption | with_reducible exact Below.refl _ _ | (with_reducible refine Below.drew ?_) | (with_reducible refine Below.setCell ?_ (by (try dsimp only); omega) _) | (with_reducible refine Below.alloc ?_ (by (try simp only [World.size_setCell]); (try simp only [World.size_drew]); (try simp only [World.size_alloc]); (try simp only [World.size_setCell]); (try simp only [World.size_alloc]); omega) _))) hb0 (Nat.le_refl _); have hz5 := hb5.size)
            | (go_at_call 42; (with_reducible refine (HSc.out _ ?_).mono ?_); (focus repeat' (first | with_reducible assumption | with_reducible exact Below.refl _ _ | (with_reducible refine Below.drew ?_) | (with_reducible refine Below.setCell ?_ (by (try dsimp only); omega) _) | (with_reducible refine Below.alloc ?_ (by (try simp only [World.size_setCell]); (try simp only [World.size_drew]); (try simp only [World.size_alloc]); (try simp only [World.size_setCell]); (try simp only [World.size_alloc]); omega) _))); rintro e w6 ⟨a6, c6, rfl, hb0, hN6⟩; have hb6 : Below wr.heap.size wr w6 := below_step (by repeat' (first | with_reducible assumption | with_reducible exact Below.refl _ _ | (with_reducible refine Below.drew ?_) | (with_reducible refine Below.setCell ?_ (by (try dsimp only); omega) _) | (with_reducible refine Below.alloc ?_ (by (try simp only [World.size_setCell]); (try simp only [World.size_drew]); (try simp only [World.size_alloc]); (try simp only [World.size_setCell]); (try simp only [World.size_alloc]); omega) _))) hb0 (Nat.le_refl _); have HN6 := Lib.hid (hN6.mono (lo' := w.heap.size + 1) (by (try simp only [World.size_drew]); omega) (Nat.le_refl _)); have HB6 := Lib.hid (HB.out.trans (hb6.mono (by omega))); have hz6 := hb6.size; have bc := bcellB HB6.out; have r0 : w6.cell? ⟨w.heap.size, 0, none⟩ = some (.int .i64 0) := (bc.1 _ _ (by omega)).trans (by go_simp); have r1 : w6.cell? ⟨w.heap.size, 1, none⟩ = some (.int .i64 0) := (bc.1 _ _ (by omega)).trans (by go_simp); have r2 : w6.cell? ⟨w.heap.size, 2, none⟩ = some (.slice none 0 0) := (bc.1 _ _ (by omega)).trans (by go_simp); have z0 : w6.frozen? ⟨w.heap.size, 0, none⟩ = false := (bc.2 _ _ (by omega)).trans (by go_simp); have z1 : w6.frozen? ⟨w.heap.size, 1, none⟩ = false := (bc.2 _ _ (by omega)).trans (by go_simp); have z2 : w6.frozen? ⟨w.heap.size, 2, none⟩ = false := (bc.2 _ _ (by omega)).trans (by go_simp); have hzb : w.heap.size < w6.heap.size := (by omega); clear bc; clear hN6)
            )
        all_goals
          have HW6 := Lib.hid ((below1 w _).trans (HB6.out.mono (Nat.le_succ _)))
          go_wp2
          refine bodyPost_ret (v := .tuple #[.agg #[.int .i64 D, .int .i64 N, .slice a6 r.length c6], .int .i64 0]) (by simp [results, Tryz.results29, go_sem, r0, r1, r2, hzb]) rfl ⟨a6, c6, rfl, ?_, ?_⟩
          · have hW := HW6.out
            go_grown
          · exact (HN6.out.far3 (by omega)).mono (by omega) (Nat.le_refl _)
end Go.Proofs.YtdgkkcjjfpenpaaGreatDoor

namespace Go.Proofs.YtdgkkcjjfpenpaaGreatDoor
open Go.RowKit
set_option linter.unusedVariables false
set_option linter.unusedSimpArgs false

/-- terms in memory, the first k of them with a beginning put ahead of their words -/
def TermsMix (w : World) (g : Nat) (c : ByteArray) (ys : List Tm) (k : Nat) : Prop :=
  ∀ i (h : i < ys.length), w.cell? ⟨g, i * 3, none⟩ = some (.string (cond (decide (i < k)) (c ++ (ys[i]).s) (ys[i]).s)) ∧ w.cell? ⟨g, i * 3 + 1, none⟩ = some (.int .i64 (ys[i]).n) ∧ w.cell? ⟨g, i * 3 + 2, none⟩ = some (.int .i64 (ys[i]).d)
theorem TermsMix.start {w : World} {g : Nat} {c : ByteArray} {ys : List Tm} (h : TermsIn w g 0 ys) : TermsMix w g c ys 0 := fun i hi => by
  have h1 := h i hi
  simp only [Nat.zero_add] at h1
  exact ⟨by rw [show decide (i < 0) = false from by simp]; exact h1.1, h1.2.1, h1.2.2⟩
theorem pre1_get (c : ByteArray) (ys : List Tm) (i : Nat) (h : i < (pre1 c ys).length) (h2 : i < ys.length) : (pre1 c ys)[i] = ⟨c ++ (ys[i]).s, (ys[i]).n, (ys[i]).d⟩ := by simp only [pre1, List.getElem_map]
theorem TermsMix.end_ {w : World} {g : Nat} {c : ByteArray} {ys : List Tm} {k : Nat} (h : TermsMix w g c ys k) (hk : ys.length ≤ k) : TermsIn w g 0 (pre1 c ys) := fun i hi => by
  have hi2 : i < ys.length := by unfold pre1 at hi; rw [List.length_map] at hi; exact hi
  have h1 := h i hi2
  rw [show decide (i < k) = true from by simp; omega] at h1
  rw [pre1_get c ys i hi hi2]
  simp only [Nat.zero_add]
  exact h1
theorem TermsMix.below {w w' : World} {B g : Nat} {c : ByteArray} {ys : List Tm} {k : Nat} (h : TermsMix w g c ys k) (hb : Below B w w') (hg : g < B) : TermsMix w' g c ys k := fun i hi =>
  ⟨(hb.cell (p := ⟨g, i * 3, none⟩) hg).trans (h i hi).1, (hb.cell (p := ⟨g, i * 3 + 1, none⟩) hg).trans (h i hi).2.1, (hb.cell (p := ⟨g, i * 3 + 2, none⟩) hg).trans (h i hi).2.2⟩
theorem TermsMix.step {w : World} {g : Nat} {c u : ByteArray} {ys : List Tm} {k : Nat} (h : TermsMix w g c ys k) (hk : k < ys.length) (hu : u = c ++ (ys[k]).s) : TermsMix (w.setCell ⟨g, k * 3, none⟩ (.string u)) g c ys (k + 1) := fun i hi => by
  have hne : ∀ o, o ≠ k * 3 → (⟨g, k * 3, none⟩ : Addr) ≠ ⟨g, o, none⟩ := fun o ho e => ho (by injection e with _ e; exact e.symm)
  have h1 := h i hi
  refine ⟨?_, ?_, ?_⟩
  · by_cases e : i = k
    · subst e
      rw [World.cell?_setCell_same _ _ _ h1.1, hu, show decide (i < i + 1) = true from by simp]
      rfl
    · rw [World.cell?_setCell_other _ _ _ _ (hne _ (by omega)), h1.1]
      have e2 : decide (i < k + 1) = decide (i < k) := decide_eq_decide.2 (by omega)
      rw [e2]
  · rw [World.cell?_setCell_other _ _ _ _ (hne _ (by omega))]; exact h1.2.1
  · rw [World.cell?_setCell_other _ _ _ _ (hne _ (by omega))]; exact h1.2.2
theorem made_drewD {w : World} {g n : Nat} (h : Made w g n) : Made w.drew g n := h
theorem TermsMix.drew {w : World} {g : Nat} {c : ByteArray} {ys : List Tm} {k : Nat} (h : TermsMix w g c ys k) : TermsMix w.drew g c ys k := h
theorem pre1_len (c : ByteArray) (ys : List Tm) : (pre1 c ys).length = ys.length := by unfold pre1; rw [List.length_map]

set_option maxRecDepth 100000 in
set_option maxHeartbeats 4000000 in
theorem dualFac_c (D N : Nat) (s : ByteArray) (fs : List ByteArray) (r : Option (List Tm)) (hl : lynB s = false) (hf : Facts s fs) (hz : s.size ≤ 5)
    (H : ∀ (af : Option Addr) (cf : Nat) (W : World), SRow W af fs → Calls Tryz.prog 29 #[.int .i64 D, .int .i64 N, .slice af fs.length cf] W (ShsPost D N r W)) (w : World) :
    Calls Tryz.prog 14 #[.int .i64 D, .int .i64 N, .string s] w (ShsPost D N r w) := by
  have HL := Lib.hid hl
  have HC := Lib.hid H
  have HFc := Lib.hid (fun W => factors_c s fs hf (by omega) W)
  have hsm : s.size ≤ maxLen := by unfold maxLen; omega
  clear hl H hf
  go_enter Tryz.func14, Tryz.ntmps14
  go_wp2_with (first | (go_at_call 28; refine (isLyndon_c _ hsm _).mono ?_; rw [HL.out]; rintro e w' ⟨rfl, rfl⟩) | fail)
  refine (HFc.out _).mono ?_
  rintro e w1 ⟨a1, c1, rfl, hb1, hN1⟩
  have HB1 := Lib.hid (show Below (w.heap.size + 1) (w.alloc (.cells #[.int .i64 0, .int .i64 0, .slice none 0 0] 24)) w1 from by simpa using hb1)
  have hz1 : w.heap.size < w1.heap.size := by have := hb1.size; simp at this; omega
  have HC1 := Lib.hid (HC.out a1 c1 w1 (by rcases hN1 with h | ⟨g, e, _, h2, _, h4⟩; exact .inl h; exact .inr ⟨g, 0, e, h2, h4⟩))
  clear hb1 hN1
  cases r with
  | none =>
    go_wp2_with fail
    refine HC1.out.mono ?_
    rintro e w2 ⟨a2, c2, rfl, hb2, hN2⟩
    have HB2 := Lib.hid (HB1.out.trans (hb2.mono (by omega)))
    have hz2 := hb2.size
    have bc := bcellB HB2.out
    have r0 : w2.cell? ⟨w.heap.size, 0, none⟩ = some (.int .i64 0) := (bc.1 _ _ (by omega)).trans (by go_simp)
    have r1 : w2.cell? ⟨w.heap.size, 1, none⟩ = some (.int .i64 0) := (bc.1 _ _ (by omega)).trans (by go_simp)
    have r2 : w2.cell? ⟨w.heap.size, 2, none⟩ = some (.slice none 0 0) := (bc.1 _ _ (by omega)).trans (by go_simp)
    have z0 : w2.frozen? ⟨w.heap.size, 0, none⟩ = false := (bc.2 _ _ (by omega)).trans (by go_simp)
    have z1 : w2.frozen? ⟨w.heap.size, 1, none⟩ = false := (bc.2 _ _ (by omega)).trans (by go_simp)
    have z2 : w2.frozen? ⟨w.heap.size, 2, none⟩ = false := (bc.2 _ _ (by omega)).trans (by go_simp)
    have hzb : w.heap.size < w2.heap.size := (by omega)
    clear bc
    have HW2 := Lib.hid ((below1 w _).trans (HB2.out.mono (Nat.le_succ _)))
    clear hb2 hN2
    go_wp2
    refine bodyPost_ret (v := .tuple #[.agg #[.int .i64 0, .int .i64 0, .slice a2 ([] : List Tm).length c2], .int .i64 3]) (by simp [results, Tryz.results14, go_sem, r0, r1, r2, hzb]) rfl ⟨a2, c2, rfl, ?_, .inl rfl⟩
    have hW := HW2.out
    go_grown
  | some ts =>
    go_wp2_with fail
    refine HC1.out.mono ?_
    rintro e w2 ⟨a2, c2, rfl, hb2, hN2⟩
    have HB2 := Lib.hid (HB1.out.trans (hb2.mono (by omega)))
    have HN2 := Lib.hid (hN2.mono (lo' := w.heap.size + 1) (by omega) (Nat.le_refl _))
    have hz2 := hb2.size
    have bc := bcellB HB2.out
    have r0 : w2.cell? ⟨w.heap.size, 0, none⟩ = some (.int .i64 0) := (bc.1 _ _ (by omega)).trans (by go_simp)
    have r1 : w2.cell? ⟨w.heap.size, 1, none⟩ = some (.int .i64 0) := (bc.1 _ _ (by omega)).trans (by go_simp)
    have r2 : w2.cell? ⟨w.heap.size, 2, none⟩ = some (.slice none 0 0) := (bc.1 _ _ (by omega)).trans (by go_simp)
    have z0 : w2.frozen? ⟨w.heap.size, 0, none⟩ = false := (bc.2 _ _ (by omega)).trans (by go_simp)
    have z1 : w2.frozen? ⟨w.heap.size, 1, none⟩ = false := (bc.2 _ _ (by omega)).trans (by go_simp)
    have z2 : w2.frozen? ⟨w.heap.size, 2, none⟩ = false := (bc.2 _ _ (by omega)).trans (by go_simp)
    have hzb : w.heap.size < w2.heap.size := (by omega)
    clear bc
    have HW2 := Lib.hid ((below1 w _).trans (HB2.out.mono (Nat.le_succ _)))
    clear hb2 hN2
    go_wp2
    refine bodyPost_ret (v := .tuple #[.agg #[.int .i64 D, .int .i64 N, .slice a2 ts.length c2], .int .i64 0]) (by simp [results, Tryz.results14, go_sem, r0, r1, r2, hzb]) rfl ⟨a2, c2, rfl, ?_, ?_⟩
    · have hW := HW2.out
      go_grown
    · exact (HN2.out.far3 (by omega)).mono (by omega) (Nat.le_refl _)

set_option maxRecDepth 100000 in
set_option maxHeartbeats 8000000 in
theorem dualLyn_c (D N : Nat) (s : ByteArray) (r : Option (List Tm)) (hl : lynB s = true) (hz : s.size ≤ 5) (hr : ∀ ys, r = some ys → OneLen D N (endS s 1).size ys ∧ ys ≠ [])
    (H : ∀ W : World, Calls Tryz.prog 14 #[.int .i64 D, .int .i64 N, .string (endS s 1)] W (ShsPost D N r W)) (w : World) :
    Calls Tryz.prog 14 #[.int .i64 D, .int .i64 N, .string s] w (ShsPost D N (r.map (pre1 (s.extract 0 1))) w) := by
  have HL := Lib.hid hl
  have HC := Lib.hid H
  have h0 := (lynB_true hl).1
  have h1i : (1 : Int) ≤ (s.size : Int) := by omega
  have hsm : s.size ≤ maxLen := by unfold maxLen; omega
  have HRy := Lib.hid hr
  clear hl H hr
  go_enter Tryz.func14, Tryz.ntmps14
  go_wp2_with (first | (go_at_call 28; refine (isLyndon_c _ hsm _).mono ?_; rw [HL.out]; rintro e w' ⟨rfl, rfl⟩) | fail)
  refine (HC.out _).mono ?_
  cases r with
  | none =>
    rintro e w2 ⟨a2, c2, rfl, hb2, hN2⟩
    have HB2 := Lib.hid (show Below (w.heap.size + 1) (w.alloc (.cells #[.int .i64 0, .int .i64 0, .slice none 0 0] 24)) w2 from by simpa using hb2)
    have hz2 : w.heap.size < w2.heap.size := by have := hb2.size; simp at this; omega
    have bc := bcellB HB2.out
    have r0 : w2.cell? ⟨w.heap.size, 0, none⟩ = some (.int .i64 0) := (bc.1 _ _ (by omega)).trans (by go_simp)
    have r1 : w2.cell? ⟨w.heap.size, 1, none⟩ = some (.int .i64 0) := (bc.1 _ _ (by omega)).trans (by go_simp)
    have r2 : w2.cell? ⟨w.heap.size, 2, none⟩ = some (.slice none 0 0) := (bc.1 _ _ (by omega)).trans (by go_simp)
    have z0 : w2.frozen? ⟨w.heap.size, 0, none⟩ = false := (bc.2 _ _ (by omega)).trans (by go_simp)
    have z1 : w2.frozen? ⟨w.heap.size, 1, none⟩ = false := (bc.2 _ _ (by omega)).trans (by go_simp)
    have z2 : w2.frozen? ⟨w.heap.size, 2, none⟩ = false := (bc.2 _ _ (by omega)).trans (by go_simp)
    have hzb : w.heap.size < w2.heap.size := (by omega)
    clear bc
    have HW2 := Lib.hid ((below1 w _).trans (HB2.out.mono (Nat.le_succ _)))
    clear hb2 hN2
    go_wp2
    refine bodyPost_ret (v := .tuple #[.agg #[.int .i64 0, .int .i64 0, .slice none 0 0], .int .i64 3]) (by simp [results, Tryz.results14, go_sem, r0, r1, r2, hzb]) rfl (SerPost.err 3 rfl ?_)
    have hW := HW2.out
    go_grown
  | some ys =>
    rintro e w2 ⟨a2, c2, rfl, hb2, hN2⟩
    have hz2 : w.heap.size < w2.heap.size := by have := hb2.size; simp at this; omega
    have HB2 := Lib.hid (show Below (w.heap.size + 1) (w.alloc (.cells #[.int .i64 0, .int .i64 0, .slice none 0 0] 24)) w2 from by simpa using hb2)
    obtain ⟨hys, hne⟩ := HRy.out ys rfl
    have hfew := ser_few hys.1
    have HSz := Lib.hid (fun i (h : i < ys.length) => show (ys[i]).s.size ≤ 5 from by have := hys.2 _ (List.getElem_mem h); rw [endS_size] at this; omega)
    have hNx : NewRow (w.heap.size + 1) w2.heap.size w2 a2 ys := by simpa using hN2
    clear hb2 hN2
    rcases hNx with h | ⟨g, rfl, hg1, hg2, hMd, hTi⟩
    · exact absurd h hne
    have HMd := Lib.hid hMd
    have HTi := Lib.hid (TermsMix.start (c := s.extract 0 1) hTi)
    clear hys hne hMd hTi HRy
    go_wp2_with fail
    go_loopw [37] (fun vk wr => ∃ (k : Nat), k ≤ ys.length ∧ vk = .int .i64 k ∧ TermsMix wr g (s.extract 0 1) ys k ∧ Made wr g (ys.length * 3) ∧ T3 wr w2.heap.size (.int .i64 D) (.int .i64 N) (.slice (some ⟨g, 0, none⟩) ys.length c2) ∧ Below (w.heap.size + 1) (w.alloc (.cells #[.int .i64 0, .int .i64 0, .slice none 0 0] 24)) wr) (fun vk _ => ys.length - (intOf vk).toNat)
    case atStart =>
      exact ⟨0, Nat.zero_le _, rfl, HTi.out.below (below1 _ _) hg2, HMd.out.below (below1 _ _) hg2, T3.new _ _ _ _ _ _ _, HB2.out.alloc (by omega) _⟩
    case round =>
      obtain ⟨k, hk, rfl, hX, hM, hT, hB⟩ := hrel
      have HX := Lib.hid hX
      have HM := Lib.hid hM
      have HT := Lib.hid hT
      have HB := Lib.hid hB
      have hzt := hT.1
      have hgr : g < wr.heap.size := hM.1
      have hzr : w.heap.size < wr.heap.size := by omega
      clear hX hM hT hB
      by_cases hlt : k < ys.length
      · obtain ⟨d0, d1, d2⟩ := HX.out k hlt
        have hfz : wr.frozen? ⟨g, k * 3, none⟩ = false := (HM.out.2 (k * 3) (by omega)).2
        have hsz := HSz.out k hlt
        obtain ⟨t, n, d, het⟩ : ∃ t n d, ys[k] = ⟨t, n, d⟩ := ⟨_, _, _, rfl⟩
        have HStp := Lib.hid (fun W (h : TermsMix W g (s.extract 0 1) ys k) => h.step (u := s.extract 0 1 ++ t) hlt (by rw [het]))
        rw [show decide (k < k) = false from by simp, het] at d0
        rw [het] at d1 d2 hsz
        simp only [cond_false] at d0
        simp only at hsz
        clear het
        obtain ⟨-, t0, t1, t2, -, -, -⟩ := HT.out
        have hgn : g ≠ w2.heap.size := by omega
        go_wp2_with fail
        go_region
        all_goals
          go_wp2
          go_roundw
          case rel =>
            refine ⟨k + 1, by omega, by go_num, ?_, ?_, ?_, ?_⟩
            · exact ((HStp.out _ HX.out).below (below1 _ (.cells #[.string t, .int .i64 n, .int .i64 d] 46)) (by simpa using hgr)).drew
            · exact made_drewD ((HM.out.set _ _).below (below1 _ (.cells #[.string t, .int .i64 n, .int .i64 d] 46)) (by simpa using hgr))
            · exact (HT.out.far hgn).alloc (.cells #[.string t, .int .i64 n, .int .i64 d] 46)
            · exact ((HB.out.setCell (p := ⟨g, k * 3, none⟩) (by show _ ≤ g; omega) _).alloc (by simp; omega) (.cells #[.string t, .int .i64 n, .int .i64 d] 46)).drew
          case measure => simp [intOf]; omega
      · have HE := Lib.hid (HX.out.end_ (by omega))
        obtain ⟨-, t0, t1, t2, -, -, -⟩ := HT.out
        have HC9 := newSeries_c D N (some ⟨g, 0, none⟩) c2 (pre1 (s.extract 0 1) ys) (by rw [pre1_len]; omega) (fun i hi => by
          have hi2 : i < ys.length := by rw [pre1_len] at hi; exact hi
          rw [pre1_get _ _ i hi hi2]
          have := HSz.out i hi2
          show ((s.extract 0 1) ++ (ys[i]).s).size ≤ _
          rw [ByteArray.size_append, ByteArray.size_extract]
          omega) wr (.inr ⟨g, 0, rfl, hgr, HE.out⟩)
        rw [pre1_len] at HC9
        go_wp2_with fail
        refine HC9.mono ?_
        rintro e w5 ⟨gz, rfl, hb5, hg5, hM5, hT5⟩
        rw [pre1_len] at hM5
        have HB5 := Lib.hid (HB.out.trans (hb5.mono (by omega)))
        have hz5 := hb5.size
        have HN5 := Lib.hid (NewRow.of_to (lo := w.heap.size + 1) (ts := pre1 (s.extract 0 1) ys) (by omega) (by rw [pre1_len]; exact hM5) hT5)
        have bc := bcellB HB5.out
        have r0 : w5.cell? ⟨w.heap.size, 0, none⟩ = some (.int .i64 0) := (bc.1 _ _ (by omega)).trans (by go_simp)
        have r1 : w5.cell? ⟨w.heap.size, 1, none⟩ = some (.int .i64 0) := (bc.1 _ _ (by omega)).trans (by go_simp)
        have r2 : w5.cell? ⟨w.heap.size, 2, none⟩ = some (.slice none 0 0) := (bc.1 _ _ (by omega)).trans (by go_simp)
        have z0 : w5.frozen? ⟨w.heap.size, 0, none⟩ = false := (bc.2 _ _ (by omega)).trans (by go_simp)
        have z1 : w5.frozen? ⟨w.heap.size, 1, none⟩ = false := (bc.2 _ _ (by omega)).trans (by go_simp)
        have z2 : w5.frozen? ⟨w.heap.size, 2, none⟩ = false := (bc.2 _ _ (by omega)).trans (by go_simp)
        have hzb : w.heap.size < w5.heap.size := (by omega)
        clear bc
        have HW5 := Lib.hid ((below1 w _).trans (HB5.out.mono (Nat.le_succ _)))
        clear hb5 hM5 hT5 t0 t1 t2
        go_wp2
        refine bodyPost_ret (v := .tuple #[.agg #[.int .i64 D, .int .i64 N, .slice (some ⟨gz, 0, none⟩) (pre1 (s.extract 0 1) ys).length (pre1 (s.extract 0 1) ys).length], .int .i64 0]) (by rw [pre1_len]; simp [results, Tryz.results14, go_sem, r0, r1, r2, hzb]) rfl ⟨_, _, rfl, ?_, ?_⟩
        · have hW := HW5.out
          go_grown
        · exact (HN5.out.far3 (by omega)).mono (by omega) (Nat.le_refl _)

/-- **the program's dualOf** -/
theorem dualOf_c (D N : Nat) (hD : 1 ≤ D ∧ D ≤ 3) (hN : N ≤ 5) (hs : shapeB (D : Int) (N : Int) = true) : ∀ {s : ByteArray} {o : Option (List Tm)}, DualIs D N s o → wordB (D : Int) s.data.toList = true → s.size ≤ N → ∀ W : World,
    Calls Tryz.prog 14 #[.int .i64 D, .int .i64 N, .string s] W (ShsPost D N o W) := by
  intro s o h
  induction h with
  | lyn s o hl hd ih =>
    intro hw hz W
    have h0 := (lynB_true hl).1
    have hw1 := wordB_sub hw 1 s.size
    have hz1 : (endS s 1).size ≤ N := by rw [endS_size]; omega
    exact dualLyn_c D N s o hl (by omega) (fun ys e => ⟨hd.good hD.2 hN hs hw1 hz1 ys e, (hd.pos hD.2 hN hs hw1 hz1 ys e).2⟩) (ih hw1 hz1) W
  | fac s fs os hl hf hlen hdu ih =>
    intro hw hz W
    have hfw := hf.wordB hw
    have hsz : ∀ i (h : i < fs.length), (fs[i]).size ≤ N := fun i h => by have := (hf.small _ (List.getElem_mem h)).2.1; omega
    have hok : DualsOk D N fs os := ⟨hlen, by rw [hf.sum]; exact hz, fun i h h' ys he => ⟨(hdu i h h').good hD.2 hN hs (hfw _ (List.getElem_mem h)) (hsz i h) ys he, (hdu i h h').pos hD.2 hN hs (hfw _ (List.getElem_mem h)) (hsz i h) ys he⟩⟩
    have h5 : fs.length ≤ 5 := by have := hf.len; omega
    exact dualFac_c D N s fs _ hl hf (by omega) (fun af cf W hr => dualOfFactors_c D N hD hN hs fs os hok h5 (fun i h h' W => ih i h h' (hfw _ (List.getElem_mem h)) (hsz i h) W) af cf W hr) W

set_option maxRecDepth 100000 in
set_option maxHeartbeats 4000000 in
theorem iDual_1 (d n : Int) (s : ByteArray) (hs : s.size ≤ 1048576) (h : (shapeB d n && (decide ((s.size : Int) ≤ n) && wordB d s.data.toList)) = false) (w : World) :
    Calls Tryz.prog 5 #[.int .i64 d, .int .i64 n, .string s] w (SerPost 0 0 [] 2 w) := by
  have hsm : s.size ≤ maxLen := by unfold maxLen; omega
  cases h1 : shapeB d n with
  | false =>
    have H1 := Lib.hid h1
    clear h h1
    go_enter Tryz.func5, Tryz.ntmps5
    go_wp2_with (go_at_call 12; refine (isShape_c _ _ _).mono ?_; rw [H1.out]; rintro e w' ⟨rfl, rfl⟩)
    exact bodyPost_ret (v := .tuple #[.agg #[.int .i64 0, .int .i64 0, .slice none 0 0], .int .i64 2]) (by simp [results, Tryz.results5, go_sem]) rfl (SerPost.err 2 rfl (by go_grown))
  | true =>
    have hd := shape_out h1
    have H1 := Lib.hid h1
    rw [h1, Bool.true_and] at h
    have H2 := Lib.hid h
    clear h h1
    go_enter Tryz.func5, Tryz.ntmps5
    go_wp2_with (first | (go_at_call 12; refine (isShape_c _ _ _).mono ?_; rw [H1.out]; rintro e w' ⟨rfl, rfl⟩) | (go_at_call 13; refine (isWord_c _ _ _ hsm _).mono ?_; rw [H2.out]; rintro e w' ⟨rfl, rfl⟩))
    exact bodyPost_ret (v := .tuple #[.agg #[.int .i64 0, .int .i64 0, .slice none 0 0], .int .i64 2]) (by simp [results, Tryz.results5, go_sem]) rfl (SerPost.err 2 rfl (by go_grown))
set_option maxRecDepth 100000 in
set_option maxHeartbeats 4000000 in
theorem iDual_2 (D N : Nat) (s : ByteArray) (o : Option (List Tm)) (ho : DualIs D N s o) (h1 : shapeB (D : Int) (N : Int) = true) (hz : s.size ≤ N) (hw : wordB (D : Int) s.data.toList = true) (w : World) :
    Calls Tryz.prog 5 #[.int .i64 D, .int .i64 N, .string s] w (ShsPost D N o w) := by
  have hd := shape_out h1
  have hsm : s.size ≤ maxLen := by unfold maxLen; omega
  have H1 := Lib.hid h1
  have H2 := Lib.hid (show (decide ((s.size : Int) ≤ (N : Int)) && wordB (D : Int) s.data.toList) = true from by rw [hw, show decide ((s.size : Int) ≤ (N : Int)) = true from by simp; omega]; rfl)
  have HC := Lib.hid (fun W => dualOf_c D N (by omega) (by omega) h1 ho hw hz W)
  clear h1 ho hw
  go_enter Tryz.func5, Tryz.ntmps5
  go_wp2_with (first | (go_at_call 12; refine (isShape_c _ _ _).mono ?_; rw [H1.out]; rintro e w' ⟨rfl, rfl⟩) | (go_at_call 13; refine (isWord_c _ _ _ hsm _).mono ?_; rw [H2.out]; rintro e w' ⟨rfl, rfl⟩) | fail)
  refine (HC.out _).mono ?_
  cases o with
  | none =>
    rintro e w2 ⟨a2, c2, rfl, hb2, hN2⟩
    have HB2 := Lib.hid (show Below (w.heap.size + 1) (w.alloc (.cells #[.int .i64 0, .int .i64 0, .slice none 0 0] 24)) w2 from by simpa using hb2)
    have hz2 : w.heap.size < w2.heap.size := by have := hb2.size; simp at this; omega
    have bc := bcellB HB2.out
    have r0 : w2.cell? ⟨w.heap.size, 0, none⟩ = some (.int .i64 0) := (bc.1 _ _ (by omega)).trans (by go_simp)
    have r1 : w2.cell? ⟨w.heap.size, 1, none⟩ = some (.int .i64 0) := (bc.1 _ _ (by omega)).trans (by go_simp)
    have r2 : w2.cell? ⟨w.heap.size, 2, none⟩ = some (.slice none 0 0) := (bc.1 _ _ (by omega)).trans (by go_simp)
    have z0 : w2.frozen? ⟨w.heap.size, 0, none⟩ = false := (bc.2 _ _ (by omega)).trans (by go_simp)
    have z1 : w2.frozen? ⟨w.heap.size, 1, none⟩ = false := (bc.2 _ _ (by omega)).trans (by go_simp)
    have z2 : w2.frozen? ⟨w.heap.size, 2, none⟩ = false := (bc.2 _ _ (by omega)).trans (by go_simp)
    have hzb : w.heap.size < w2.heap.size := (by omega)
    clear bc
    have HW2 := Lib.hid ((below1 w _).trans (HB2.out.mono (Nat.le_succ _)))
    clear hb2 hN2
    go_wp2
    refine bodyPost_ret (v := .tuple #[.agg #[.int .i64 0, .int .i64 0, .slice a2 ([] : List Tm).length c2], .int .i64 3]) (by simp [results, Tryz.results5, go_sem, r0, r1, r2, hzb]) rfl ⟨a2, c2, rfl, ?_, .inl rfl⟩
    have hW := HW2.out
    go_grown
  | some ts =>
    rintro e w2 ⟨a2, c2, rfl, hb2, hN2⟩
    have HB2 := Lib.hid (show Below (w.heap.size + 1) (w.alloc (.cells #[.int .i64 0, .int .i64 0, .slice none 0 0] 24)) w2 from by simpa using hb2)
    have hz2 : w.heap.size < w2.heap.size := by have := hb2.size; simp at this; omega
    have HN2 := Lib.hid (show NewRow (w.heap.size + 1) w2.heap.size w2 a2 ts from by simpa using hN2)
    have bc := bcellB HB2.out
    have r0 : w2.cell? ⟨w.heap.size, 0, none⟩ = some (.int .i64 0) := (bc.1 _ _ (by omega)).trans (by go_simp)
    have r1 : w2.cell? ⟨w.heap.size, 1, none⟩ = some (.int .i64 0) := (bc.1 _ _ (by omega)).trans (by go_simp)
    have r2 : w2.cell? ⟨w.heap.size, 2, none⟩ = some (.slice none 0 0) := (bc.1 _ _ (by omega)).trans (by go_simp)
    have z0 : w2.frozen? ⟨w.heap.size, 0, none⟩ = false := (bc.2 _ _ (by omega)).trans (by go_simp)
    have z1 : w2.frozen? ⟨w.heap.size, 1, none⟩ = false := (bc.2 _ _ (by omega)).trans (by go_simp)
    have z2 : w2.frozen? ⟨w.heap.size, 2, none⟩ = false := (bc.2 _ _ (by omega)).trans (by go_simp)
    have hzb : w.heap.size < w2.heap.size := (by omega)
    clear bc
    have HW2 := Lib.hid ((below1 w _).trans (HB2.out.mono (Nat.le_succ _)))
    clear hb2 hN2
    go_wp2
    refine bodyPost_ret (v := .tuple #[.agg #[.int .i64 D, .int .i64 N, .slice a2 ts.length c2], .int .i64 0]) (by simp [results, Tryz.results5, go_sem, r0, r1, r2, hzb]) rfl ⟨a2, c2, rfl, ?_, ?_⟩
    · have hW := HW2.out
      go_grown
    · exact (HN2.out.far3 (by omega)).mono (by omega) (Nat.le_refl _)
end Go.Proofs.YtdgkkcjjfpenpaaGreatDoor
