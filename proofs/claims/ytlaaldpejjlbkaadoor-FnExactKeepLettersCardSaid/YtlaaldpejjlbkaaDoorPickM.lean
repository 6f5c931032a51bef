/-
  Plain mathematics: terms whose words are changed, or left out, by a function that keeps the order of the words. No program is named here.
-/
import Derived.Test.YtlaaldpejjlbkaaDoorPartOf
import Derived.Test.YtlaaldpejjlbkaaDoorSumL
namespace Go.Proofs.YtlaaldpejjlbkaaDoor

/-- a term at its new word, if it has one -/
def pickT (f : ByteArray → Option ByteArray) (t : Tm) : Option Tm := (f t.s).map fun s => ⟨s, t.n, t.d⟩
def pickL (f : ByteArray → Option ByteArray) (ts : List Tm) : List Tm := ts.filterMap (pickT f)
/-- words stay in their order -/
def KeepsO (f : ByteArray → Option ByteArray) : Prop := ∀ a b a' b', f a = some a' → f b = some b' → lessL a.data.toList b.data.toList = true → lessL a'.data.toList b'.data.toList = true

theorem pickL_length (f : ByteArray → Option ByteArray) (ts : List Tm) : (pickL f ts).length ≤ ts.length := List.length_filterMap_le _ _
theorem pickL_take (f : ByteArray → Option ByteArray) {ts : List Tm} {k : Nat} (hk : k < ts.length) : pickL f (ts.take (k + 1)) = pickL f (ts.take k) ++ (pickT f ts[k]).toList := by
  unfold pickL
  rw [List.take_succ_eq_append_getElem hk, List.filterMap_append]
  congr 1
theorem pickL_none {f : ByteArray → Option ByteArray} {ts : List Tm} {k : Nat} (hk : k < ts.length) (h : f (ts[k]).s = none) : pickL f (ts.take (k + 1)) = pickL f (ts.take k) := by
  rw [pickL_take f hk]
  simp [pickT, h]
theorem pickL_some {f : ByteArray → Option ByteArray} {ts : List Tm} {k : Nat} (hk : k < ts.length) {s : ByteArray} (h : f (ts[k]).s = some s) : pickL f (ts.take (k + 1)) = pickL f (ts.take k) ++ [⟨s, (ts[k]).n, (ts[k]).d⟩] := by
  rw [pickL_take f hk]
  simp [pickT, h]
theorem pickL_mem {f : ByteArray → Option ByteArray} {ts : List Tm} {t : Tm} (h : t ∈ pickL f ts) : ∃ u ∈ ts, f u.s = some t.s ∧ t.n = u.n ∧ t.d = u.d := by
  obtain ⟨u, hu, e⟩ := List.mem_filterMap.1 h
  unfold pickT at e
  obtain ⟨s, hs, rfl⟩ := Option.map_eq_some_iff.1 e
  exact ⟨u, hu, hs, rfl, rfl⟩

theorem putL_end : ∀ (xs : List Tm) (u : Tm), (∀ t ∈ xs, lessT t u = true) → u.n ≠ 0 → putL xs u = some (xs ++ [u])
  | [], u, _, hu => by simp [putL, putHere, conT, hu]
  | x :: xs, u, h, hu => by
    have hx : lessT x u = true := h x (by simp)
    simp [putL, hx, putL_end xs u (fun t ht => h t (by simp [ht])) hu]
theorem pick_put {f : ByteArray → Option ByteArray} (hf : KeepsO f) {ts : List Tm} (ha : Asc ts) (hn : ∀ t ∈ ts, t.n ≠ 0) {k : Nat} (hk : k < ts.length) {s : ByteArray} (h : f (ts[k]).s = some s) :
    putL (pickL f (ts.take k)) ⟨s, (ts[k]).n, (ts[k]).d⟩ = some (pickL f (ts.take (k + 1))) := by
  rw [pickL_some hk h]
  refine putL_end _ _ (fun t ht => ?_) (show (ts[k]).n ≠ 0 from hn _ (List.getElem_mem hk))
  obtain ⟨u, hu, e, _, _⟩ := pickL_mem ht
  obtain ⟨i, hi, rfl⟩ := List.mem_iff_getElem.1 hu
  rw [List.length_take] at hi
  rw [List.getElem_take] at e
  exact hf _ _ _ _ e h (ha i k hk (by omega))

theorem ser_nz7 {L V : Int} {ts : List Tm} (h : serB L V ts = true) : ∀ t ∈ ts, t.n ≠ 0 := fun t ht => by
  obtain ⟨i, hi, rfl⟩ := List.mem_iff_getElem.1 ht
  unfold serB at h
  rw [Bool.and_eq_true, List.all_eq_true] at h
  have hg := h.2 i (List.mem_range.2 hi)
  intro h0
  rw [goodAt_term (List.getElem?_eq_getElem hi) (term_zero (by simp [h0]))] at hg
  cases hg

theorem bl_self : ∀ (u x y : List UInt8), Op.bytesLess (u ++ x) (u ++ y) = Op.bytesLess x y
  | [], _, _ => rfl
  | c :: u, x, y => by
    have ih := bl_self u x y
    simp only [List.cons_append, Op.bytesLess, ih, UInt8.lt_irrefl, decide_false, Bool.false_or, beq_self_eq_true, Bool.true_and]
theorem bl_irr : ∀ x : List UInt8, Op.bytesLess x x = false
  | [] => rfl
  | c :: x => by
    have ih := bl_irr x
    simp only [Op.bytesLess, ih, UInt8.lt_irrefl, decide_false, Bool.and_false, Bool.or_self]
theorem bl_tail : ∀ (a b x : List UInt8), a.length = b.length → Op.bytesLess (a ++ x) (b ++ x) = true → Op.bytesLess a b = true
  | [], [], x, _, h => by
    have := bl_irr x
    simp only [List.nil_append] at h
    rw [this] at h; cases h
  | [], _ :: _, _, hl, _ => by simp at hl
  | _ :: _, [], _, hl, _ => by simp at hl
  | a :: al, b :: bs, x, hl, h => by
    simp only [List.cons_append, Op.bytesLess, Bool.or_eq_true, decide_eq_true_eq, Bool.and_eq_true, beq_iff_eq] at h
    simp only [Op.bytesLess, Bool.or_eq_true, decide_eq_true_eq, Bool.and_eq_true, beq_iff_eq]
    rcases h with h | ⟨e, h⟩
    · exact .inl h
    · exact .inr ⟨e, bl_tail al bs x (by simpa using hl) h⟩

/-- a word without a beginning; without an end; a word of given letters alone -/
def cutB (u s : ByteArray) : Option ByteArray := if Lib.hasPrefix s.data.toList u.data.toList then some (s.extract u.size s.size) else none
def cutE (u s : ByteArray) : Option ByteArray := if Lib.hasSuffix s.data.toList u.data.toList then some (s.extract 0 (s.size - u.size)) else none
def ofOnly (u s : ByteArray) : Option ByteArray := if s.data.toList.all (fun c => u.data.toList.contains c) then some s else none

theorem cutB_form {u s s' : ByteArray} (h : cutB u s = some s') : s.data.toList = u.data.toList ++ s'.data.toList := by
  unfold cutB at h
  split at h
  · rename_i hp
    cases h
    obtain ⟨r, hr⟩ := List.isPrefixOf_iff_prefix.1 hp
    have e : u.size = u.data.toList.length := Lib.size_eq u
    have e2 : s.size = s.data.toList.length := Lib.size_eq s
    rw [Lib.extract_data, e, e2, ← hr, List.drop_left, List.take_of_length_le (by simp)]
  · cases h
theorem cutE_form {u s s' : ByteArray} (h : cutE u s = some s') : s.data.toList = s'.data.toList ++ u.data.toList := by
  unfold cutE at h
  split at h
  · rename_i hp
    cases h
    obtain ⟨r, hr⟩ := List.isSuffixOf_iff_suffix.1 hp
    have e : u.size = u.data.toList.length := Lib.size_eq u
    have e2 : s.size = s.data.toList.length := Lib.size_eq s
    rw [Lib.extract_data, e, e2, ← hr, List.drop_zero, List.length_append]
    have e3 : r.length + u.data.toList.length - u.data.toList.length - 0 = r.length := by omega
    rw [e3, List.take_left]
  · cases h
theorem cutB_keeps (u : ByteArray) : KeepsO (cutB u) := fun a b a' b' h1 h2 h => by
  rw [cutB_form h1, cutB_form h2] at h
  unfold lessL at h ⊢
  simp only [List.length_append, Nat.add_left_cancel_iff, Nat.add_lt_add_iff_left, bl_self] at h
  exact h
theorem cutE_keeps (u : ByteArray) : KeepsO (cutE u) := fun a b a' b' h1 h2 h => by
  rw [cutE_form h1, cutE_form h2] at h
  unfold lessL at h ⊢
  simp only [List.length_append, Nat.add_right_cancel_iff, Nat.add_lt_add_iff_right] at h
  split at h
  · rename_i e
    rw [if_pos e]
    exact bl_tail _ _ _ e h
  · rename_i e
    rw [if_neg e]
    exact h
theorem ofOnly_keeps (u : ByteArray) : KeepsO (ofOnly u) := fun a b a' b' h1 h2 h => by
  unfold ofOnly at h1 h2
  split at h1
  · split at h2
    · cases h1; cases h2; exact h
    · cases h2
  · cases h1
theorem form_size {a b : ByteArray} {l : List UInt8} (h : a.data.toList = l ++ b.data.toList ∨ a.data.toList = b.data.toList ++ l) : b.size ≤ a.size := by
  rw [Lib.size_eq, Lib.size_eq]
  rcases h with h | h <;> · rw [h, List.length_append]; omega
/-- a word never grows -/
def Shrinks (f : ByteArray → Option ByteArray) : Prop := ∀ s s', f s = some s' → s'.size ≤ s.size
theorem cutB_shrinks (u : ByteArray) : Shrinks (cutB u) := fun _ _ h => form_size (.inl (cutB_form h))
theorem cutE_shrinks (u : ByteArray) : Shrinks (cutE u) := fun _ _ h => form_size (.inr (cutE_form h))
theorem ofOnly_shrinks (u : ByteArray) : Shrinks (ofOnly u) := fun s s' h => by
  unfold ofOnly at h
  split at h
  · cases h; exact Nat.le_refl _
  · cases h
end Go.Proofs.YtlaaldpejjlbkaaDoor
