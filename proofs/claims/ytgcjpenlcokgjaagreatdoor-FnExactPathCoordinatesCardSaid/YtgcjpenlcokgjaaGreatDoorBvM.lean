/-
  Plain mathematics: the values of brackets, of Lyndon words and from the left.
-/
import Derived.Test.YtgcjpenlcokgjaaGreatDoorComV
import Derived.Test.YtgcjpenlcokgjaaGreatDoorBrk
import Derived.Test.YtgcjpenlcokgjaaGreatDoorUnitS
namespace Go.Proofs.YtgcjpenlcokgjaaGreatDoor
open Go.RowKit

/-- the values of a letter -/
def oneF (s : ByteArray) : VF := setF (fun _ => none) s (some (1, 1))
theorem oneF_same (s : ByteArray) : oneF s s = some (1, 1) := by simp [oneF, setF]
theorem oneF_eq {s t : ByteArray} {p : Int × Int} (h : oneF s t = some p) : t = s ∧ p = (1, 1) := by
  unfold oneF setF at h
  split at h
  · rename_i e
    injection h with h
    exact ⟨e, h.symm⟩
  · cases h
theorem good_one {ws : List ByteArray} {s : ByteArray} (hs : s ∈ ws) : GoodV ws (oneF s) := fun t p h => by
  obtain ⟨rfl, rfl⟩ := oneF_eq h
  exact ⟨hs, by decide, by decide⟩
theorem isF_one {s : ByteArray} : ∀ t p, oneF s t = some p → isF p.1 p.2 = true := fun t p h => by
  obtain ⟨rfl, rfl⟩ := oneF_eq h
  decide
theorem one_terms {D N : Nat} (hD : D ≤ 3) {s : ByteArray} (hs : s ∈ allW D N) : termsOf (oneF s) (allW D N) = [⟨s, 1, 1⟩] := by
  refine termsOf_eq hD (by simp) fun t => ⟨fun h => ?_, fun h => ?_⟩
  · have e : t = ⟨s, 1, 1⟩ := by simpa using h
    subst e
    exact ⟨hs, oneF_same s⟩
  · obtain ⟨_, h2⟩ := h
    obtain ⟨e, hp⟩ := oneF_eq h2
    injection hp with h3 h4
    obtain ⟨s', n', d'⟩ := t
    simp only at e h3 h4
    subst e h3 h4
    simp
/-- the values of a bracket, if all fits -/
def brkV (ws : List ByteArray) : Brk → Option VF
  | .leaf s => some (oneF s)
  | .node l r => (brkV ws l).bind fun f => (brkV ws r).bind fun g => commV f g ws
/-- all letters of a bracket are words of a list -/
def Brk.inW (ws : List ByteArray) : Brk → Prop
  | .leaf s => s ∈ ws
  | .node l r => l.inW ws ∧ r.inW ws
theorem brkV_good {ws : List ByteArray} : ∀ {b : Brk} {h : VF}, b.inW ws → brkV ws b = some h → GoodV ws h
  | .leaf s, h, hi, e => by
    injection e with e
    subst e
    exact good_one hi
  | .node l r, h, hi, e => by
    obtain ⟨f, _, e2⟩ := Option.bind_eq_some_iff.1 e
    obtain ⟨g, _, e4⟩ := Option.bind_eq_some_iff.1 e2
    exact GoodV.commV e4
theorem brkV_isF {ws : List ByteArray} : ∀ {b : Brk} {h : VF}, brkV ws b = some h → ∀ s p, h s = some p → isF p.1 p.2 = true
  | .leaf s, h, e => by
    injection e with e
    subst e
    exact isF_one
  | .node l r, h, e => fun s p hs => by
    obtain ⟨f, _, e2⟩ := Option.bind_eq_some_iff.1 e
    obtain ⟨g, _, e4⟩ := Option.bind_eq_some_iff.1 e2
    exact (GoodV.commV e4 s p hs).2.1
theorem brkV_l {ws : List ByteArray} {l r : Brk} (h : brkV ws l = none) : brkV ws (.node l r) = none := by
  show (brkV ws l).bind _ = none
  rw [h]; rfl
theorem brkV_r {ws : List ByteArray} {l r : Brk} (h : brkV ws r = none) : brkV ws (.node l r) = none := by
  show (brkV ws l).bind _ = none
  cases brkV ws l with
  | none => rfl
  | some f =>
    show (brkV ws r).bind _ = none
    rw [h]; rfl
theorem brkV_lr {ws : List ByteArray} {l r : Brk} {f g : VF} (h : brkV ws l = some f) (h2 : brkV ws r = some g) : brkV ws (.node l r) = commV f g ws := by
  show (brkV ws l).bind _ = _
  rw [h]
  show (brkV ws r).bind _ = _
  rw [h2]; rfl
theorem wordB_part {d : Int} {s : ByteArray} (h : wordB d s.data.toList = true) (i j : Nat) : wordB d (s.extract i j).data.toList = true := by
  have e : (s.extract i j).data.toList = (s.data.toList.drop i).take (j - i) := by
    rw [ByteArray.data_extract, Array.toList_extract]
  rw [e]
  refine wordB_take ?_ _
  unfold wordB at h ⊢
  rw [List.all_eq_true] at h ⊢
  exact fun x hx => h x (List.drop_subset _ _ hx)
theorem brk_in {D N : Nat} (hD : D ≤ 3) (hN : 1 ≤ N) : ∀ {s : ByteArray} {b : Brk}, BrkOf s b → wordB (D : Int) s.data.toList = true → b.inW (allW D N)
  | _, _, .one s h, hw => allW_all hD N s (by omega) hw
  | _, _, .two s i l r h hi hl hr, hw => ⟨brk_in hD hN hl (wordB_part hw _ _), brk_in hD hN hr (wordB_part hw _ _)⟩
/-- the bracket of a word from the left -/
inductive LBrk : ByteArray → Brk → Prop
  | one (s : ByteArray) : s.size = 1 → LBrk s (.leaf s)
  | two (s : ByteArray) (l : Brk) : 2 ≤ s.size → LBrk (s.extract 0 (s.size - 1)) l → LBrk s (.node l (.leaf (s.extract (s.size - 1) s.size)))
theorem lbrk_is : ∀ (k : Nat) (s : ByteArray), s.size ≤ k → 1 ≤ s.size → ∃ b, LBrk s b
  | 0, s, h, h1 => by omega
  | k + 1, s, h, h1 => by
    by_cases h0 : s.size = 1
    · exact ⟨_, .one s h0⟩
    · obtain ⟨l, hl⟩ := lbrk_is k (s.extract 0 (s.size - 1)) (by rw [ByteArray.size_extract]; omega) (by rw [ByteArray.size_extract]; omega)
      exact ⟨_, .two s l (by omega) hl⟩
theorem lbrk_in {D N : Nat} (hD : D ≤ 3) (hN : 1 ≤ N) : ∀ {s : ByteArray} {b : Brk}, LBrk s b → wordB (D : Int) s.data.toList = true → b.inW (allW D N)
  | _, _, .one s h, hw => allW_all hD N s (by omega) hw
  | _, _, .two s l _ hl, hw => ⟨lbrk_in hD hN hl (wordB_part hw _ _), allW_all hD N _ (by rw [ByteArray.size_extract]; omega) (wordB_part hw _ _)⟩
/-- the values of the left bracket of a word's first letters: of none they are nothing -/
def leftV (ws : List ByteArray) (s : ByteArray) : Nat → Option VF
  | 0 => some fun _ => none
  | k + 1 => if k = 0 then some (oneF (s.extract 0 1)) else (leftV ws s k).bind fun f => commV f (oneF (s.extract k (k + 1))) ws
theorem leftV_next {ws : List ByteArray} {s : ByteArray} {k : Nat} {f : VF} (hk : 1 ≤ k) (h : leftV ws s k = some f) : leftV ws s (k + 1) = commV f (oneF (s.extract k (k + 1))) ws := by
  rw [leftV, if_neg (by omega), h]; rfl
theorem leftV_dead {ws : List ByteArray} {s : ByteArray} {k : Nat} (hk : 1 ≤ k) (h : leftV ws s k = none) : ∀ {m : Nat}, k ≤ m → leftV ws s m = none
  | 0, hm => by omega
  | m + 1, hm => by
    by_cases e : k = m + 1
    · rw [← e]; exact h
    · rw [leftV, if_neg (by omega), leftV_dead hk h (show k ≤ m by omega)]; rfl
theorem ext_ext (s : ByteArray) {j k : Nat} (_h : k ≤ s.size) (i : Nat) (hj : j ≤ k) : (s.extract 0 k).extract i j = s.extract i j := by
  rw [ByteArray.extract_extract]
  congr 1
  · omega
  · omega
theorem lbrk_leftk {ws : List ByteArray} {s : ByteArray} : ∀ {t : ByteArray} {b : Brk}, LBrk t b → ∀ k, k ≤ s.size → t = s.extract 0 k → brkV ws b = leftV ws s k
  | _, _, .one t h, k, hk, e => by
    have hz : t.size = k := by rw [e, ByteArray.size_extract]; omega
    have hk1 : k = 1 := by omega
    subst hk1
    subst e
    rfl
  | _, _, .two t l _ hl, k, hk, e => by
    have hz : t.size = k := by rw [e, ByteArray.size_extract]; omega
    obtain ⟨j, rfl⟩ : ∃ j, k = j + 1 := ⟨k - 1, by omega⟩
    have ih := lbrk_leftk (ws := ws) (s := s) hl j (by omega) (by rw [hz, e, Nat.add_sub_cancel]; exact ext_ext s hk 0 (by omega))
    rw [leftV, if_neg (by omega), ← ih]
    have e2 : t.extract (t.size - 1) t.size = s.extract j (j + 1) := by rw [hz, e, Nat.add_sub_cancel]; exact ext_ext s hk j (Nat.le_refl _)
    rw [e2]
    rfl
/-- the values of the left bracket of a word -/
def leftW (ws : List ByteArray) (s : ByteArray) : Option VF := leftV ws s s.size
theorem lbrk_left {ws : List ByteArray} {s : ByteArray} {b : Brk} (h : LBrk s b) : brkV ws b = leftW ws s := lbrk_leftk h s.size (Nat.le_refl _) (by rw [ByteArray.extract_zero_size])
theorem leftV_good {D N : Nat} (hD : D ≤ 3) (hN : 1 ≤ N) {s : ByteArray} (hw : wordB (D : Int) s.data.toList = true) : ∀ {k : Nat} {f : VF}, k ≤ s.size → leftV (allW D N) s k = some f → GoodV (allW D N) f
  | 0, f, _, h => by
    injection h with h
    subst h
    exact GoodV.none _
  | k + 1, f, hk, h => by
    rw [leftV] at h
    split at h
    · injection h with h
      subst h
      exact good_one (allW_all hD N _ (by rw [ByteArray.size_extract]; omega) (wordB_part hw _ _))
    · obtain ⟨g, _, e2⟩ := Option.bind_eq_some_iff.1 h
      exact GoodV.commV e2
/-- what letters, a level and a word come to that is to be made a bracket -/
def codeW (L V : Int) (s : ByteArray) : Int := if inB L 1 3 = true then (if wordB L s.data.toList = true then (if shapeB L V = true ∧ (s.size : Int) ≤ V then 0 else 2) else 1) else 2
theorem codeW_0 {L V : Int} {s : ByteArray} (h : codeW L V s = 0) : wordB L s.data.toList = true ∧ shapeB L V = true ∧ (s.size : Int) ≤ V := by
  unfold codeW at h
  split at h
  · split at h
    · split at h
      · rename_i h1 h2 h3
        exact ⟨h2, h3⟩
      · cases h
    · cases h
  · cases h
/-- a series of values, or that something does not fit -/
def FitB (D N : Nat) (r : Option VF) (W : World) (e : Ending) (w' : World) : Prop := match r with | none => SerPost 0 0 [] 3 W e w' | some h => SerPost D N (termsOf h (allW D N)) 0 W e w'
theorem hA_of {D N : Nat} {aS : Option Addr} {w : World} (hrs : SRow w aS (allW D N)) : ∀ p, aS = some p → p.block < w.heap.size := fun p e => by
  rcases hrs with h | ⟨b, o, e2, h3, _⟩
  · obtain ⟨r, hr, _⟩ := allW_head D N
    rw [hr] at h
    cases h
  · rw [e2] at e
    injection e with e
    rw [← e]
    exact h3
theorem terms_bd {ws : List ByteArray} {f : VF} (h : GoodV ws f) : ∀ t ∈ termsOf f ws, bdT t := fun t ht => by
  have hg := h _ _ (termsOf_iff.1 ht).2
  have := isF_abs hg.2.1
  exact ⟨this.1, this.2.1⟩
end Go.Proofs.YtgcjpenlcokgjaaGreatDoor
