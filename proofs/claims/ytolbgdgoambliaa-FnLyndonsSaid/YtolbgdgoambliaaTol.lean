/-
  The search for a term: the order of words is strict and transitive; the contracts of the binary search and of the model's search.
  The binary search of the library at terms, and findTerm of the program.
  The places of lengths: the binary search of the library at an int64, and indexOfLength of the program.
  The terms of a length, as the program cuts them out of a list.
-/
import Derived.Test.YtolbgdgoambliaaImpIs
namespace Go.Proofs.Ytolbgdgoambliaa
open Go.RowKit

theorem bl_irrefl : ∀ a : List UInt8, Op.bytesLess a a = false
  | [] => rfl
  | x :: a => by simp [Op.bytesLess, bl_irrefl a]
theorem bl_trans : ∀ a b c : List UInt8, Op.bytesLess a b = true → Op.bytesLess b c = true → Op.bytesLess a c = true
  | _, [], c, h, _ => by simp [Op.bytesLess] at h
  | _, _ :: _, [], _, h => by simp [Op.bytesLess] at h
  | [], _ :: _, _ :: _, _, _ => rfl
  | x :: a, y :: b, z :: c, h1, h2 => by
    simp only [Op.bytesLess, Bool.or_eq_true, decide_eq_true_eq, Bool.and_eq_true, beq_iff_eq] at h1 h2 ⊢
    rcases h1 with h1 | ⟨rfl, h1⟩
    · rcases h2 with h2 | ⟨rfl, _⟩
      · exact .inl (UInt8.lt_trans h1 h2)
      · exact .inl h1
    · rcases h2 with h2 | ⟨rfl, h2⟩
      · exact .inl h2
      · exact .inr ⟨rfl, bl_trans a b c h1 h2⟩
theorem lessL_irrefl (a : List UInt8) : lessL a a = false := by simp [lessL, bl_irrefl]
theorem lessL_trans {a b c : List UInt8} (h1 : lessL a b = true) (h2 : lessL b c = true) : lessL a c = true := by
  unfold lessL at *
  by_cases e1 : a.length = b.length
  · rw [if_pos e1] at h1
    by_cases e2 : b.length = c.length
    · rw [if_pos e2] at h2
      rw [if_pos (e1.trans e2)]
      exact bl_trans a b c h1 h2
    · rw [if_neg e2] at h2
      simp only [decide_eq_true_eq] at h2
      rw [if_neg (by omega)]
      simp only [decide_eq_true_eq]; omega
  · rw [if_neg e1] at h1
    simp only [decide_eq_true_eq] at h1
    by_cases e2 : b.length = c.length
    · rw [if_neg (by omega)]
      simp only [decide_eq_true_eq]; omega
    · rw [if_neg e2] at h2
      simp only [decide_eq_true_eq] at h2
      rw [if_neg (by omega)]
      simp only [decide_eq_true_eq]; omega
theorem cb_zero : ∀ a b : List UInt8, Lib.compareBytes a b = 0 ↔ a = b
  | [], [] => by simp [Lib.compareBytes]
  | [], _ :: _ => by simp [Lib.compareBytes]
  | _ :: _, [] => by simp [Lib.compareBytes]
  | x :: a, y :: b => by
    have ih := cb_zero a b
    by_cases h1 : x < y
    · have : x ≠ y := by rintro rfl; exact absurd h1 (UInt8.lt_irrefl _)
      simp [Lib.compareBytes, h1, this]
    · by_cases h2 : y < x
      · have : x ≠ y := by rintro rfl; exact absurd h2 (UInt8.lt_irrefl _)
        simp [Lib.compareBytes, h1, h2, this]
      · have h3 : x = y := UInt8.le_antisymm (UInt8.not_lt.1 h2) (UInt8.not_lt.1 h1)
        subst h3
        simp [Lib.compareBytes, h1, ih]
theorem cmpL_zero (a b : List UInt8) : cmpL a b = 0 ↔ a = b := by
  unfold cmpL
  by_cases h : a.length = b.length
  · rw [if_pos h]; exact cb_zero a b
  · have hne : a ≠ b := fun e => h (by rw [e])
    rw [if_neg h]
    split <;> simp [hne]

/-- the words of a list of terms ascend -/
def Asc (ts : List Tm) : Prop := ∀ i j (hj : j < ts.length) (hij : i < j), lessL (ts[i]'(Nat.lt_trans hij hj)).s.data.toList (ts[j]).s.data.toList = true
theorem asc_of_ser {L V : Int} {ts : List Tm} (h : serB L V ts = true) : Asc ts := by
  have hall : ∀ k, k < ts.length → goodAt L V ts k = true := by
    unfold serB at h
    rw [Bool.and_eq_true, List.all_eq_true] at h
    exact fun k hk => h.2 k (List.mem_range.2 hk)
  have step : ∀ k (hk : k + 1 < ts.length), lessL (ts[k]'(by omega)).s.data.toList (ts[k + 1]).s.data.toList = true := fun k hk => by
    have g := hall (k + 1) hk
    simp only [goodAt, List.getElem?_eq_getElem hk, List.getElem?_eq_getElem (show k < ts.length by omega), Bool.and_eq_true] at g
    exact g.2
  intro i j hj hij
  induction j with
  | zero => omega
  | succ j ih =>
    by_cases e : i = j
    · subst e; exact step i hj
    · exact lessL_trans (ih (by omega) (by omega)) (step j hj)

/-- the place at which a word stands or would stand -/
def Place (ts : List Tm) (w : List UInt8) (i : Nat) : Prop := i ≤ ts.length ∧ (∀ j (h : j < ts.length), j < i → lessL (ts[j]).s.data.toList w = true) ∧ (∀ j (h : j < ts.length), i ≤ j → lessL (ts[j]).s.data.toList w = false)
theorem place_before {ts : List Tm} {w : List UInt8} {i : Nat} (h : Place ts w i) (j : Nat) (hj : j < ts.length) (hji : j < i) : (ts[j]).s.data.toList ≠ w := by
  intro e
  have := h.2.1 j hj hji
  rw [e, lessL_irrefl] at this
  cases this
theorem place_behind {ts : List Tm} {w : List UInt8} {i : Nat} (ha : Asc ts) (h : Place ts w i) (j : Nat) (hj : j < ts.length) (hij : i < j) : (ts[j]).s.data.toList ≠ w := by
  intro e
  have h1 := ha i j hj hij
  rw [e] at h1
  rw [h.2.2 i (by omega) (Nat.le_refl _)] at h1
  cases h1

end Go.Proofs.Ytolbgdgoambliaa

namespace Go.Proofs.Ytolbgdgoambliaa
open Go.RowKit

/-- what the search comes to: a place, and whether the word stands there -/
def FindPost (ts : List Tm) (w0 : List UInt8) (W : World) (e : Ending) (w' : World) : Prop :=
  ∃ i : Nat, Place ts w0 i ∧ e = .returned (.tuple #[.int .i64 i, .bool (match ts[i]? with | some t => decide (t.s.data.toList = w0) | none => false)]) ∧ Below W.heap.size W w'

theorem low_step {ts : List Tm} {w0 : List UInt8} {m : Nat} (ha : Asc ts) (hm : m < ts.length) (h : lessL (ts[m]).s.data.toList w0 = true) : ∀ j (hj : j < ts.length), j < m + 1 → lessL (ts[j]).s.data.toList w0 = true := fun j hj hjm => by
  by_cases e : j = m
  · subst e; exact h
  · exact lessL_trans (ha j m hm (by omega)) h
theorem high_step {ts : List Tm} {w0 : List UInt8} {m : Nat} (ha : Asc ts) (hm : m < ts.length) (h : lessL (ts[m]).s.data.toList w0 = false) : ∀ j (hj : j < ts.length), m ≤ j → lessL (ts[j]).s.data.toList w0 = false := fun j hj hjm => by
  by_cases e : m = j
  · subst e; exact h
  · cases hl : lessL (ts[j]).s.data.toList w0 with
    | false => rfl
    | true => rw [lessL_trans (ha m j hj (by omega)) hl] at h; cases h
theorem cmp_ge {a b : List UInt8} (h : lessL a b = false) : 0 ≤ cmpL a b := by
  by_cases h1 : cmpL a b < 0
  · rw [(lessL_cmp a b).1 h1] at h; cases h
  · omega

/-- the value at a word -/
def valL (w0 : List UInt8) : List Tm → Int × Int
  | [] => (0, 1)
  | t :: r => if t.s.data.toList = w0 then (t.n, t.d) else valL w0 r
theorem valL_at {w0 : List UInt8} : ∀ (ts : List Tm) (i : Nat) (h : i < ts.length), (∀ j (hj : j < ts.length), j < i → (ts[j]).s.data.toList ≠ w0) → (ts[i]).s.data.toList = w0 → valL w0 ts = ((ts[i]).n, (ts[i]).d)
  | [], i, h, _, _ => absurd h (Nat.not_lt_zero _)
  | t :: r, 0, _, _, he => by simp only [List.getElem_cons_zero] at he ⊢; rw [valL, if_pos he]
  | t :: r, i + 1, h, hn, he => by
    have h0 := hn 0 (by simp) (by omega)
    simp only [List.getElem_cons_zero] at h0
    rw [valL, if_neg h0]
    simp only [List.getElem_cons_succ] at he ⊢
    exact valL_at r i (by simpa using h) (fun j hj hji => by have := hn (j + 1) (by simpa using hj) (by omega); simpa using this) he
theorem valL_none {w0 : List UInt8} : ∀ (ts : List Tm), (∀ j (hj : j < ts.length), (ts[j]).s.data.toList ≠ w0) → valL w0 ts = (0, 1)
  | [], _ => rfl
  | t :: r, hn => by
    have h0 := hn 0 (by simp)
    simp only [List.getElem_cons_zero] at h0
    rw [valL, if_neg h0]
    exact valL_none r (fun j hj => by have := hn (j + 1) (by simpa using hj); simpa using this)
theorem data_eq {a b : ByteArray} (h : a.data.toList = b.data.toList) : a = b := by
  cases a; cases b; simp at h; rw [h]

end Go.Proofs.Ytolbgdgoambliaa

namespace Go.Proofs.Ytolbgdgoambliaa
open Go.RowKit

theorem less_len {a b : List UInt8} (h : lessL a b = true) : a.length ≤ b.length := by
  unfold lessL at h
  by_cases e : a.length = b.length
  · omega
  · rw [if_neg e] at h
    simp only [decide_eq_true_eq] at h; omega
/-- the place at which words of a length begin -/
def LPlace (ts : List Tm) (n : Int) (i : Nat) : Prop := i ≤ ts.length ∧ (∀ j (h : j < ts.length), j < i → ((ts[j]).s.size : Int) < n) ∧ (∀ j (h : j < ts.length), i ≤ j → n ≤ ((ts[j]).s.size : Int))
theorem asc_len {ts : List Tm} (ha : Asc ts) : ∀ i j (hj : j < ts.length) (hij : i < j), (ts[i]'(Nat.lt_trans hij hj)).s.size ≤ (ts[j]).s.size := fun i j hj hij => by
  have h := less_len (ha i j hj hij)
  simpa using h

def cmpI (a b : Int) : Int := if a < b then -1 else if b < a then 1 else 0
theorem cmpI_lt {a b : Int} (h : a < b) : cmpI a b < 0 := by simp [cmpI, h]
theorem cmpI_ge {a b : Int} (h : b ≤ a) : 0 ≤ cmpI a b := by
  unfold cmpI
  rw [if_neg (by omega)]
  split <;> omega

def LPost (ts : List Tm) (n : Int) (W : World) (e : Ending) (w' : World) : Prop :=
  ∃ (i : Nat) (f : Bool), LPlace ts n i ∧ e = .returned (.tuple #[.int .i64 i, .bool f]) ∧ Below W.heap.size W w'

/-- what indexOfLength comes to -/
def IPost (ts : List Tm) (n : Int) (W : World) (e : Ending) (w' : World) : Prop :=
  ∃ i : Nat, LPlace ts n i ∧ e = .returned (.int .i64 i) ∧ Below W.heap.size W w'
end Go.Proofs.Ytolbgdgoambliaa

namespace Go.Proofs.Ytolbgdgoambliaa
open Go.RowKit

def partL (m : Int) (ts : List Tm) : List Tm := ts.filter fun t => decide ((t.s.size : Int) = m)
theorem places_le {ts : List Tm} {m : Int} {i j : Nat} (h1 : LPlace ts m i) (h2 : LPlace ts (m + 1) j) : i ≤ j := by
  by_cases h : i ≤ j
  · exact h
  · have a := h1.2.1 j (by have := h1.1; omega) (by omega)
    have b := h2.2.2 j (by have := h1.1; omega) (Nat.le_refl _)
    omega
theorem part_eq {ts : List Tm} {m : Int} {i j : Nat} (h1 : LPlace ts m i) (h2 : LPlace ts (m + 1) j) : (ts.drop i).take (j - i) = partL m ts := by
  have hij := places_le h1 h2
  have hj := h2.1
  have e : ts = ts.take i ++ ((ts.drop i).take (j - i) ++ ts.drop j) := by
    have e1 : ts.drop j = (ts.drop i).drop (j - i) := by rw [List.drop_drop]; congr 1; omega
    rw [e1, List.take_append_drop, List.take_append_drop]
  have f1 : (ts.take i).filter (fun t => decide ((t.s.size : Int) = m)) = [] := by
    rw [List.filter_eq_nil_iff]
    intro t ht
    obtain ⟨k, hk, rfl⟩ := List.getElem_of_mem ht
    rw [List.length_take] at hk
    rw [List.getElem_take]
    have := h1.2.1 k (by omega) (by omega)
    simp; omega
  have f2 : ((ts.drop i).take (j - i)).filter (fun t => decide ((t.s.size : Int) = m)) = (ts.drop i).take (j - i) := by
    rw [List.filter_eq_self]
    intro t ht
    obtain ⟨k, hk, rfl⟩ := List.getElem_of_mem ht
    rw [List.length_take, List.length_drop] at hk
    rw [List.getElem_take, List.getElem_drop]
    have a := h1.2.2 (i + k) (by omega) (by omega)
    have b := h2.2.1 (i + k) (by omega) (by omega)
    simp; omega
  have f3 : (ts.drop j).filter (fun t => decide ((t.s.size : Int) = m)) = [] := by
    rw [List.filter_eq_nil_iff]
    intro t ht
    obtain ⟨k, hk, rfl⟩ := List.getElem_of_mem ht
    rw [List.length_drop] at hk
    rw [List.getElem_drop]
    have := h2.2.2 (j + k) (by omega) (by omega)
    simp; omega
  unfold partL
  conv => rhs; rw [e]
  rw [List.filter_append, List.filter_append, f1, f2, f3, List.append_nil, List.nil_append]
theorem cut_terms {w : World} {b off : Nat} {ts : List Tm} {i n : Nat} (h : TermsIn w b off ts) (hin : i + n ≤ ts.length) : TermsIn w b (off + i * 3) ((ts.drop i).take n) := by
  intro k hk
  have hk2 : k < n := by rw [List.length_take] at hk; omega
  have g := h (i + k) (by omega)
  rw [List.getElem_take, List.getElem_drop]
  have e : off + i * 3 + k * 3 = off + (i + k) * 3 := by omega
  rw [e]
  exact g

/-- what termsOfLength comes to: a part of the row that came in -/
def CutPost (b : Nat) (ps : List Tm) (W : World) (e : Ending) (w' : World) : Prop :=
  ∃ o, e = .returned (.slice (some ⟨b, o, none⟩) ps.length ps.length) ∧ TermsIn w' b o ps ∧ Below W.heap.size W w'

end Go.Proofs.Ytolbgdgoambliaa
