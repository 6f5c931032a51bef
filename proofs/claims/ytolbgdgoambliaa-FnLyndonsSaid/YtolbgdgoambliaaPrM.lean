/-
  The program's spaces: all words of a shape in a row; a series out of a map.
  The model's way to turn a word round: the letters from the last to the first.
  Plain mathematics of the reversal: putting terms of new words one by one keeps an ascending list, whose members are told.
  Plain mathematics of products and multiples of series, as functions of words. No program is named here.
-/
import Derived.Test.YtolbgdgoambliaaMapV
import Derived.Test.YtolbgdgoambliaaSumL
import Derived.Test.YtolbgdgoambliaaNew
import Derived.Maps.AppendAt
namespace Go.Proofs.Ytolbgdgoambliaa
open Go.RowKit

/-- all words of at most N letters, in order -/
def allW (D : Nat) : Nat → List ByteArray
  | 0 => wordsL D 0
  | n + 1 => allW D n ++ wordsL D (n + 1)
theorem allW_few {D : Nat} (hD : D ≤ 3) : ∀ {n : Nat}, n ≤ 5 → (allW D n).length ≤ 243 * (n + 1)
  | 0, h => by have := wordsL_few (n := 0) hD h; simpa [allW] using this
  | n + 1, h => by
    have h1 := allW_few hD (n := n) (by omega)
    have h2 := wordsL_few (n := n + 1) hD h
    rw [allW, List.length_append]
    omega
theorem allW_size (D : Nat) : ∀ (n : Nat) (s : ByteArray), s ∈ allW D n → s.size ≤ n
  | 0, s, h => by have := wordsL_size D 0 s h; omega
  | n + 1, s, h => by
    rw [allW] at h
    rcases List.mem_append.1 h with h | h
    · have := allW_size D n s h; omega
    · have := wordsL_size D (n + 1) s h; omega
/-- the words before the lengths from k on -/
def upto (D : Nat) : Nat → List ByteArray
  | 0 => []
  | k + 1 => upto D k ++ wordsL D k
theorem upto_all (D : Nat) : ∀ n, upto D (n + 1) = allW D n
  | 0 => rfl
  | n + 1 => by rw [upto, upto_all D n, allW]
theorem upto_few {D : Nat} (hD : D ≤ 3) : ∀ {k : Nat}, k ≤ 6 → (upto D k).length ≤ 243 * k
  | 0, _ => by simp [upto]
  | k + 1, h => by
    have h1 := upto_few hD (k := k) (by omega)
    have h2 := wordsL_few (n := k) hD (by omega)
    rw [upto, List.length_append]
    omega

def SpacePost (D N : Nat) (W : World) (e : Ending) (w' : World) : Prop :=
  ∃ (a : Option Addr) (cap : Nat), e = .returned (.agg #[.int .i64 D, .int .i64 N, .slice a (allW D N).length cap]) ∧ Below W.heap.size W w' ∧ NewS W.heap.size w'.heap.size w' a (allW D N)
theorem NewS.far {lo hi n i : Nat} {w : World} {a : Option Addr} {ss : List ByteArray} {x : Value} (h : NewS lo hi w a ss) (hn : n < lo) : NewS lo hi (w.setCell ⟨n, i, none⟩ x) a ss := by
  rcases h with h | ⟨g, e, h1, h2, h3, h4⟩
  · exact .inl h
  · exact .inr ⟨g, e, h1, h2, h3.set _ _, h4.setCell (by show n ≠ g; omega) _⟩

/-- the terms that a map gives along words -/
def termsOf (f : ByteArray → Option (Int × Int)) (ws : List ByteArray) : List Tm := ws.filterMap fun s => (f s).map fun p => ⟨s, p.1, p.2⟩
theorem termsOf_take {f : ByteArray → Option (Int × Int)} {ws : List ByteArray} {k : Nat} (h : k < ws.length) : termsOf f (ws.take (k + 1)) = termsOf f (ws.take k) ++ (match f ws[k] with | none => [] | some p => [⟨ws[k], p.1, p.2⟩]) := by
  unfold termsOf
  rw [List.take_succ_eq_append_getElem h, List.filterMap_append]
  congr 1
  cases hf : f ws[k] with
  | none => simp [hf]
  | some p => simp [hf]
theorem termsOf_le (f : ByteArray → Option (Int × Int)) (ws : List ByteArray) (k : Nat) : (termsOf f (ws.take k)).length ≤ ws.length := by
  refine Nat.le_trans (List.length_filterMap_le _ _) ?_
  rw [List.length_take]; omega
theorem termsOf_mem {f : ByteArray → Option (Int × Int)} {ws : List ByteArray} {t : Tm} (h : t ∈ termsOf f ws) : t.s ∈ ws := by
  unfold termsOf at h
  obtain ⟨s, hs, ht⟩ := List.mem_filterMap.1 h
  obtain ⟨p, _, rfl⟩ := Option.map_eq_some_iff.1 ht
  exact hs

theorem NewRow.far3u {lo hi n : Nat} {w : World} {a : Option Addr} {ts : List Tm} {x y z : Value} (h : NewRow lo hi w a ts) (hn : n < lo) :
    NewRow lo hi (((w.setCell ⟨n, 0, none⟩ x).setCell ⟨n, 1, none⟩ y).setCell ⟨n, 2, none⟩ z) a ts := by
  rcases h with h | ⟨g, e, h1, h2, h3, h4⟩
  · exact .inl h
  · exact .inr ⟨g, e, h1, h2, ((h3.set _ _).set _ _).set _ _, ((h4.setCell (by show n ≠ g; omega) _).setCell (by show n ≠ g; omega) _).setCell (by show n ≠ g; omega) _⟩
end Go.Proofs.Ytolbgdgoambliaa

namespace Go.Proofs.Ytolbgdgoambliaa
open Go.RowKit

theorem info_u8 : (Try.prog.info? 5).map (fun i => (i.zero, i.size, i.bytes)) = some (some (.int .u8 0), 1, 1) := by kernel_rfl
def cellsB (l : List UInt8) : List Value := l.map fun b => .int .u8 (b.toNat : Int)
/-- a value owns a row of bytes -/
def OwnB (w : World) (base : Nat) (v : Value) (l : List UInt8) : Prop := w.ownsRow base 5 1 v l.length (cellsB l)
theorem OwnB.form {w : World} {base : Nat} {v : Value} {l : List UInt8} (h : OwnB w base v l) : ∃ a c, v = .slice a l.length c := by
  rcases h.2 with ⟨rfl, h0⟩ | ⟨g, cap, cur, rfl, hbg, hg, hnc, hcm, hcs, htake⟩
  · exact ⟨none, 0, by rw [h0]⟩
  · exact ⟨_, _, rfl⟩
theorem OwnB.lt {w : World} {base : Nat} {v : Value} {l : List UInt8} (h : OwnB w base v l) : ∀ g, v.ownBlock = some g → base ≤ g ∧ g < w.heap.size := by
  intro g hg
  rcases h.2 with ⟨rfl, _⟩ | ⟨g', cap, cur, rfl, hbg, hh, hnc, hcm, hcs, htake⟩
  · cases hg
  · have e : g' = g := by simpa [Value.ownBlock] using hg
    subst e
    refine ⟨hbg, ?_⟩
    rcases Nat.lt_or_ge g' w.heap.size with hlt | hge
    · exact hlt
    · rw [Array.getElem?_eq_none hge] at hh; cases hh
theorem OwnB.empty {w : World} {base g : Nat} (h : w.heap[g]? = some (.cells #[] 5 (0, 0))) (hb : base ≤ g) : OwnB w base (.slice (some ⟨g, 0, none⟩) 0 0) [] :=
  ⟨rfl, .inr ⟨g, 0, #[], rfl, hb, h, Nat.le_refl _, Nat.zero_le _, rfl, rfl⟩⟩
/-- the bytes of such a row, as a text -/
theorem conv_own {w : World} {base : Nat} {v : Value} {l : List UInt8} (h : OwnB w base v l) : (convert 22 9 v).run Try.prog w = .ok (.string ⟨l.toArray⟩) w := by
  rcases h.2 with ⟨rfl, h0⟩ | ⟨g, cap, cur, rfl, hbg, hg, hnc, hcm, hcs, htake⟩
  · have e : l = [] := List.eq_nil_of_length_eq_zero h0
    subst e
    rw [run_convert_bytes_nil (P := Try.prog) w 22 5 Try.underlying22 Try.underlying5 0 0 9 Try.underlying9]
    rfl
  · have hx := run_convert_bytes_arg (P := Try.prog) w 22 5 Try.underlying22 Try.underlying5 g 0 l.length cap (l.map fun b => (b.toNat : Int)) (by simp) (fun i hi => by
      rw [Nat.zero_add, cell_of_row w g i cur _ _ hg]
      have e : (cur.toList.take (l.length * 1))[i]? = (cellsB l)[i]? := by rw [htake]
      rw [List.getElem?_take_of_lt (by omega), Array.getElem?_toList] at e
      rw [e]
      simp [cellsB, List.getD, List.getElem?_eq_getElem hi]) 9 Try.underlying9
    rw [hx]
    have e2 : (l.map fun b => (b.toNat : Int)).map (fun n => UInt8.ofNat n.toNat) = l := by
      rw [List.map_map]
      conv => rhs; rw [← List.map_id l]
      exact List.map_congr_left fun b _ => by simp
    simp only [strOfNums, e2]

/-- a word turned round -/
def revW (s : ByteArray) : ByteArray := ⟨s.data.toList.reverse.toArray⟩
theorem rev_step {s : ByteArray} {j : Nat} (h : j < s.size) : (s.data.toList.drop j).reverse = (s.data.toList.drop (j + 1)).reverse ++ [s[j]] := by
  rw [List.drop_eq_getElem_cons (by simpa using h), List.reverse_cons]
  rfl

end Go.Proofs.Ytolbgdgoambliaa

namespace Go.Proofs.Ytolbgdgoambliaa
open Go.RowKit

/-- two ascending lists with the same members are one -/
theorem asc_ext : ∀ xs ys : List Tm, xs.Pairwise (fun a b => lessT a b = true) → ys.Pairwise (fun a b => lessT a b = true) → (∀ t, t ∈ xs ↔ t ∈ ys) → xs = ys
  | [], [], _, _, _ => rfl
  | [], y :: ys, _, _, h => by have := (h y).2 (by simp); simp at this
  | x :: xs, [], _, _, h => by have := (h x).1 (by simp); simp at this
  | x :: xs, y :: ys, h1, h2, h => by
    rw [List.pairwise_cons] at h1 h2
    have e : x = y := by
      rcases List.mem_cons.1 ((h x).1 (by simp)) with e | e
      · exact e
      · rcases List.mem_cons.1 ((h y).2 (by simp)) with e2 | e2
        · exact e2.symm
        · have h3 := lessT_trans (h2.1 x e) (h1.1 y e2)
          rw [lessT_irrefl] at h3
          cases h3
    subst e
    have ih := asc_ext xs ys h1.2 h2.2 (fun t => by
      constructor
      · intro ht
        rcases List.mem_cons.1 ((h t).1 (by simp [ht])) with e | e
        · subst e
          have := h1.1 t ht
          rw [lessT_irrefl] at this
          cases this
        · exact e
      · intro ht
        rcases List.mem_cons.1 ((h t).2 (by simp [ht])) with e | e
        · subst e
          have := h2.1 t ht
          rw [lessT_irrefl] at this
          cases this
        · exact e)
    rw [ih]

theorem list_size (s : ByteArray) : s.data.toList.length = s.size := by rw [Array.length_toList]; rfl
/-- one word is ahead of another -/
def lessW (a b : ByteArray) : Prop := lessL a.data.toList b.data.toList = true
theorem bl_append : ∀ (a b x y : List UInt8), a.length = b.length → Op.bytesLess a b = true → Op.bytesLess (a ++ x) (b ++ y) = true
  | [], [], _, _, _, h => by simp [Op.bytesLess] at h
  | [], _ :: _, _, _, hl, _ => by simp at hl
  | _ :: _, [], _, _, hl, _ => by simp at hl
  | a :: al, b :: bs, x, y, hl, h => by
    simp only [Op.bytesLess, Bool.or_eq_true, decide_eq_true_eq, Bool.and_eq_true, beq_iff_eq] at h
    simp only [List.cons_append, Op.bytesLess, Bool.or_eq_true, decide_eq_true_eq, Bool.and_eq_true, beq_iff_eq]
    rcases h with h | ⟨e, h⟩
    · exact .inl h
    · exact .inr ⟨e, bl_append al bs x y (by simpa using hl) h⟩
theorem bl_same : ∀ (a : List UInt8) (c c' : UInt8), c < c' → Op.bytesLess (a ++ [c]) (a ++ [c']) = true
  | [], c, c', h => by simp [Op.bytesLess, h]
  | x :: a, c, c', h => by
    simp only [List.cons_append, Op.bytesLess, Bool.or_eq_true, decide_eq_true_eq, Bool.and_eq_true, beq_iff_eq]
    exact .inr ⟨trivial, bl_same a c c' h⟩
theorem letW_list (k : Nat) : (letW (k : Int)).data.toList = [UInt8.ofNat (48 + k)] := by
  have e : (48 + (k : Int)).toNat = 48 + k := by omega
  simp [letW, e]
theorem append_list (a b : ByteArray) : (a ++ b).data.toList = a.data.toList ++ b.data.toList := by simp
theorem longer_asc {D : Nat} (hD : D ≤ 3) (w : ByteArray) : (longer D w).Pairwise lessW := by
  unfold longer
  rw [List.pairwise_map]
  refine List.Pairwise.imp_of_mem ?_ List.pairwise_lt_range
  intro i j hi hj hij
  have hi' := List.mem_range.1 hi
  have hj' := List.mem_range.1 hj
  unfold lessW lessL
  rw [append_list, append_list, letW_list, letW_list]
  rw [if_pos (by simp)]
  refine bl_same _ _ _ ?_
  rw [UInt8.lt_iff_toNat_lt]
  simp only [UInt8.toNat_ofNat']
  omega
theorem nextL_asc {D n : Nat} (hD : D ≤ 3) : ∀ ws : List ByteArray, (∀ s ∈ ws, s.size = n) → ws.Pairwise lessW → (nextL D ws).Pairwise lessW
  | [], _, _ => by simp [nextL]
  | w :: ws, hs, h => by
    rw [List.pairwise_cons] at h
    have ih := nextL_asc hD ws (fun s m => hs s (by simp [m])) h.2
    unfold nextL at ih ⊢
    rw [List.flatMap_cons, List.pairwise_append]
    refine ⟨longer_asc hD w, ih, fun a ha b hb => ?_⟩
    obtain ⟨u, hu, hb'⟩ := List.mem_flatMap.1 hb
    unfold longer at ha hb'
    obtain ⟨i, _, rfl⟩ := List.mem_map.1 ha
    obtain ⟨j, _, rfl⟩ := List.mem_map.1 hb'
    have h1 := h.1 u hu
    have e1 := hs w (by simp)
    have e2 := hs u (by simp [hu])
    have el : w.data.toList.length = u.data.toList.length := by
      have a1 := list_size w
      have a2 := list_size u
      omega
    unfold lessW lessL at h1 ⊢
    rw [if_pos el] at h1
    rw [append_list, append_list, letW_list, letW_list, if_pos (by simp [el])]
    exact bl_append _ _ _ _ el h1
theorem wordsL_asc {D : Nat} (hD : D ≤ 3) : ∀ n, (wordsL D n).Pairwise lessW
  | 0 => by simp [wordsL]
  | n + 1 => nextL_asc hD _ (wordsL_size D n) (wordsL_asc hD n)
theorem allW_asc {D : Nat} (hD : D ≤ 3) : ∀ n, (allW D n).Pairwise lessW
  | 0 => by simp [allW, wordsL]
  | n + 1 => by
    unfold allW
    rw [List.pairwise_append]
    refine ⟨allW_asc hD n, wordsL_asc hD (n + 1), fun a ha b hb => ?_⟩
    have h1 := allW_size D n a ha
    have h2 := wordsL_size D (n + 1) b hb
    have a1 := list_size a
    have a2 := list_size b
    unfold lessW lessL
    rw [if_neg (by omega)]
    simp only [decide_eq_true_eq]
    omega
/-- a word of D letters stands in the list of all words -/
theorem wordsL_all {D : Nat} (hD : D ≤ 3) : ∀ (n : Nat) (s : ByteArray), s.size = n → wordB (D : Int) s.data.toList = true → s ∈ wordsL D n
  | 0, s, h, _ => by
    have e : s = ByteArray.empty := by
      apply data_eq
      have a1 := list_size s
      exact List.eq_nil_of_length_eq_zero (by omega)
    simp [wordsL, e]
  | n + 1, s, h, hw => by
    have a1 := list_size s
    obtain ⟨l, c, hl⟩ : ∃ l c, s.data.toList = l ++ [c] := by
      refine ⟨s.data.toList.dropLast, s.data.toList.getLast (by intro e; rw [e] at a1; simp at a1; omega), ?_⟩
      rw [List.dropLast_concat_getLast]
    rw [hl, wordB_snoc, Bool.and_eq_true] at hw
    have hll : l.length = n := by rw [hl] at a1; simp at a1; omega
    have hc := hw.2
    simp only [letB, decide_eq_true_eq] at hc
    have hu := wordsL_all hD n ⟨l.toArray⟩ (by simpa [ByteArray.size] using hll) (by simpa using hw.1)
    have e : s = (⟨l.toArray⟩ : ByteArray) ++ letW (((c.toNat - 48 : Nat)) : Int) := by
      apply data_eq
      rw [hl, append_list, letW_list]
      have hc2 : 48 + (c.toNat - 48) = c.toNat := by omega
      rw [hc2]
      simp
    unfold wordsL nextL
    refine List.mem_flatMap.2 ⟨_, hu, ?_⟩
    unfold longer
    refine List.mem_map.2 ⟨c.toNat - 48, List.mem_range.2 (by omega), e.symm⟩
theorem allW_all {D : Nat} (hD : D ≤ 3) : ∀ (n : Nat) (s : ByteArray), s.size ≤ n → wordB (D : Int) s.data.toList = true → s ∈ allW D n
  | 0, s, h, hw => wordsL_all hD 0 s (by omega) hw
  | n + 1, s, h, hw => by
    unfold allW
    rw [List.mem_append]
    by_cases e : s.size = n + 1
    · exact .inr (wordsL_all hD (n + 1) s e hw)
    · exact .inl (allW_all hD n s (by omega) hw)

theorem termsOf_iff {f : ByteArray → Option (Int × Int)} {ws : List ByteArray} {t : Tm} : t ∈ termsOf f ws ↔ t.s ∈ ws ∧ f t.s = some (t.n, t.d) := by
  unfold termsOf
  rw [List.mem_filterMap]
  constructor
  · rintro ⟨s, hs, h⟩
    obtain ⟨p, hp, rfl⟩ := Option.map_eq_some_iff.1 h
    exact ⟨hs, hp⟩
  · rintro ⟨h1, h2⟩
    exact ⟨t.s, h1, by rw [h2]; rfl⟩
theorem termsOf_asc (f : ByteArray → Option (Int × Int)) : ∀ {ws : List ByteArray}, ws.Pairwise lessW → (termsOf f ws).Pairwise (fun a b => lessT a b = true)
  | [], _ => by simp [termsOf]
  | w :: ws, h => by
    rw [List.pairwise_cons] at h
    have ih := termsOf_asc f h.2
    have e : termsOf f (w :: ws) = (match (f w) with | none => termsOf f ws | some p => ⟨w, p.1, p.2⟩ :: termsOf f ws) := by
      unfold termsOf
      cases hf : f w <;> simp [hf]
    rw [e]
    cases f w with
    | none => exact ih
    | some p =>
      simp only [List.pairwise_cons]
      exact ⟨fun t ht => h.1 _ (termsOf_iff.1 ht).1, ih⟩
/-- the terms of all words by a function are any ascending list that has just these -/
theorem termsOf_eq {f : ByteArray → Option (Int × Int)} {D n : Nat} (hD : D ≤ 3) {ts : List Tm} (ha : ts.Pairwise (fun a b => lessT a b = true)) (h : ∀ t, t ∈ ts ↔ t.s ∈ allW D n ∧ f t.s = some (t.n, t.d)) : termsOf f (allW D n) = ts :=
  asc_ext _ _ (termsOf_asc f (allW_asc hD n)) ha (fun t => termsOf_iff.trans (h t).symm)

theorem bl_total : ∀ a b : List UInt8, a.length = b.length → a ≠ b → Op.bytesLess a b = false → Op.bytesLess b a = true
  | [], [], _, h, _ => absurd rfl h
  | [], _ :: _, h, _, _ => by simp at h
  | _ :: _, [], h, _, _ => by simp at h
  | x :: a, y :: b, hl, hne, h => by
    simp only [Op.bytesLess, Bool.or_eq_false_iff, decide_eq_false_iff_not, Bool.and_eq_false_iff, beq_eq_false_iff_ne] at h
    simp only [Op.bytesLess, Bool.or_eq_true, decide_eq_true_eq, Bool.and_eq_true, beq_iff_eq]
    by_cases e : x = y
    · subst e
      refine .inr ⟨rfl, bl_total a b (by simpa using hl) (fun e => hne (by rw [e])) ?_⟩
      rcases h.2 with h2 | h2
      · exact absurd rfl h2
      · exact h2
    · refine .inl ?_
      rcases Nat.lt_or_ge y.toNat x.toNat with h1 | h1
      · exact UInt8.lt_iff_toNat_lt.2 h1
      · exact absurd (UInt8.lt_iff_toNat_lt.2 (by have : x.toNat ≠ y.toNat := fun e2 => e (UInt8.toNat_inj.1 e2); omega)) h.1
theorem lessL_total {a b : List UInt8} (hne : a ≠ b) (h : lessL a b = false) : lessL b a = true := by
  unfold lessL at *
  by_cases e : a.length = b.length
  · rw [if_pos e] at h
    rw [if_pos e.symm]
    exact bl_total a b e hne h
  · rw [if_neg e] at h
    rw [if_neg (fun e2 => e e2.symm)]
    simp only [decide_eq_false_iff_not] at h
    simp only [decide_eq_true_eq]
    omega
theorem lessT_total {t u : Tm} (hne : t.s ≠ u.s) (h : lessT t u = false) : lessT u t = true :=
  lessL_total (fun e => hne (data_eq e)) h
/-- a term of a new word is put at its place -/
theorem putL_new (u : Tm) (hu : u.n ≠ 0) : ∀ l : List Tm, l.Pairwise (fun a b => lessT a b = true) → (∀ t ∈ l, t.s ≠ u.s) → ∃ rs, putL l u = some rs ∧ rs.Pairwise (fun a b => lessT a b = true) ∧ (∀ t, t ∈ rs ↔ t ∈ l ∨ t = u) ∧ rs.length = l.length + 1
  | [], _, _ => ⟨[u], by simp [putL, putHere, conT, hu], by simp, by simp, rfl⟩
  | t :: r, ha, h => by
    have ha' := List.pairwise_cons.1 ha
    have hne := h t (by simp)
    cases hl : lessT t u with
    | true =>
      obtain ⟨rs, h1, h2, h3, h4⟩ := putL_new u hu r ha'.2 (fun t' ht => h t' (by simp [ht]))
      refine ⟨t :: rs, by simp [putL, hl, h1], List.pairwise_cons.2 ⟨fun t' ht => ?_, h2⟩, fun t' => ?_, by simp [h4]⟩
      · rcases (h3 t').1 ht with h5 | rfl
        · exact ha'.1 t' h5
        · exact hl
      · rw [List.mem_cons, List.mem_cons, h3 t']
        exact or_assoc.symm
    | false =>
      have hut := lessT_total hne hl
      refine ⟨u :: t :: r, by simp [putL, hl, putHere, hne, conT, hu], List.pairwise_cons.2 ⟨fun t' ht => ?_, ha⟩, fun t' => ?_, by simp⟩
      · rcases List.mem_cons.1 ht with rfl | ht
        · exact hut
        · exact lessT_trans hut (ha'.1 t' ht)
      · rw [List.mem_cons, or_comm]

/-- a term turned round, with a sign if it is asked -/
def turnT (sg : Bool) (t : Tm) : Tm := ⟨revW t.s, if sg && t.s.size % 2 == 1 then -t.n else t.n, t.d⟩
theorem revW_inj {a b : ByteArray} (h : revW a = revW b) : a = b := by
  apply data_eq
  have e : (revW a).data.toList = (revW b).data.toList := by rw [h]
  simpa [revW] using e
theorem revW_size (a : ByteArray) : (revW a).size = a.size := by
  have h1 := list_size (revW a)
  have h2 := list_size a
  have h3 : (revW a).data.toList.length = a.data.toList.length := by simp only [revW, List.length_reverse]
  omega
theorem turn_nz {sg : Bool} {t : Tm} (h : t.n ≠ 0) : (turnT sg t).n ≠ 0 := by
  unfold turnT
  simp only
  split <;> omega
/-- what the loop has put after some rounds -/
def turnAll (sg : Bool) : List Tm → List Tm
  | [] => []
  | t :: r => (putL (turnAll sg r) (turnT sg t)).getD []
theorem turnAll_all {sg : Bool} : ∀ l : List Tm, l.Pairwise (fun a b => a.s ≠ b.s) → (∀ t ∈ l, t.n ≠ 0) → (turnAll sg l).Pairwise (fun a b => lessT a b = true) ∧ (∀ t, t ∈ turnAll sg l ↔ ∃ u ∈ l, t = turnT sg u) ∧ (turnAll sg l).length = l.length
  | [], _, _ => by simp [turnAll]
  | t :: r, hd, hn => by
    have hd' := List.pairwise_cons.1 hd
    obtain ⟨i1, i2, i3⟩ := turnAll_all r hd'.2 (fun t ht => hn t (by simp [ht]))
    obtain ⟨rs, h1, h2, h3, h4⟩ := putL_new (turnT sg t) (turn_nz (hn t (by simp))) _ i1 (fun t' ht => by
      obtain ⟨u, hu, rfl⟩ := (i2 t').1 ht
      exact fun e => hd'.1 u hu (revW_inj e).symm)
    have e : turnAll sg (t :: r) = rs := by unfold turnAll; rw [h1]; rfl
    rw [e]
    refine ⟨h2, fun t' => ?_, by rw [h4, i3]; rfl⟩
    rw [h3 t', i2 t']
    simp only [List.mem_cons, exists_eq_or_imp]
    exact or_comm
end Go.Proofs.Ytolbgdgoambliaa

namespace Go.Proofs.Ytolbgdgoambliaa
open Go.RowKit

abbrev VF := ByteArray → Option (Int × Int)
/-- a sum with a product: both have to fit -/
def apS (a b n d p q : Int) : Option (Int × Int) :=
  if fOk (n * p) (d * q) = true then
    (if fOk (a * fD (n * p) (d * q) + fN (n * p) (d * q) * b) (b * fD (n * p) (d * q)) = true then
      some (fN (a * fD (n * p) (d * q) + fN (n * p) (d * q) * b) (b * fD (n * p) (d * q)), fD (a * fD (n * p) (d * q) + fN (n * p) (d * q) * b) (b * fD (n * p) (d * q)))
    else none)
  else none
section
variable {a b n d p q x y : Int}
theorem apS_bad1 (h : fOk (n * p) (d * q) = false) : apS a b n d p q = none := by
  unfold apS; rw [h]; rfl
theorem apS_bad2 (h : fOk (n * p) (d * q) = true) (hx : fN (n * p) (d * q) = x) (hy : fD (n * p) (d * q) = y) (h2 : fOk (a * y + x * b) (b * y) = false) : apS a b n d p q = none := by
  unfold apS; rw [h, hx, hy, h2]; rfl
theorem apS_good (h : fOk (n * p) (d * q) = true) (hx : fN (n * p) (d * q) = x) (hy : fD (n * p) (d * q) = y) (h2 : fOk (a * y + x * b) (b * y) = true) : apS a b n d p q = some (fN (a * y + x * b) (b * y), fD (a * y + x * b) (b * y)) := by
  unfold apS; rw [h, hx, hy, h2]; rfl
theorem apS_isF {r : Int × Int} (h : apS a b n d p q = some r) : isF r.1 r.2 = true := by
  unfold apS at h
  split at h
  · split at h
    · rename_i h1 h2
      injection h with h
      rw [← h]
      exact fOk_isFp h2
    · cases h
  · cases h
/-- a fraction in lowest terms comes to itself -/
theorem isF_self (h : isF x y = true) : fOk x y = true ∧ fN x y = x ∧ fD x y = y := by
  have h1 := isF_out h
  have h2 := low_unique (n := x) (d := y) (an := x) (ad := y) h1.2.2.2.2 h1.1 (by omega) rfl
  have h3 : fOk x y = true := by
    rw [fOk_of (by omega)]
    unfold lowOk
    rw [h2.1, h2.2]
    exact h
  have h4 := low_yes h3
  exact ⟨h3, h4.1.trans h2.1, h4.2.1.trans h2.2⟩
end

/-- one cut's share of a product -/
def cutStep (f g : VF) (s : ByteArray) (k : Nat) (acc : Int × Int) : Option (Int × Int) :=
  match f (s.extract 0 k) with
  | none => some acc
  | some x => match g (s.extract k s.size) with
    | none => some acc
    | some y => apS acc.1 acc.2 x.1 x.2 y.1 y.2
def cutsUp (f g : VF) (s : ByteArray) : Nat → Option (Int × Int)
  | 0 => some (0, 1)
  | k + 1 => (cutsUp f g s k).bind (cutStep f g s k)
theorem cutsUp_dead {f g : VF} {s : ByteArray} {k : Nat} (h : cutsUp f g s k = none) : ∀ {m : Nat}, k ≤ m → cutsUp f g s m = none
  | 0, hm => by obtain rfl : k = 0 := by omega
                exact h
  | m + 1, hm => by
    by_cases e : k = m + 1
    · subst e; exact h
    · rw [cutsUp, cutsUp_dead h (show k ≤ m by omega)]; rfl
theorem cutsUp_next {f g : VF} {s : ByteArray} {k : Nat} {acc : Int × Int} (h : cutsUp f g s k = some acc) : cutsUp f g s (k + 1) = cutStep f g s k acc := by
  rw [cutsUp, h]; rfl
theorem cutStep_1 {f g : VF} {s : ByteArray} {k : Nat} {acc : Int × Int} (h : f (s.extract 0 k) = none) : cutStep f g s k acc = some acc := by
  unfold cutStep; rw [h]
theorem cutStep_2 {f g : VF} {s : ByteArray} {k : Nat} {acc : Int × Int} (h : g (s.extract k s.size) = none) : cutStep f g s k acc = some acc := by
  unfold cutStep; rw [h]
  cases f (s.extract 0 k) <;> rfl
theorem cutStep_3 {f g : VF} {s : ByteArray} {k : Nat} {acc x y : Int × Int} (h : f (s.extract 0 k) = some x) (h2 : g (s.extract k s.size) = some y) : cutStep f g s k acc = apS acc.1 acc.2 x.1 x.2 y.1 y.2 := by
  unfold cutStep; rw [h, h2]
theorem cutStep_isF {f g : VF} {s : ByteArray} {k : Nat} {acc r : Int × Int} (ha : isF acc.1 acc.2 = true) (h : cutStep f g s k acc = some r) : isF r.1 r.2 = true := by
  unfold cutStep at h
  split at h
  · injection h with h; rw [← h]; exact ha
  · split at h
    · injection h with h; rw [← h]; exact ha
    · exact apS_isF h
theorem isF_01 : isF 0 1 = true := by decide
theorem cutsUp_isF {f g : VF} {s : ByteArray} : ∀ {k : Nat} {r : Int × Int}, cutsUp f g s k = some r → isF r.1 r.2 = true
  | 0, r, h => by rw [cutsUp] at h; injection h with h; rw [← h]; exact isF_01
  | k + 1, r, h => by
    rw [cutsUp] at h
    obtain ⟨acc, h1, h2⟩ := Option.bind_eq_some_iff.1 h
    exact cutStep_isF (cutsUp_isF h1) h2
def prodAt (f g : VF) (s : ByteArray) : Option (Int × Int) := cutsUp f g s (s.size + 1)
/-- no value where it is 0 -/
def nzF (p : Int × Int) : Option (Int × Int) := if p.1 = 0 then none else some p
theorem nzF_0 {p : Int × Int} (h : p.1 = 0) : nzF p = none := if_pos h
theorem nzF_1 {p : Int × Int} (h : p.1 ≠ 0) : nzF p = some p := if_neg h
def prodF (f g : VF) : VF := fun s => (prodAt f g s).bind nzF
def prodOk (f g : VF) (ws : List ByteArray) : Bool := ws.all fun s => (prodAt f g s).isSome
def inL (s : ByteArray) (ws : List ByteArray) : Bool := ws.any fun t => decide (t = s)
theorem inL_iff {s : ByteArray} {ws : List ByteArray} : inL s ws = true ↔ s ∈ ws := by
  unfold inL
  rw [List.any_eq_true]
  constructor
  · rintro ⟨t, h1, h2⟩
    rw [← of_decide_eq_true h2]
    exact h1
  · exact fun h => ⟨s, h, decide_eq_true rfl⟩
/-- a function on a list of words alone -/
def onL (ws : List ByteArray) (h : VF) : VF := fun s => if inL s ws = true then h s else none
/-- the product of two series' values, if all that it is made of fits -/
def prodV (f g : VF) (ws : List ByteArray) : Option VF := if prodOk f g ws = true then some (onL ws (prodF f g)) else none
theorem onL_nil (h : VF) : onL [] h = fun _ => none := by
  funext s; rfl
theorem onL_snoc {ws : List ByteArray} {k : Nat} (hk : k < ws.length) (h : VF) : onL (ws.take (k + 1)) h = setF (onL (ws.take k) h) ws[k] (h ws[k]) := by
  funext s
  unfold onL setF inL
  rw [List.take_succ_eq_append_getElem hk, List.any_append]
  by_cases e : s = ws[k]
  · subst e; simp
  · have e2 : decide (ws[k] = s) = false := decide_eq_false (fun h => e h.symm)
    rw [if_neg e]
    simp only [List.any_cons, List.any_nil, e2, Bool.or_false]
theorem prodOk_snoc {f g : VF} {ws : List ByteArray} {k : Nat} (hk : k < ws.length) : prodOk f g (ws.take (k + 1)) = (prodOk f g (ws.take k) && (prodAt f g ws[k]).isSome) := by
  unfold prodOk
  rw [List.take_succ_eq_append_getElem hk, List.all_append]
  simp
theorem prodOk_no {f g : VF} {ws : List ByteArray} {s : ByteArray} (hs : s ∈ ws) (h : prodAt f g s = none) : prodOk f g ws = false := by
  unfold prodOk
  rw [List.all_eq_false]
  exact ⟨s, hs, by rw [h]; simp⟩
theorem prodOk_append {f g : VF} {ws vs : List ByteArray} : prodOk f g (ws ++ vs) = (prodOk f g ws && prodOk f g vs) := by
  unfold prodOk; rw [List.all_append]
theorem prodV_none {f g : VF} {ws : List ByteArray} (h : prodOk f g ws = false) : prodV f g ws = none := by unfold prodV; rw [h]; rfl
theorem prodV_some {f g : VF} {ws : List ByteArray} (h : prodOk f g ws = true) : prodV f g ws = some (onL ws (prodF f g)) := if_pos h
theorem prodF_some {f g : VF} {s : ByteArray} {p : Int × Int} (h : prodAt f g s = some p) : prodF f g s = nzF p := by unfold prodF; rw [h]; rfl

/-- the values are fractions other than 0, at words of the list -/
def GoodV (ws : List ByteArray) (f : VF) : Prop := ∀ s p, f s = some p → s ∈ ws ∧ isF p.1 p.2 = true ∧ p.1 ≠ 0
theorem GoodV.none (ws : List ByteArray) : GoodV ws (fun _ => none) := fun s p h => by cases h
theorem GoodV.set_ {ws : List ByteArray} {f : VF} (h : GoodV ws f) {s : ByteArray} (hs : s ∈ ws) {p : Int × Int} (hp : isF p.1 p.2 = true) : GoodV ws (setF f s (nzF p)) := fun t q he => by
  unfold setF at he
  split at he
  · rename_i e
    subst e
    unfold nzF at he
    split at he
    · cases he
    · rename_i hz
      injection he with he
      subst he
      exact ⟨hs, hp, hz⟩
  · exact h t q he
theorem GoodV.prod {f g : VF} {ws : List ByteArray} : GoodV ws (onL ws (prodF f g)) := fun s p h => by
  unfold onL at h
  split at h
  · rename_i hs
    unfold prodF at h
    obtain ⟨r, h1, h2⟩ := Option.bind_eq_some_iff.1 h
    unfold nzF at h2
    split at h2
    · cases h2
    · rename_i hz
      injection h2 with h2
      subst h2
      exact ⟨inL_iff.1 hs, cutsUp_isF h1, hz⟩
  · cases h
theorem GoodV.prodV {f g h : VF} {ws : List ByteArray} (e : prodV f g ws = some h) : GoodV ws h := by
  unfold Go.Proofs.Ytolbgdgoambliaa.prodV at e
  split at e
  · injection e with e
    rw [← e]
    exact GoodV.prod
  · cases e

/-- the value at a word, 0 where there is none -/
def valF (f : VF) (s : ByteArray) : Int × Int := (f s).getD (0, 1)
theorem valF_none {f : VF} {s : ByteArray} (h : f s = none) : valF f s = (0, 1) := by unfold valF; rw [h]; rfl
theorem valF_some {f : VF} {s : ByteArray} {p : Int × Int} (h : f s = some p) : valF f s = p := by unfold valF; rw [h]; rfl
theorem valF_isF {ws : List ByteArray} {f : VF} (h : GoodV ws f) (s : ByteArray) : isF (valF f s).1 (valF f s).2 = true := by
  cases e : f s with
  | none => rw [valF_none e]; exact isF_01
  | some p => rw [valF_some e]; exact (h s p e).2.1
theorem valF_zero {ws : List ByteArray} {f : VF} (h : GoodV ws f) (s : ByteArray) (hz : (valF f s).1 = 0) : f s = none := by
  cases e : f s with
  | none => rfl
  | some p => rw [valF_some e] at hz; exact absurd hz (h s p e).2.2
theorem valF_nz {f : VF} {s : ByteArray} (hz : (valF f s).1 ≠ 0) : f s = some (valF f s) := by
  cases e : f s with
  | none => rw [valF_none e] at hz; exact absurd rfl hz
  | some p => rw [valF_some e]
theorem valL_termsOf {ws : List ByteArray} (hw : ws.Pairwise lessW) {f : VF} (hg : GoodV ws f) (s : ByteArray) : valL s.data.toList (termsOf f ws) = valF f s := by
  cases e : f s with
  | none =>
    rw [valF_none e]
    refine valL_none _ fun j hj he => ?_
    have h1 := (termsOf_iff.1 (List.getElem_mem hj)).2
    rw [data_eq he, e] at h1
    cases h1
  | some p =>
    rw [valF_some e]
    have hm : (⟨s, p.1, p.2⟩ : Tm) ∈ termsOf f ws := termsOf_iff.2 ⟨(hg s p e).1, e⟩
    obtain ⟨i, hi, ht⟩ := List.getElem_of_mem hm
    have ha := List.pairwise_iff_getElem.1 (termsOf_asc f hw)
    have := valL_at (w0 := s.data.toList) (termsOf f ws) i hi (fun j hj hji he => by
      have h2 := ha j i hj hi hji
      rw [ht] at h2
      have h3 : ((termsOf f ws)[j]).s = s := data_eq he
      unfold lessT at h2
      rw [h3, lessL_irrefl] at h2
      cases h2) (by rw [ht])
    rw [this, ht]
theorem termsOf_isF {ws : List ByteArray} {f : VF} (hg : GoodV ws f) : ∀ t ∈ termsOf f ws, isF t.n t.d = true ∧ t.n ≠ 0 := fun _ ht => (hg _ _ (termsOf_iff.1 ht).2).2
theorem termsOf_app (f : VF) (us vs : List ByteArray) : termsOf f (us ++ vs) = termsOf f us ++ termsOf f vs := by
  unfold termsOf; rw [List.filterMap_append]
theorem termsOf_onL (f : VF) (ws : List ByteArray) : ∀ us : List ByteArray, (∀ s ∈ us, s ∈ ws) → termsOf (onL ws f) us = termsOf f us
  | [], _ => rfl
  | s :: us, h => by
    have ih := termsOf_onL f ws us (fun t ht => h t (by simp [ht]))
    have e : onL ws f s = f s := by unfold onL; rw [if_pos (inL_iff.2 (h s (by simp)))]
    unfold termsOf at ih ⊢
    rw [List.filterMap_cons, List.filterMap_cons, ih, e]
theorem termsOf_cons' (f : VF) (s : ByteArray) (ws : List ByteArray) : termsOf f (s :: ws) = (match f s with | none => termsOf f ws | some p => ⟨s, p.1, p.2⟩ :: termsOf f ws) := by
  unfold termsOf
  cases h : f s <;> simp [h]
theorem word_in {D : Nat} : ∀ {j N : Nat} {s : ByteArray}, j ≤ N → s ∈ wordsL D j → s ∈ allW D N
  | j, 0, s, hj, h => by
    obtain rfl : j = 0 := by omega
    exact h
  | j, N + 1, s, hj, h => by
    rw [allW, List.mem_append]
    by_cases e : j = N + 1
    · subst e; exact .inr h
    · exact .inl (word_in (by omega) h)
/-- the values of a series' terms -/
theorem good_valV {D N : Nat} {ts : List Tm} (h : serB D N ts = true) : GoodV (allW D N) (valV ts ts.length) ∧ termsOf (valV ts ts.length) (allW D N) = ts := by
  have hsh : shapeB (D : Int) (N : Int) = true := by unfold serB at h; rw [Bool.and_eq_true] at h; exact h.1
  have hD := shape_out hsh
  have hn := List.pairwise_iff_getElem.1 (asc_pairwise (asc_of_ser h))
  have hne : ts.Pairwise (fun a b => a.s ≠ b.s) := List.pairwise_iff_getElem.2 fun i j hi hj hij e => by
    have := hn i j hi hj hij
    unfold lessT at this
    rw [e, lessL_irrefl] at this
    cases this
  have hin : ∀ t ∈ ts, t.s ∈ allW D N ∧ isF t.n t.d = true ∧ t.n ≠ 0 := fun t ht => by
    have h1 := ser_term h t ht
    simp only [termB, Bool.and_eq_true, Bool.not_eq_true', beq_eq_false_iff_ne, decide_eq_true_eq] at h1
    exact ⟨allW_all (by omega) N _ (by omega) h1.1.2, h1.2.1, h1.2.2⟩
  have hall : ∀ s p, valV ts ts.length s = some p → ∃ t ∈ ts, t.s = s ∧ p = (t.n, t.d) := fun s p e => by
    by_cases hx : ∃ i, ∃ (hi : i < ts.length), (ts[i]).s = s
    · obtain ⟨i, hi, rfl⟩ := hx
      rw [valV_at hne hi _ hi] at e
      injection e with e
      exact ⟨ts[i], List.getElem_mem hi, rfl, e.symm⟩
    · rw [valV_none _ (fun i hi _ e => hx ⟨i, hi, e⟩)] at e
      cases e
  refine ⟨fun s p e => ?_, termsOf_eq (by omega) (asc_pairwise (asc_of_ser h)) fun t => ?_⟩
  · obtain ⟨t, ht, rfl, rfl⟩ := hall s p e
    exact hin t ht
  · constructor
    · intro ht
      obtain ⟨i, hi, rfl⟩ := List.getElem_of_mem ht
      exact ⟨(hin _ ht).1, valV_at hne hi _ hi⟩
    · rintro ⟨_, e⟩
      obtain ⟨u, hu, h1, h2⟩ := hall _ _ e
      obtain ⟨s, n, d⟩ := t
      obtain ⟨s', n', d'⟩ := u
      simp only [Prod.mk.injEq] at h1 h2
      rw [h1, ← h2.1, ← h2.2] at hu
      exact hu
end Go.Proofs.Ytolbgdgoambliaa
