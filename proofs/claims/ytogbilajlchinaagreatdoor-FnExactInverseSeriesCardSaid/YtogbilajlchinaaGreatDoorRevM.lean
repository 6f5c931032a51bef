/-
  The model's way to turn a word round: the letters from the last to the first.
  Plain mathematics of the reversal: putting terms of new words one by one keeps an ascending list, whose members are told.
-/
import Derived.Test.YtogbilajlchinaaGreatDoorStrA
import Derived.Test.YtogbilajlchinaaGreatDoorSpace
import Derived.Test.YtogbilajlchinaaGreatDoorSum
import Derived.Maps.AppendAt
namespace Go.Proofs.YtogbilajlchinaaGreatDoor
open Go.RowKit

theorem info_u8 : (Tryz.prog.info? 5).map (fun i => (i.zero, i.size, i.bytes)) = some (some (.int .u8 0), 1, 1) := by kernel_rfl
def cellsB (l : List UInt8) : List Value := l.map fun b => .int .u8 (b.toNat : Int)
/-- a value owns a row of bytes -/
def OwnB (w : World) (base : Nat) (v : Value) (l : List UInt8) : Prop := w.ownsRow base 5 1 v l.length (cellsB l)
theorem OwnB.form {w : World} {base : Nat} {v : Value} {l : List UInt8} (h : OwnB w base v l) : ∃ a c, v = .slice a l.length c := by
  rcases h.2 with ⟨rfl, h0⟩ | ⟨g, cap, cur, rfl, hbg, hg, hnc, hcm, hcs, htake⟩
  · exact ⟨none, 0, by rw [h0]⟩
  · exact ⟨_, _, rfl⟩
theorem OwnB.lt {w : World} {base : Nat} {v : Value} {l : List UInt8} (h : OwnB w base v l) : ∀ g, v.ownBlock = some g → base ≤ g ∧ g < w.heap.size := by
  intro g hg
  rcases h.2 with ⟨rfl, _⟩ | ⟨g', cap, cur, rfl, hbg, hh, hnc, hcm, hcs, htake⟩
  · cases hg
  · have e : g' = g := by simpa [Value.ownBlock] using hg
    subst e
    refine ⟨hbg, ?_⟩
    rcases Nat.lt_or_ge g' w.heap.size with hlt | hge
    · exact hlt
    · rw [Array.getElem?_eq_none hge] at hh; cases hh
theorem OwnB.empty {w : World} {base g : Nat} (h : w.heap[g]? = some (.cells #[] 5 (0, 0))) (hb : base ≤ g) : OwnB w base (.slice (some ⟨g, 0, none⟩) 0 0) [] :=
  ⟨rfl, .inr ⟨g, 0, #[], rfl, hb, h, Nat.le_refl _, Nat.zero_le _, rfl, rfl⟩⟩
/-- the bytes of such a row, as a text -/
theorem conv_own {w : World} {base : Nat} {v : Value} {l : List UInt8} (h : OwnB w base v l) : (convert 139 9 v).run Tryz.prog w = .ok (.string ⟨l.toArray⟩) w := by
  rcases h.2 with ⟨rfl, h0⟩ | ⟨g, cap, cur, rfl, hbg, hg, hnc, hcm, hcs, htake⟩
  · have e : l = [] := List.eq_nil_of_length_eq_zero h0
    subst e
    rw [run_convert_bytes_nil (P := Tryz.prog) w 139 5 Tryz.underlying139 Tryz.underlying5 0 0 9 Tryz.underlying9]
    rfl
  · have hx := run_convert_bytes_arg (P := Tryz.prog) w 139 5 Tryz.underlying139 Tryz.underlying5 g 0 l.length cap (l.map fun b => (b.toNat : Int)) (by simp) (fun i hi => by
      rw [Nat.zero_add, cell_of_row w g i cur _ _ hg]
      have e : (cur.toList.take (l.length * 1))[i]? = (cellsB l)[i]? := by rw [htake]
      rw [List.getElem?_take_of_lt (by omega), Array.getElem?_toList] at e
      rw [e]
      simp [cellsB, List.getD, List.getElem?_eq_getElem hi]) 9 Tryz.underlying9
    rw [hx]
    have e2 : (l.map fun b => (b.toNat : Int)).map (fun n => UInt8.ofNat n.toNat) = l := by
      rw [List.map_map]
      conv => rhs; rw [← List.map_id l]
      exact List.map_congr_left fun b _ => by simp
    simp only [strOfNums, e2]

/-- a word turned round -/
def revW (s : ByteArray) : ByteArray := ⟨s.data.toList.reverse.toArray⟩
theorem rev_step {s : ByteArray} {j : Nat} (h : j < s.size) : (s.data.toList.drop j).reverse = (s.data.toList.drop (j + 1)).reverse ++ [s[j]] := by
  rw [List.drop_eq_getElem_cons (by simpa using h), List.reverse_cons]
  rfl

end Go.Proofs.YtogbilajlchinaaGreatDoor

namespace Go.Proofs.YtogbilajlchinaaGreatDoor
open Go.RowKit

/-- two ascending lists with the same members are one -/
theorem asc_ext : ∀ xs ys : List Tm, xs.Pairwise (fun a b => lessT a b = true) → ys.Pairwise (fun a b => lessT a b = true) → (∀ t, t ∈ xs ↔ t ∈ ys) → xs = ys
  | [], [], _, _, _ => rfl
  | [], y :: ys, _, _, h => by have := (h y).2 (by simp); simp at this
  | x :: xs, [], _, _, h => by have := (h x).1 (by simp); simp at this
  | x :: xs, y :: ys, h1, h2, h => by
    rw [List.pairwise_cons] at h1 h2
    have e : x = y := by
      rcases List.mem_cons.1 ((h x).1 (by simp)) with e | e
      · exact e
      · rcases List.mem_cons.1 ((h y).2 (by simp)) with e2 | e2
        · exact e2.symm
        · have h3 := lessT_trans (h2.1 x e) (h1.1 y e2)
          rw [lessT_irrefl] at h3
          cases h3
    subst e
    have ih := asc_ext xs ys h1.2 h2.2 (fun t => by
      constructor
      · intro ht
        rcases List.mem_cons.1 ((h t).1 (by simp [ht])) with e | e
        · subst e
          have := h1.1 t ht
          rw [lessT_irrefl] at this
          cases this
        · exact e
      · intro ht
        rcases List.mem_cons.1 ((h t).2 (by simp [ht])) with e | e
        · subst e
          have := h2.1 t ht
          rw [lessT_irrefl] at this
          cases this
        · exact e)
    rw [ih]

theorem list_size (s : ByteArray) : s.data.toList.length = s.size := by rw [Array.length_toList]; rfl
/-- one word is ahead of another -/
def lessW (a b : ByteArray) : Prop := lessL a.data.toList b.data.toList = true
theorem bl_append : ∀ (a b x y : List UInt8), a.length = b.length → Op.bytesLess a b = true → Op.bytesLess (a ++ x) (b ++ y) = true
  | [], [], _, _, _, h => by simp [Op.bytesLess] at h
  | [], _ :: _, _, _, hl, _ => by simp at hl
  | _ :: _, [], _, _, hl, _ => by simp at hl
  | a :: al, b :: bs, x, y, hl, h => by
    simp only [Op.bytesLess, Bool.or_eq_true, decide_eq_true_eq, Bool.and_eq_true, beq_iff_eq] at h
    simp only [List.cons_append, Op.bytesLess, Bool.or_eq_true, decide_eq_true_eq, Bool.and_eq_true, beq_iff_eq]
    rcases h with h | ⟨e, h⟩
    · exact .inl h
    · exact .inr ⟨e, bl_append al bs x y (by simpa using hl) h⟩
theorem bl_same : ∀ (a : List UInt8) (c c' : UInt8), c < c' → Op.bytesLess (a ++ [c]) (a ++ [c']) = true
  | [], c, c', h => by simp [Op.bytesLess, h]
  | x :: a, c, c', h => by
    simp only [List.cons_append, Op.bytesLess, Bool.or_eq_true, decide_eq_true_eq, Bool.and_eq_true, beq_iff_eq]
    exact .inr ⟨trivial, bl_same a c c' h⟩
theorem letW_list (k : Nat) : (letW (k : Int)).data.toList = [UInt8.ofNat (48 + k)] := by
  have e : (48 + (k : Int)).toNat = 48 + k := by omega
  simp [letW, e]
theorem append_list (a b : ByteArray) : (a ++ b).data.toList = a.data.toList ++ b.data.toList := by simp
theorem longer_asc {D : Nat} (hD : D ≤ 3) (w : ByteArray) : (longer D w).Pairwise lessW := by
  unfold longer
  rw [List.pairwise_map]
  refine List.Pairwise.imp_of_mem ?_ List.pairwise_lt_range
  intro i j hi hj hij
  have hi' := List.mem_range.1 hi
  have hj' := List.mem_range.1 hj
  unfold lessW lessL
  rw [append_list, append_list, letW_list, letW_list]
  rw [if_pos (by simp)]
  refine bl_same _ _ _ ?_
  rw [UInt8.lt_iff_toNat_lt]
  simp only [UInt8.toNat_ofNat']
  omega
theorem nextL_asc {D n : Nat} (hD : D ≤ 3) : ∀ ws : List ByteArray, (∀ s ∈ ws, s.size = n) → ws.Pairwise lessW → (nextL D ws).Pairwise lessW
  | [], _, _ => by simp [nextL]
  | w :: ws, hs, h => by
    rw [List.pairwise_cons] at h
    have ih := nextL_asc hD ws (fun s m => hs s (by simp [m])) h.2
    unfold nextL at ih ⊢
    rw [List.flatMap_cons, List.pairwise_append]
    refine ⟨longer_asc hD w, ih, fun a ha b hb => ?_⟩
    obtain ⟨u, hu, hb'⟩ := List.mem_flatMap.1 hb
    unfold longer at ha hb'
    obtain ⟨i, _, rfl⟩ := List.mem_map.1 ha
    obtain ⟨j, _, rfl⟩ := List.mem_map.1 hb'
    have h1 := h.1 u hu
    have e1 := hs w (by simp)
    have e2 := hs u (by simp [hu])
    have el : w.data.toList.length = u.data.toList.length := by
      have a1 := list_size w
      have a2 := list_size u
      omega
    unfold lessW lessL at h1 ⊢
    rw [if_pos el] at h1
    rw [append_list, append_list, letW_list, letW_list, if_pos (by simp [el])]
    exact bl_append _ _ _ _ el h1
theorem wordsL_asc {D : Nat} (hD : D ≤ 3) : ∀ n, (wordsL D n).Pairwise lessW
  | 0 => by simp [wordsL]
  | n + 1 => nextL_asc hD _ (wordsL_size D n) (wordsL_asc hD n)
theorem allW_asc {D : Nat} (hD : D ≤ 3) : ∀ n, (allW D n).Pairwise lessW
  | 0 => by simp [allW, wordsL]
  | n + 1 => by
    unfold allW
    rw [List.pairwise_append]
    refine ⟨allW_asc hD n, wordsL_asc hD (n + 1), fun a ha b hb => ?_⟩
    have h1 := allW_size D n a ha
    have h2 := wordsL_size D (n + 1) b hb
    have a1 := list_size a
    have a2 := list_size b
    unfold lessW lessL
    rw [if_neg (by omega)]
    simp only [decide_eq_true_eq]
    omega
/-- a word of D letters stands in the list of all words -/
theorem wordsL_all {D : Nat} (hD : D ≤ 3) : ∀ (n : Nat) (s : ByteArray), s.size = n → wordB (D : Int) s.data.toList = true → s ∈ wordsL D n
  | 0, s, h, _ => by
    have e : s = ByteArray.empty := by
      apply data_eq
      have a1 := list_size s
      exact List.eq_nil_of_length_eq_zero (by omega)
    simp [wordsL, e]
  | n + 1, s, h, hw => by
    have a1 := list_size s
    obtain ⟨l, c, hl⟩ : ∃ l c, s.data.toList = l ++ [c] := by
      refine ⟨s.data.toList.dropLast, s.data.toList.getLast (by intro e; rw [e] at a1; simp at a1; omega), ?_⟩
      rw [List.dropLast_concat_getLast]
    rw [hl, wordB_snoc, Bool.and_eq_true] at hw
    have hll : l.length = n := by rw [hl] at a1; simp at a1; omega
    have hc := hw.2
    simp only [letB, decide_eq_true_eq] at hc
    have hu := wordsL_all hD n ⟨l.toArray⟩ (by simpa [ByteArray.size] using hll) (by simpa using hw.1)
    have e : s = (⟨l.toArray⟩ : ByteArray) ++ letW (((c.toNat - 48 : Nat)) : Int) := by
      apply data_eq
      rw [hl, append_list, letW_list]
      have hc2 : 48 + (c.toNat - 48) = c.toNat := by omega
      rw [hc2]
      simp
    unfold wordsL nextL
    refine List.mem_flatMap.2 ⟨_, hu, ?_⟩
    unfold longer
    refine List.mem_map.2 ⟨c.toNat - 48, List.mem_range.2 (by omega), e.symm⟩
theorem allW_all {D : Nat} (hD : D ≤ 3) : ∀ (n : Nat) (s : ByteArray), s.size ≤ n → wordB (D : Int) s.data.toList = true → s ∈ allW D n
  | 0, s, h, hw => wordsL_all hD 0 s (by omega) hw
  | n + 1, s, h, hw => by
    unfold allW
    rw [List.mem_append]
    by_cases e : s.size = n + 1
    · exact .inr (wordsL_all hD (n + 1) s e hw)
    · exact .inl (allW_all hD n s (by omega) hw)

theorem termsOf_iff {f : ByteArray → Option (Int × Int)} {ws : List ByteArray} {t : Tm} : t ∈ termsOf f ws ↔ t.s ∈ ws ∧ f t.s = some (t.n, t.d) := by
  unfold termsOf
  rw [List.mem_filterMap]
  constructor
  · rintro ⟨s, hs, h⟩
    obtain ⟨p, hp, rfl⟩ := Option.map_eq_some_iff.1 h
    exact ⟨hs, hp⟩
  · rintro ⟨h1, h2⟩
    exact ⟨t.s, h1, by rw [h2]; rfl⟩
theorem termsOf_asc (f : ByteArray → Option (Int × Int)) : ∀ {ws : List ByteArray}, ws.Pairwise lessW → (termsOf f ws).Pairwise (fun a b => lessT a b = true)
  | [], _ => by simp [termsOf]
  | w :: ws, h => by
    rw [List.pairwise_cons] at h
    have ih := termsOf_asc f h.2
    have e : termsOf f (w :: ws) = (match (f w) with | none => termsOf f ws | some p => ⟨w, p.1, p.2⟩ :: termsOf f ws) := by
      unfold termsOf
      cases hf : f w <;> simp [hf]
    rw [e]
    cases f w with
    | none => exact ih
    | some p =>
      simp only [List.pairwise_cons]
      exact ⟨fun t ht => h.1 _ (termsOf_iff.1 ht).1, ih⟩
/-- the terms of all words by a function are any ascending list that has just these -/
theorem termsOf_eq {f : ByteArray → Option (Int × Int)} {D n : Nat} (hD : D ≤ 3) {ts : List Tm} (ha : ts.Pairwise (fun a b => lessT a b = true)) (h : ∀ t, t ∈ ts ↔ t.s ∈ allW D n ∧ f t.s = some (t.n, t.d)) : termsOf f (allW D n) = ts :=
  asc_ext _ _ (termsOf_asc f (allW_asc hD n)) ha (fun t => termsOf_iff.trans (h t).symm)

theorem bl_total : ∀ a b : List UInt8, a.length = b.length → a ≠ b → Op.bytesLess a b = false → Op.bytesLess b a = true
  | [], [], _, h, _ => absurd rfl h
  | [], _ :: _, h, _, _ => by simp at h
  | _ :: _, [], h, _, _ => by simp at h
  | x :: a, y :: b, hl, hne, h => by
    simp only [Op.bytesLess, Bool.or_eq_false_iff, decide_eq_false_iff_not, Bool.and_eq_false_iff, beq_eq_false_iff_ne] at h
    simp only [Op.bytesLess, Bool.or_eq_true, decide_eq_true_eq, Bool.and_eq_true, beq_iff_eq]
    by_cases e : x = y
    · subst e
      refine .inr ⟨rfl, bl_total a b (by simpa using hl) (fun e => hne (by rw [e])) ?_⟩
      rcases h.2 with h2 | h2
      · exact absurd rfl h2
      · exact h2
    · refine .inl ?_
      rcases Nat.lt_or_ge y.toNat x.toNat with h1 | h1
      · exact UInt8.lt_iff_toNat_lt.2 h1
      · exact absurd (UInt8.lt_iff_toNat_lt.2 (by have : x.toNat ≠ y.toNat := fun e2 => e (UInt8.toNat_inj.1 e2); omega)) h.1
theorem lessL_total {a b : List UInt8} (hne : a ≠ b) (h : lessL a b = false) : lessL b a = true := by
  unfold lessL at *
  by_cases e : a.length = b.length
  · rw [if_pos e] at h
    rw [if_pos e.symm]
    exact bl_total a b e hne h
  · rw [if_neg e] at h
    rw [if_neg (fun e2 => e e2.symm)]
    simp only [decide_eq_false_iff_not] at h
    simp only [decide_eq_true_eq]
    omega
theorem lessT_total {t u : Tm} (hne : t.s ≠ u.s) (h : lessT t u = false) : lessT u t = true :=
  lessL_total (fun e => hne (data_eq e)) h
/-- a term of a new word is put at its place -/
theorem putL_new (u : Tm) (hu : u.n ≠ 0) : ∀ l : List Tm, l.Pairwise (fun a b => lessT a b = true) → (∀ t ∈ l, t.s ≠ u.s) → ∃ rs, putL l u = some rs ∧ rs.Pairwise (fun a b => lessT a b = true) ∧ (∀ t, t ∈ rs ↔ t ∈ l ∨ t = u) ∧ rs.length = l.length + 1
  | [], _, _ => ⟨[u], by simp [putL, putHere, conT, hu], by simp, by simp, rfl⟩
  | t :: r, ha, h => by
    have ha' := List.pairwise_cons.1 ha
    have hne := h t (by simp)
    cases hl : lessT t u with
    | true =>
      obtain ⟨rs, h1, h2, h3, h4⟩ := putL_new u hu r ha'.2 (fun t' ht => h t' (by simp [ht]))
      refine ⟨t :: rs, by simp [putL, hl, h1], List.pairwise_cons.2 ⟨fun t' ht => ?_, h2⟩, fun t' => ?_, by simp [h4]⟩
      · rcases (h3 t').1 ht with h5 | rfl
        · exact ha'.1 t' h5
        · exact hl
      · rw [List.mem_cons, List.mem_cons, h3 t']
        exact or_assoc.symm
    | false =>
      have hut := lessT_total hne hl
      refine ⟨u :: t :: r, by simp [putL, hl, putHere, hne, conT, hu], List.pairwise_cons.2 ⟨fun t' ht => ?_, ha⟩, fun t' => ?_, by simp⟩
      · rcases List.mem_cons.1 ht with rfl | ht
        · exact hut
        · exact lessT_trans hut (ha'.1 t' ht)
      · rw [List.mem_cons, or_comm]

/-- a term turned round, with a sign if it is asked -/
def turnT (sg : Bool) (t : Tm) : Tm := ⟨revW t.s, if sg && t.s.size % 2 == 1 then -t.n else t.n, t.d⟩
theorem revW_inj {a b : ByteArray} (h : revW a = revW b) : a = b := by
  apply data_eq
  have e : (revW a).data.toList = (revW b).data.toList := by rw [h]
  simpa [revW] using e
theorem revW_size (a : ByteArray) : (revW a).size = a.size := by
  have h1 := list_size (revW a)
  have h2 := list_size a
  have h3 : (revW a).data.toList.length = a.data.toList.length := by simp only [revW, List.length_reverse]
  omega
theorem turn_nz {sg : Bool} {t : Tm} (h : t.n ≠ 0) : (turnT sg t).n ≠ 0 := by
  unfold turnT
  simp only
  split <;> omega
/-- what the loop has put after some rounds -/
def turnAll (sg : Bool) : List Tm → List Tm
  | [] => []
  | t :: r => (putL (turnAll sg r) (turnT sg t)).getD []
theorem turnAll_all {sg : Bool} : ∀ l : List Tm, l.Pairwise (fun a b => a.s ≠ b.s) → (∀ t ∈ l, t.n ≠ 0) → (turnAll sg l).Pairwise (fun a b => lessT a b = true) ∧ (∀ t, t ∈ turnAll sg l ↔ ∃ u ∈ l, t = turnT sg u) ∧ (turnAll sg l).length = l.length
  | [], _, _ => by simp [turnAll]
  | t :: r, hd, hn => by
    have hd' := List.pairwise_cons.1 hd
    obtain ⟨i1, i2, i3⟩ := turnAll_all r hd'.2 (fun t ht => hn t (by simp [ht]))
    obtain ⟨rs, h1, h2, h3, h4⟩ := putL_new (turnT sg t) (turn_nz (hn t (by simp))) _ i1 (fun t' ht => by
      obtain ⟨u, hu, rfl⟩ := (i2 t').1 ht
      exact fun e => hd'.1 u hu (revW_inj e).symm)
    have e : turnAll sg (t :: r) = rs := by unfold turnAll; rw [h1]; rfl
    rw [e]
    refine ⟨h2, fun t' => ?_, by rw [h4, i3]; rfl⟩
    rw [h3 t', i2 t']
    simp only [List.mem_cons, exists_eq_or_imp]
    exact or_comm
end Go.Proofs.YtogbilajlchinaaGreatDoor
