/-
  Which letters and levels a series may have, and which terms: the plain words for it, and the contracts of the two functions on letters and levels.
  Contracts of IsSeries, of the program and of its model: both return the same bool.
  Contract of IsSeries of the program.
-/
import Derived.Test.YtknigggjnjkhbaaOrd
import Derived.Test.YtknigggjnjkhbaaSer
namespace Go.Proofs.Ytknigggjnjkhbaa
open Go.RowKit

def shapeB (L V : Int) : Bool := decide (1 ≤ L ∧ L ≤ 3 ∧ 1 ≤ V ∧ V ≤ 5 ∧ (L < 3 ∨ V ≤ 4))
theorem shape_1 {L V : Int} (h : inB L 1 3 = false) : shapeB L V = false := by
  have := inB_false h; simp only [shapeB, decide_eq_false_iff_not]; omega
theorem shape_2 {L V : Int} (h : inB V 1 5 = false) : shapeB L V = false := by
  have := inB_false h; simp only [shapeB, decide_eq_false_iff_not]; omega
theorem shape_3 {L V : Int} (h : ¬ L < 3) (h2 : ¬ V ≤ 4) : shapeB L V = false := by
  simp only [shapeB, decide_eq_false_iff_not]; omega
theorem shape_4 {L V : Int} (h1 : inB L 1 3 = true) (h2 : inB V 1 5 = true) (h : L < 3 ∨ V ≤ 4) : shapeB L V = true := by
  have := inB_true h1
  have := inB_true h2
  simp only [shapeB, decide_eq_true_iff]; omega
theorem shape_out {L V : Int} (h : shapeB L V = true) : 1 ≤ L ∧ L ≤ 3 ∧ 1 ≤ V ∧ V ≤ 5 ∧ (L < 3 ∨ V ≤ 4) := by simpa [shapeB] using h

theorem l01Sizes_c (L V : Int) (w : World) :
    Calls Try.prog 47 #[.int .i64 L, .int .i64 V] w fun e w' => e = .returned (.bool (shapeB L V)) ∧ w = w' := by
  cases h1 : inB L 1 3 with
  | false =>
    have Hs := Lib.hid (shape_1 (V := V) h1)
    go_enter Try.func47, Try.ntmps47
    go_wp2_with (go_at_call 51; refine (l01In_c _ _ _ _).mono ?_; rintro e w' ⟨rfl, rfl⟩)
    go_ret
    exact ⟨ret_bool Hs.out.symm, rfl⟩
  | true =>
    cases h2 : inB V 1 5 with
    | false =>
      have Hs := Lib.hid (shape_2 (L := L) h2)
      go_enter Try.func47, Try.ntmps47
      go_wp2_with (go_at_call 51; refine (l01In_c _ _ _ _).mono ?_; rintro e w' ⟨rfl, rfl⟩)
      go_ret
      exact ⟨ret_bool Hs.out.symm, rfl⟩
    | true =>
      by_cases h3 : L < 3
      · have Hs := Lib.hid (shape_4 h1 h2 (.inl h3))
        go_enter Try.func47, Try.ntmps47
        go_wp2_with (go_at_call 51; refine (l01In_c _ _ _ _).mono ?_; rintro e w' ⟨rfl, rfl⟩)
        go_ret
        exact ⟨ret_bool Hs.out.symm, rfl⟩
      · by_cases h4 : V ≤ 4
        · have Hs := Lib.hid (shape_4 h1 h2 (.inr h4))
          go_enter Try.func47, Try.ntmps47
          go_wp2_with (go_at_call 51; refine (l01In_c _ _ _ _).mono ?_; rintro e w' ⟨rfl, rfl⟩)
          go_ret
          exact ⟨ret_bool Hs.out.symm, rfl⟩
        · have Hs := Lib.hid (shape_3 h3 h4)
          go_enter Try.func47, Try.ntmps47
          go_wp2_with (go_at_call 51; refine (l01In_c _ _ _ _).mono ?_; rintro e w' ⟨rfl, rfl⟩)
          go_ret
          exact ⟨ret_bool (by rw [Hs.out]; simp; omega), rfl⟩

theorem isShape_c (L V : Int) (w : World) :
    Calls Try.prog 58 #[.int .i64 L, .int .i64 V] w fun e w' => e = .returned (.bool (shapeB L V)) ∧ w = w' := by
  by_cases h3 : L = 3 ∧ V = 5
  · obtain ⟨rfl, rfl⟩ := h3
    go_enter Try.func58, Try.ntmps58
    go_wp2
    go_ret
    exact ⟨ret_bool (by decide), rfl⟩
  · have hs : shapeB L V = (inB L 1 3 && inB V 1 5) := by
      simp only [shapeB, inB, ← Bool.decide_and]
      congr 1
      simp only [eq_iff_iff]
      omega
    have Hs := Lib.hid hs
    clear hs
    have hor : (L == 3) = false ∨ ((L == 3) = true ∧ (V == 5) = false) := by
      by_cases a : L = 3
      · refine .inr ⟨by simpa using a, ?_⟩
        have : ¬ V = 5 := fun hb => h3 ⟨a, hb⟩
        simpa using this
      · exact .inl (by simpa using a)
    clear h3
    rcases hor with h4 | ⟨h4, h5⟩
    all_goals
      cases h1 : inB L 1 3 <;> cases h2 : inB V 1 5
      all_goals
        rw [h1, h2] at Hs
        go_enter Try.func58, Try.ntmps58
        go_wp2_with (go_at_call 63; refine (isBetween_c _ _ _ _).mono ?_; rintro e w' ⟨rfl, rfl⟩)
        go_ret
        exact ⟨ret_bool Hs.out.symm, rfl⟩

/-- is the term one that a series may have? is it ahead of the one at its place? -/
def termB (L V : Int) (t : Tm) : Bool := decide ((t.s.size : Int) ≤ V) && wordB L t.s.data.toList && (isF t.n t.d && !(t.n == 0))
def goodAt (L V : Int) (ts : List Tm) (k : Nat) : Bool :=
  match ts[k]? with
  | none => true
  | some t => termB L V t && (match k with
    | 0 => true
    | j + 1 => match ts[j]? with
      | none => true
      | some p => lessL p.s.data.toList t.s.data.toList)
def serB (L V : Int) (ts : List Tm) : Bool := shapeB L V && (List.range ts.length).all (goodAt L V ts)
theorem serB_shape {L V : Int} {ts : List Tm} (h : shapeB L V = false) : serB L V ts = false := by simp [serB, h]
theorem serB_bad {L V : Int} {ts : List Tm} (k : Nat) (hk : k < ts.length) (h : goodAt L V ts k = false) : serB L V ts = false := by
  unfold serB
  have : (List.range ts.length).all (goodAt L V ts) = false := by
    rw [List.all_eq_false]
    exact ⟨k, List.mem_range.2 hk, by rw [h]; simp⟩
  rw [this, Bool.and_false]
theorem serB_good {L V : Int} {ts : List Tm} (h : shapeB L V = true) (ha : ∀ k, k < ts.length → goodAt L V ts k = true) : serB L V ts = true := by
  unfold serB
  rw [h, Bool.true_and, List.all_eq_true]
  exact fun k hk => ha k (List.mem_range.1 hk)
theorem goodAt_term {L V : Int} {ts : List Tm} {k : Nat} {t : Tm} (ht : ts[k]? = some t) (h : termB L V t = false) : goodAt L V ts k = false := by
  simp [goodAt, ht, h]
theorem goodAt_zero {L V : Int} {ts : List Tm} {t : Tm} (ht : ts[0]? = some t) (h : termB L V t = true) : goodAt L V ts 0 = true := by
  simp [goodAt, ht, h]
theorem goodAt_succ {L V : Int} {ts : List Tm} {j : Nat} {t p : Tm} (ht : ts[j + 1]? = some t) (hp : ts[j]? = some p) (h : termB L V t = true) : goodAt L V ts (j + 1) = lessL p.s.data.toList t.s.data.toList := by
  simp [goodAt, ht, hp, h]
end Go.Proofs.Ytknigggjnjkhbaa

namespace Go.Proofs.Ytknigggjnjkhbaa
open Go.RowKit

theorem term_size {L V : Int} {t : Tm} (h : V < (t.s.size : Int)) : termB L V t = false := by
  simp only [termB, show ¬ (t.s.size : Int) ≤ V from by omega, decide_false, Bool.false_and]
theorem term_word {L V : Int} {t : Tm} (h : wordB L t.s.data.toList = false) : termB L V t = false := by
  simp [termB, h]
theorem term_frac {L V : Int} {t : Tm} (h : isF t.n t.d = false) : termB L V t = false := by
  simp [termB, h]
theorem term_zero {L V : Int} {t : Tm} (h : (t.n == 0) = true) : termB L V t = false := by
  simp only [termB, h, Bool.not_true, Bool.and_false]
theorem term_good {L V : Int} {t : Tm} (h1 : (t.s.size : Int) ≤ V) (h2 : wordB L t.s.data.toList = true) (h3 : isF t.n t.d = true) (h4 : (t.n == 0) = false) : termB L V t = true := by
  simp only [termB, h1, h2, h3, h4, decide_true, Bool.not_false, Bool.and_self]
theorem get_some {ts : List Tm} {k : Nat} (h : k < ts.length) {t : Tm} (e : ts[k] = t) : ts[k]? = some t := by rw [← e]; exact List.getElem?_eq_getElem h

theorem l01Is_c (L V : Int) (b off cap : Nat) (ts : List Tm) (hl : ts.length ≤ 1048576) (hs : ∀ i (h : i < ts.length), (ts[i]).s.size ≤ maxLen) (w : World) (hb : b < w.heap.size) (ht : TermsIn w b off ts) :
    Calls Try.prog 23 #[.agg #[.int .i64 L, .int .i64 V, .slice (some ⟨b, off, none⟩) ts.length cap]] w fun e w' => e = .returned (.bool (serB L V ts)) ∧ Below w.heap.size w w' := by
  have HT := Lib.hid ht
  have HS := Lib.hid hs
  clear ht hs
  cases hsh : shapeB L V with
  | false =>
    have HR := Lib.hid (serB_shape (ts := ts) hsh)
    go_enter Try.func23, Try.ntmps23
    go_wp2_with (go_at_call 47; refine (l01Sizes_c _ _ _).mono ?_; rintro e w' ⟨rfl, rfl⟩)
    go_ret
    exact ⟨ret_bool HR.out.symm, below1 _ _⟩
  | true =>
    have HSH := Lib.hid hsh
    go_enter Try.func23, Try.ntmps23
    go_wp2_with (go_at_call 47; refine (l01Sizes_c _ _ _).mono ?_; rintro e w' ⟨rfl, rfl⟩)
    clear hsh
    go_loopw [3] (fun vi wr => ∃ k : Nat, k ≤ ts.length ∧ vi = .int .i64 k ∧ (∀ j, j < k → goodAt L V ts j = true) ∧ Below (w.heap.size + 1) (w.alloc (.cells #[.int .i64 L, .int .i64 V, .slice (some ⟨b, off, none⟩) ts.length cap] 33)) wr) (fun i _ => ts.length - (intOf i).toNat)
    case atStart => exact ⟨0, Nat.zero_le _, rfl, fun j hj => by omega, Below.refl _ _⟩
    case round =>
      obtain ⟨k, hk, rfl, hg, hB⟩ := hrel
      have HG := Lib.hid hg
      clear hg
      have bc := bcellB hB
      have x0 : wr.cell? ⟨w.heap.size, 0, none⟩ = some (.int .i64 L) := (bc.1 _ _ (by omega)).trans (by go_simp)
      have x1 : wr.cell? ⟨w.heap.size, 1, none⟩ = some (.int .i64 V) := (bc.1 _ _ (by omega)).trans (by go_simp)
      have x2 : wr.cell? ⟨w.heap.size, 2, none⟩ = some (.slice (some ⟨b, off, none⟩) ts.length cap) := (bc.1 _ _ (by omega)).trans (by go_simp)
      have hz : w.heap.size < wr.heap.size := by have := hB.size; simp at this; omega
      have hzb : b < wr.heap.size := by omega
      have hT := (HT.out.below (below1 w (.cells #[.int .i64 L, .int .i64 V, .slice (some ⟨b, off, none⟩) ts.length cap] 33)) hb).below hB (by omega)
      have HTr := Lib.hid hT
      have HB := Lib.hid hB
      clear hT bc hB
      by_cases hlt : k < ts.length
      · obtain ⟨c0, c1, c2⟩ := HTr.out k hlt
        have hsz := HS.out k hlt
        obtain ⟨t, het⟩ : ∃ t, ts[k] = t := ⟨_, rfl⟩
        have HE := Lib.hid (get_some hlt het)
        rw [het] at c0 c1 c2 hsz
        clear het
        obtain ⟨s, n, d⟩ := t
        simp only at c0 c1 c2 hsz
        by_cases h1 : V < (s.size : Int)
        · have HF := Lib.hid (serB_bad k hlt (goodAt_term HE.out (term_size (L := L) h1)))
          go_wp2
          go_ret
          refine ⟨ret_bool HF.out.symm, ?_⟩
          exact ((below1 w _).trans (HB.out.mono (by omega))).alloc (by omega) _
        · cases h2 : wordB L s.data.toList with
          | false =>
            have HF := Lib.hid (serB_bad k hlt (goodAt_term HE.out (term_word (V := V) (t := ⟨s, n, d⟩) h2)))
            go_wp2_with (go_at_call 41; refine (l01Word_c _ _ hsz _).mono ?_; rintro e w' ⟨rfl, rfl⟩)
            go_ret
            refine ⟨ret_bool HF.out.symm, ?_⟩
            exact ((below1 w _).trans (HB.out.mono (by omega))).alloc (by omega) _
          | true =>
            cases h3 : isF n d with
            | false =>
              have HF := Lib.hid (serB_bad k hlt (goodAt_term HE.out (term_frac (L := L) (V := V) (t := ⟨s, n, d⟩) h3)))
              go_wp2_with (first | (go_at_call 41; refine (l01Word_c _ _ hsz _).mono ?_; rintro e w' ⟨rfl, rfl⟩) | fail)
              refine (l01IsFrac_c _ _ _).mono ?_
              rintro e w1 ⟨rfl, hb1⟩
              have hW1 := (((below1 w _).trans (HB.out.mono (Nat.le_succ _))).alloc (Nat.le_of_lt hz) (.cells #[.string s, .int .i64 n, .int .i64 d] 60)).trans (hb1.mono (by simp; omega))
              clear hb1
              go_wp2
              go_ret
              exact ⟨ret_bool HF.out.symm, hW1⟩
            | true =>
              have HT4 := Lib.hid (fun hn => term_good (L := L) (V := V) (t := ⟨s, n, d⟩) (Int.not_lt.1 h1) h2 h3 hn)
              go_wp2_with (first | (go_at_call 41; refine (l01Word_c _ _ hsz _).mono ?_; rintro e w' ⟨rfl, rfl⟩) | fail)
              refine (l01IsFrac_c _ _ _).mono ?_
              rintro e w1 ⟨rfl, hb1⟩
              have hB1 : Below (wr.heap.size + 1) _ w1 := hb1.mono (by simp)
              have bc1 := bcellB hB1
              have hz1 : wr.heap.size < w1.heap.size := by have := hb1.size; simp at this; omega
              clear hb1
              rw [h3]
              go_wp2_with fail
              refine (l01Zero_c _ _ _).mono ?_
              rintro e w2 ⟨rfl, hb2⟩
              have hB2 := below_step hB1 hb2 (by simp)
              have bc2 := bcellB hB2
              have hz2 : wr.heap.size < w2.heap.size := Nat.lt_of_lt_of_le hz1 hb2.size
              clear hb2 bc1
              cases h4 : (n == 0) with
              | true =>
                have HF := Lib.hid (serB_bad k hlt (goodAt_term HE.out (term_zero (L := L) (V := V) (t := ⟨s, n, d⟩) h4)))
                have hW2 := (((below1 w _).trans (HB.out.mono (Nat.le_succ _))).alloc (Nat.le_of_lt hz) (.cells #[.string s, .int .i64 n, .int .i64 d] 60)).trans (hB2.mono (by omega))
                clear hB1 hB2
                go_wp2
                go_ret
                exact ⟨ret_bool HF.out.symm, hW2⟩
              | false =>
                have HG4 := Lib.hid (HT4.out h4)
                have X2 : w2.cell? ⟨w.heap.size, 2, none⟩ = some (.slice (some ⟨b, off, none⟩) ts.length cap) := (bc2.1 _ _ (by omega)).trans (by go_simp)
                have T0 : w2.cell? ⟨wr.heap.size, 0, none⟩ = some (.string s) := (bc2.1 _ _ (by omega)).trans (by go_simp)
                have HB2 := Lib.hid ((HB.out.alloc hz (.cells #[.string s, .int .i64 n, .int .i64 d] 60)).trans (hB2.mono (by omega)))
                have HT2 := Lib.hid ((HTr.out.below (below1 wr (.cells #[.string s, .int .i64 n, .int .i64 d] 60)) hzb).below hB2 (Nat.lt_succ_of_lt hzb))
                clear bc2 hB1 hB2 x0 x1 x2 c0 c1 c2
                rcases Nat.eq_zero_or_pos k with hk0 | hk0
                · have hd : decide (0 < k) = false := by simp [hk0]
                  have HK := Lib.hid hk0
                  clear hk0
                  go_wp2
                  go_quiet (fail)
                  go_wp2
                  go_roundw
                  case rel =>
                    refine ⟨k + 1, by omega, by go_num, fun j hj => ?_, below_drewN HB2.out _⟩
                    by_cases hjk : j < k
                    · exact HG.out j hjk
                    · obtain rfl : j = 0 := by have := HK.out; omega
                      have e := HK.out
                      exact goodAt_zero (by have := HE.out; rwa [e] at this) HG4.out
                  case measure => simp [intOf]; omega
                · have hd : decide (0 < k) = true := by simp [hk0]
                  have hsub : IntKind.i64.wrap ((k : Int) - 1) = ((k - 1 : Nat) : Int) := by rw [IntWalk.i64_in _ (by omega)]; omega
                  obtain ⟨p, hep⟩ : ∃ p, ts[k - 1] = p := ⟨_, rfl⟩
                  have HP := Lib.hid (get_some (by omega) hep)
                  have P0 := (HT2.out (k - 1) (by omega)).1
                  have hps := HS.out (k - 1) (by omega)
                  rw [hep] at P0 hps
                  clear hep
                  have hlt2 : k - 1 < ts.length := by omega
                  have HK := Lib.hid (goodAt_succ (L := L) (V := V) (ts := ts) (j := k - 1) (t := ⟨s, n, d⟩) (p := p) (by rw [Nat.sub_add_cancel hk0]; exact HE.out) HP.out HG4.out)
                  cases hles : lessL p.s.data.toList s.data.toList with
                  | false =>
                    rw [hles, Nat.sub_add_cancel hk0] at HK
                    have HF := Lib.hid (serB_bad k hlt HK.out)
                    clear HK
                    have hW2 := (below1 w _).trans (HB2.out.mono (Nat.le_succ _))
                    go_wp2
                    go_quiet ((go_at_call 50; exact Calls.quiet_of_same (l01Before_c _ _ _)))
                    go_wp2
                    go_ret
                    exact ⟨ret_bool HF.out.symm, below_drewN hW2 _⟩
                  | true =>
                    rw [hles, Nat.sub_add_cancel hk0] at HK
                    have HK2 := Lib.hid HK.out
                    clear HK
                    go_wp2
                    go_quiet ((go_at_call 50; exact Calls.quiet_of_same (l01Before_c _ _ _)))
                    go_wp2
                    go_roundw
                    case rel =>
                      refine ⟨k + 1, by omega, by go_num, fun j hj => ?_, below_drewN HB2.out _⟩
                      by_cases hjk : j < k
                      · exact HG.out j hjk
                      · obtain rfl : j = k := by omega
                        exact HK2.out
                    case measure => simp [intOf]; omega
      · have HF := Lib.hid (serB_good (L := L) (V := V) (ts := ts) HSH.out (fun j hj => HG.out j (by omega)))
        have hW2 := (below1 w _).trans (HB.out.mono (Nat.le_succ _))
        go_wp2
        go_ret
        exact ⟨ret_bool HF.out.symm, hW2⟩

end Go.Proofs.Ytknigggjnjkhbaa

namespace Go.Proofs.Ytknigggjnjkhbaa
open Go.RowKit

theorem term_w {L V : Int} {t : Tm} (h : (decide ((t.s.size : Int) ≤ V) && wordB L t.s.data.toList) = false) : termB L V t = false := by
  simp [termB, h]
theorem term_all {L V : Int} {t : Tm} (h : (decide ((t.s.size : Int) ≤ V) && wordB L t.s.data.toList) = true) (h3 : isF t.n t.d = true) (h4 : (t.n == 0) = false) : termB L V t = true := by
  simp only [termB, h, h3, h4, Bool.not_false, Bool.and_self]
theorem zero_yes {n d : Int} (h : (n == 0 && d == 1) = true) : (n == 0) = true := by
  rw [Bool.and_eq_true] at h; exact h.1
theorem zero_no {n d : Int} (hf : isF n d = true) (h : (n == 0 && d == 1) = false) : (n == 0) = false := by
  cases e : (n == 0) with
  | false => rfl
  | true =>
    have e0 : n = 0 := by simpa using e
    subst e0
    have e1 := isF_zero hf
    subst e1
    simp at h

theorem held3 {i j k o1 o2 o3 : Nat} {x y z : Value} {W w' : World} (hb : Below W.heap.size W w') (hi : i < W.heap.size) (hj : j < W.heap.size) (hk : k < W.heap.size)
    (h : W.cell? ⟨i, o1, none⟩ = some x ∧ W.cell? ⟨j, o2, none⟩ = some y ∧ W.cell? ⟨k, o3, none⟩ = some z) :
    w'.cell? ⟨i, o1, none⟩ = some x ∧ w'.cell? ⟨j, o2, none⟩ = some y ∧ w'.cell? ⟨k, o3, none⟩ = some z :=
  ⟨(hb.cell (p := ⟨i, o1, none⟩) hi).trans h.1, (hb.cell (p := ⟨j, o2, none⟩) hj).trans h.2.1, (hb.cell (p := ⟨k, o3, none⟩) hk).trans h.2.2⟩

theorem iIsSeries_c (L V : Int) (b off cap : Nat) (ts : List Tm) (hl : ts.length ≤ 1048576) (hs : ∀ i (h : i < ts.length), (ts[i]).s.size ≤ maxLen) (w : World) (hb : b < w.heap.size) (ht : TermsIn w b off ts) :
    Calls Try.prog 28 #[.agg #[.int .i64 L, .int .i64 V, .slice (some ⟨b, off, none⟩) ts.length cap]] w fun e w' => e = .returned (.bool (serB L V ts)) ∧ Below w.heap.size w w' := by
  have HT := Lib.hid ht
  have HS := Lib.hid hs
  clear ht hs
  cases hsh : shapeB L V with
  | false =>
    have HR := Lib.hid (serB_shape (ts := ts) hsh)
    go_enter Try.func28, Try.ntmps28
    go_wp2_with (go_at_call 58; refine (isShape_c _ _ _).mono ?_; rintro e w' ⟨rfl, rfl⟩)
    go_ret
    exact ⟨ret_bool HR.out.symm, below1 _ _⟩
  | true =>
    have HSH := Lib.hid hsh
    go_enter Try.func28, Try.ntmps28
    go_wp2_with (go_at_call 58; refine (isShape_c _ _ _).mono ?_; rintro e w' ⟨rfl, rfl⟩)
    clear hsh
    go_loopw [14] (fun vi wr => ∃ k : Nat, k ≤ ts.length ∧ vi = .int .i64 k ∧ (∀ j, j < k → goodAt L V ts j = true) ∧ Below (w.heap.size + 1) (w.alloc (.cells #[.int .i64 L, .int .i64 V, .slice (some ⟨b, off, none⟩) ts.length cap] 33)) wr) (fun i _ => ts.length - (intOf i).toNat)
    case atStart => exact ⟨0, Nat.zero_le _, rfl, fun j hj => by omega, Below.refl _ _⟩
    case round =>
      obtain ⟨k, hk, rfl, hg, hB⟩ := hrel
      have HG := Lib.hid hg
      clear hg
      have bc := bcellB hB
      have x0 : wr.cell? ⟨w.heap.size, 0, none⟩ = some (.int .i64 L) := (bc.1 _ _ (by omega)).trans (by go_simp)
      have x1 : wr.cell? ⟨w.heap.size, 1, none⟩ = some (.int .i64 V) := (bc.1 _ _ (by omega)).trans (by go_simp)
      have x2 : wr.cell? ⟨w.heap.size, 2, none⟩ = some (.slice (some ⟨b, off, none⟩) ts.length cap) := (bc.1 _ _ (by omega)).trans (by go_simp)
      have hz : w.heap.size < wr.heap.size := by have := hB.size; simp at this; omega
      have hzb : b < wr.heap.size := by omega
      have hT := (HT.out.below (below1 w (.cells #[.int .i64 L, .int .i64 V, .slice (some ⟨b, off, none⟩) ts.length cap] 33)) hb).below hB (by omega)
      have HTr := Lib.hid hT
      have HB := Lib.hid hB
      clear hT bc hB
      by_cases hlt : k < ts.length
      · obtain ⟨c0, c1, c2⟩ := HTr.out k hlt
        have hsz := HS.out k hlt
        obtain ⟨t, het⟩ : ∃ t, ts[k] = t := ⟨_, rfl⟩
        have HE := Lib.hid (get_some hlt het)
        rw [het] at c0 c1 c2 hsz
        clear het
        obtain ⟨s, n, d⟩ := t
        simp only at c0 c1 c2 hsz
        cases h2 : (decide ((s.size : Int) ≤ V) && wordB L s.data.toList) with
        | false =>
          have HF := Lib.hid (serB_bad k hlt (goodAt_term HE.out (term_w (t := ⟨s, n, d⟩) h2)))
          have H2 := Lib.hid h2
          clear h2
          go_wp2_with (go_at_call 59; refine (isWord_c _ _ _ hsz _).mono ?_; rw [H2.out]; rintro e w' ⟨rfl, rfl⟩)
          go_ret
          refine ⟨ret_bool HF.out.symm, ?_⟩
          exact ((below1 w _).trans (HB.out.mono (by omega))).alloc (by omega) _
        | true =>
          have H2 := Lib.hid h2
          clear h2
          cases h3 : isF n d with
          | false =>
            have HF := Lib.hid (serB_bad k hlt (goodAt_term HE.out (term_frac (L := L) (V := V) (t := ⟨s, n, d⟩) h3)))
            go_wp2_with (first | (go_at_call 59; refine (isWord_c _ _ _ hsz _).mono ?_; rw [H2.out]; rintro e w' ⟨rfl, rfl⟩) | fail)
            refine (isFraction_c _ _ _).mono ?_
            rintro e w1 ⟨rfl, hb1⟩
            have hW1 := (((below1 w _).trans (HB.out.mono (Nat.le_succ _))).alloc (Nat.le_of_lt hz) (.cells #[.string s, .int .i64 n, .int .i64 d] 60)).trans (hb1.mono (by simp; omega))
            clear hb1
            go_wp2
            go_ret
            exact ⟨ret_bool HF.out.symm, hW1⟩
          | true =>
            go_wp2_with (first | (go_at_call 59; refine (isWord_c _ _ _ hsz _).mono ?_; rw [H2.out]; rintro e w' ⟨rfl, rfl⟩) | fail)
            refine (isFraction_c _ _ _).mono ?_
            rintro e w1 ⟨rfl, hb1⟩
            have hB1 : Below (wr.heap.size + 1) _ w1 := hb1.mono (by simp)
            have bc1 := bcellB hB1
            have hz1 : wr.heap.size < w1.heap.size := by have := hb1.size; simp at this; omega
            clear hb1
            rw [h3]
            go_wp2_with fail
            refine (isZero_c _ _ _).mono ?_
            rintro e w2 ⟨rfl, hb2⟩
            have hB2 := below_step hB1 hb2 (by simp)
            have bc2 := bcellB hB2
            have hz2 : wr.heap.size < w2.heap.size := Nat.lt_of_lt_of_le hz1 hb2.size
            clear hb2 bc1
            cases h4 : (n == 0 && d == 1) with
            | true =>
              have HF := Lib.hid (serB_bad k hlt (goodAt_term HE.out (term_zero (L := L) (V := V) (t := ⟨s, n, d⟩) (zero_yes h4))))
              have hW2 := (((below1 w _).trans (HB.out.mono (Nat.le_succ _))).alloc (Nat.le_of_lt hz) (.cells #[.string s, .int .i64 n, .int .i64 d] 60)).trans (hB2.mono (by omega))
              clear hB1 hB2 h4
              go_wp2
              go_ret
              exact ⟨ret_bool HF.out.symm, hW2⟩
            | false =>
              have HG4 := Lib.hid (term_all (t := ⟨s, n, d⟩) H2.out h3 (zero_no h3 h4))
              have X2 : w2.cell? ⟨w.heap.size, 2, none⟩ = some (.slice (some ⟨b, off, none⟩) ts.length cap) := (bc2.1 _ _ (by omega)).trans (by go_simp)
              have T0 : w2.cell? ⟨wr.heap.size, 0, none⟩ = some (.string s) := (bc2.1 _ _ (by omega)).trans (by go_simp)
              have HB2 := Lib.hid ((HB.out.alloc hz (.cells #[.string s, .int .i64 n, .int .i64 d] 60)).trans (hB2.mono (by omega)))
              have HT2 := Lib.hid ((HTr.out.below (below1 wr (.cells #[.string s, .int .i64 n, .int .i64 d] 60)) hzb).below hB2 (Nat.lt_succ_of_lt hzb))
              clear bc2 hB1 hB2 x0 x1 x2 c0 c1 c2 h4
              rcases Nat.eq_zero_or_pos k with hk0 | hk0
              · have hd : decide (0 < k) = false := by simp [hk0]
                have HK := Lib.hid hk0
                clear hk0
                go_wp2
                go_quiet (fail)
                go_wp2
                go_roundw
                case rel =>
                  refine ⟨k + 1, by omega, by go_num, fun j hj => ?_, below_drewN HB2.out _⟩
                  by_cases hjk : j < k
                  · exact HG.out j hjk
                  · obtain rfl : j = 0 := by have := HK.out; omega
                    have e := HK.out
                    exact goodAt_zero (by have := HE.out; rwa [e] at this) HG4.out
                case measure => simp [intOf]; omega
              · have hd : decide (0 < k) = true := by simp [hk0]
                have hsub : IntKind.i64.wrap ((k : Int) - 1) = ((k - 1 : Nat) : Int) := by rw [IntWalk.i64_in _ (by omega)]; omega
                obtain ⟨p, hep⟩ : ∃ p, ts[k - 1] = p := ⟨_, rfl⟩
                have HP := Lib.hid (get_some (by omega) hep)
                have P0 := (HT2.out (k - 1) (by omega)).1
                rw [hep] at P0
                clear hep
                have hlt2 : k - 1 < ts.length := by omega
                have HK := goodAt_succ (L := L) (V := V) (ts := ts) (j := k - 1) (t := ⟨s, n, d⟩) (p := p) (by rw [Nat.sub_add_cancel hk0]; exact HE.out) HP.out HG4.out
                rw [Nat.sub_add_cancel hk0] at HK
                cases hles : lessL p.s.data.toList s.data.toList with
                | false =>
                  rw [hles] at HK
                  have HF := Lib.hid (serB_bad k hlt HK)
                  have hW2 := Lib.hid ((below1 w _).trans (HB2.out.mono (Nat.le_succ _)))
                  have hge : 0 ≤ cmpL p.s.data.toList s.data.toList := by
                    have h := lessL_cmp p.s.data.toList s.data.toList
                    rw [hles] at h
                    simp at h
                    exact h
                  clear HK hles
                  go_upto_region 8 with fail
                  go_cut [52] (fun s52 wy => s52 = .bool true ∧ Below w2.heap.size w2 wy)
                  case first =>
                    go_region_held3 (fun w' => w'.cell? ⟨w.heap.size, 2, none⟩ = some (.slice (some ⟨b, off, none⟩) ts.length cap) ∧ w'.cell? ⟨b, off + (k - 1) * 3, none⟩ = some (.string p.s) ∧ w'.cell? ⟨wr.heap.size, 0, none⟩ = some (.string s)) (first | (refine held3 hb1 ?_ ?_ ?_ ⟨X2, P0, T0⟩ <;> first | omega | (show _ < w2.heap.size; omega) | (simp; omega)) | go_keep)
                      (first | (go_at_call 62; refine (compareWords_c _ _ _).mono ?_; rintro e w' ⟨rfl, hb1⟩))
                    all_goals (go_wp2_with fail; go_meet)
                    all_goals exact ⟨by first | rfl | simp [hge] | (simp; omega), ⟨hb1.os, hb1.tape, hb1.output, hb1.size, hb1.block⟩⟩
                  case rest =>
                    obtain ⟨rfl, hBy⟩ := hcut
                    have hW3 := hW2.out.trans (hBy.mono hW2.out.size)
                    clear hBy X2 T0 P0
                    go_wp2
                    go_ret
                    exact ⟨ret_bool HF.out.symm, hW3⟩
                | true =>
                  rw [hles] at HK
                  have HK2 := Lib.hid HK
                  have hlt0 : cmpL p.s.data.toList s.data.toList < 0 := (lessL_cmp _ _).2 hles
                  clear HK hles
                  go_upto_region 8 with fail
                  go_cut [52] (fun s52 wy => s52 = .bool false ∧ Below w2.heap.size w2 wy)
                  case first =>
                    go_region_held3 (fun w' => w'.cell? ⟨w.heap.size, 2, none⟩ = some (.slice (some ⟨b, off, none⟩) ts.length cap) ∧ w'.cell? ⟨b, off + (k - 1) * 3, none⟩ = some (.string p.s) ∧ w'.cell? ⟨wr.heap.size, 0, none⟩ = some (.string s)) (first | (refine held3 hb1 ?_ ?_ ?_ ⟨X2, P0, T0⟩ <;> first | omega | (show _ < w2.heap.size; omega) | (simp; omega)) | go_keep)
                      (first | (go_at_call 62; refine (compareWords_c _ _ _).mono ?_; rintro e w' ⟨rfl, hb1⟩))
                    all_goals (go_wp2_with fail; go_meet)
                    all_goals exact ⟨by first | rfl | simp [hlt0] | (simp; omega), ⟨hb1.os, hb1.tape, hb1.output, hb1.size, hb1.block⟩⟩
                  case rest =>
                    obtain ⟨rfl, hBy⟩ := hcut
                    have hW3 := Lib.hid (HB2.out.trans (hBy.mono (Nat.le_trans (Nat.succ_le_of_lt hz) (Nat.le_of_lt hz2))))
                    clear hBy X2 T0 P0
                    go_wp2
                    go_roundw
                    case rel =>
                      refine ⟨k + 1, by omega, by go_num, fun j hj => ?_, hW3.out⟩
                      by_cases hjk : j < k
                      · exact HG.out j hjk
                      · obtain rfl : j = k := by omega
                        exact HK2.out
                    case measure => simp [intOf]; omega
      · have HF := Lib.hid (serB_good (L := L) (V := V) (ts := ts) HSH.out (fun j hj => HG.out j (by omega)))
        have hW2 := (below1 w _).trans (HB.out.mono (Nat.le_succ _))
        go_wp2
        go_ret
        exact ⟨ret_bool HF.out.symm, hW2⟩
end Go.Proofs.Ytknigggjnjkhbaa
