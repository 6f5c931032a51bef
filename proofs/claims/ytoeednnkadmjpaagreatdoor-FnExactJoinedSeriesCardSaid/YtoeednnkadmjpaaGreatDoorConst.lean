/-
  Contracts of CoefficientOf, of the program and of its model: both return the same three numbers.
  Contracts of ConstantOf, of the program and of its model: both return the same three numbers.
-/
import Derived.Test.YtoeednnkadmjpaaGreatDoorTol
namespace Go.Proofs.YtoeednnkadmjpaaGreatDoor
open Go.RowKit

def wordOk (L V : Int) (s : ByteArray) : Bool := decide ((s.size : Int) ≤ V) && wordB L s.data.toList
def coefR (L V : Int) (ts : List Tm) (s : ByteArray) : Int × Int × Int :=
  if serB L V ts then (if wordOk L V s then ((valL s.data.toList ts).1, (valL s.data.toList ts).2, 0) else (0, 0, 2)) else (0, 0, 1)
theorem coef_1 {L V : Int} {ts : List Tm} {s : ByteArray} (h : serB L V ts = false) : coefR L V ts s = (0, 0, 1) := by simp [coefR, h]
theorem coef_2 {L V : Int} {ts : List Tm} {s : ByteArray} (h : serB L V ts = true) (h2 : wordOk L V s = false) : coefR L V ts s = (0, 0, 2) := by simp [coefR, h, h2]
theorem coef_3 {L V : Int} {ts : List Tm} {s : ByteArray} (h : serB L V ts = true) (h2 : wordOk L V s = true) : coefR L V ts s = ((valL s.data.toList ts).1, (valL s.data.toList ts).2, 0) := by simp [coefR, h, h2]

section
variable (L V : Int) (b off cap : Nat) (ts : List Tm) (s : ByteArray) (w : World)

theorem val_found {ts : List Tm} {w0 : List UInt8} {i : Nat} {t : Tm} (hp : Place ts w0 i) (ht : ts[i]? = some t) (he : t.s.data.toList = w0) : valL w0 ts = (t.n, t.d) := by
  obtain ⟨hi, e⟩ := List.getElem?_eq_some_iff.1 ht
  have h := valL_at ts i hi (fun j hj hji => place_before hp j hj hji) (by rw [e]; exact he)
  rw [e] at h; exact h
theorem val_lost {ts : List Tm} {w0 : List UInt8} {i : Nat} (ha : Asc ts) (hp : Place ts w0 i) (h : ∀ t, ts[i]? = some t → t.s.data.toList ≠ w0) : valL w0 ts = (0, 1) :=
  valL_none ts (fun j hj => by
    rcases Nat.lt_trichotomy j i with h1 | h1 | h1
    · exact place_before hp j hj h1
    · subst h1; exact h _ (List.getElem?_eq_getElem hj)
    · exact place_behind ha hp j hj h1)

theorem iCoef_c (hl : ts.length ≤ 1048576) (hs : ∀ i (h : i < ts.length), (ts[i]).s.size ≤ maxLen) (hsz : s.size ≤ maxLen) (hb : b < w.heap.size) (ht : TermsIn w b off ts) :
    Calls Tryz.prog 67 #[.agg #[.int .i64 L, .int .i64 V, .slice (some ⟨b, off, none⟩) ts.length cap], .string s] w fun e w' =>
      e = .returned (.tuple #[.agg #[.int .i64 (coefR L V ts s).1, .int .i64 (coefR L V ts s).2.1], .int .i64 (coefR L V ts s).2.2]) ∧ Below w.heap.size w w' := by
  have HT := Lib.hid ht
  have HS := Lib.hid hs
  clear ht hs
  cases h1 : serB L V ts with
  | false =>
    have HR := Lib.hid (coef_1 (s := s) h1)
    go_enter Tryz.func67, Tryz.ntmps67
    go_wp2_with fail
    refine (iIsSeries_c L V b off cap ts hl HS.out _ (by simp; omega) (HT.out.below (below2 w _ _) hb)).mono ?_
    rintro e w1 ⟨rfl, hb1⟩
    have hB1 := hb1
    simp only [World.size_alloc] at hB1
    obtain ⟨hc, hf⟩ := bcellB hB1
    have r0 : w1.cell? ⟨w.heap.size + 1, 0, none⟩ = some (.int .i64 0) := (hc _ _ (by omega)).trans (by go_simp)
    have r1 : w1.cell? ⟨w.heap.size + 1, 1, none⟩ = some (.int .i64 0) := (hc _ _ (by omega)).trans (by go_simp)
    have hW : Below w.heap.size w w1 := (below2 w _ _).trans (hb1.mono (by simp; omega))
    clear hb1 hB1
    rw [h1]
    go_wp2
    exact bodyPost_ret (v := .tuple #[.agg #[.int .i64 0, .int .i64 0], .int .i64 1]) (by simp [results, Tryz.results67, go_sem, r0, r1]) rfl ⟨by rw [HR.out], by go_grown⟩
  | true =>
    cases h2 : wordOk L V s with
    | false =>
      have HR := Lib.hid (coef_2 h1 h2)
      have H2 : Hid ((decide ((s.size : Int) ≤ V) && wordB L s.data.toList) = false) := Lib.hid h2
      clear h2
      go_enter Tryz.func67, Tryz.ntmps67
      go_wp2_with fail
      refine (iIsSeries_c L V b off cap ts hl HS.out _ (by simp; omega) (HT.out.below (below2 w _ _) hb)).mono ?_
      rintro e w1 ⟨rfl, hb1⟩
      have hB1 := hb1
      simp only [World.size_alloc] at hB1
      obtain ⟨hc, hf⟩ := bcellB hB1
      have r0 : w1.cell? ⟨w.heap.size + 1, 0, none⟩ = some (.int .i64 0) := (hc _ _ (by omega)).trans (by go_simp)
      have r1 : w1.cell? ⟨w.heap.size + 1, 1, none⟩ = some (.int .i64 0) := (hc _ _ (by omega)).trans (by go_simp)
      have hW : Below w.heap.size w w1 := (below2 w _ _).trans (hb1.mono (by simp; omega))
      clear hb1 hB1
      rw [h1]
      go_wp2_with (go_at_call 93; refine (isWord_c _ _ _ hsz _).mono ?_; rw [H2.out]; rintro e w' ⟨rfl, rfl⟩)
      exact bodyPost_ret (v := .tuple #[.agg #[.int .i64 0, .int .i64 0], .int .i64 2]) (by simp [results, Tryz.results67, go_sem, r0, r1]) rfl ⟨by rw [HR.out], by go_grown⟩
    | true =>
      have HR := Lib.hid (coef_3 h1 h2)
      have H2 : Hid ((decide ((s.size : Int) ≤ V) && wordB L s.data.toList) = true) := Lib.hid h2
      have HA := Lib.hid (asc_of_ser h1)
      clear h2
      go_enter Tryz.func67, Tryz.ntmps67
      go_wp2_with fail
      refine (iIsSeries_c L V b off cap ts hl HS.out _ (by simp; omega) (HT.out.below (below2 w _ _) hb)).mono ?_
      rintro e w1 ⟨rfl, hb1⟩
      have hB1 := hb1
      simp only [World.size_alloc] at hB1
      obtain ⟨hc, hf⟩ := bcellB hB1
      have hT1 := Lib.hid ((HT.out.below (below2 w (.cells #[.int .i64 L, .int .i64 V, .slice (some ⟨b, off, none⟩) ts.length cap] 28) (.cells #[.int .i64 0, .int .i64 0] 41)) hb).below hB1 (by omega))
      have hz1 : b < w1.heap.size := by have := hb1.size; simp at this; omega
      clear hb1
      rw [h1]
      go_wp2_with (first | (go_at_call 93; refine (isWord_c _ _ _ hsz _).mono ?_; rw [H2.out]; rintro e w' ⟨rfl, rfl⟩) | fail)
      refine (findTerm_c b off cap ts hl s HA.out _ hz1 hT1.out).mono ?_
      rintro e w2 ⟨i, hp, rfl, hb2⟩
      have hB2 := below_step hB1 hb2 (by simp)
      have hT2 := Lib.hid (hT1.out.below hb2 hz1)
      clear hc hf
      obtain ⟨hc, hf⟩ := bcellB hB2
      have r0 : w2.cell? ⟨w.heap.size + 1, 0, none⟩ = some (.int .i64 0) := (hc _ _ (by omega)).trans (by go_simp)
      have r1 : w2.cell? ⟨w.heap.size + 1, 1, none⟩ = some (.int .i64 0) := (hc _ _ (by omega)).trans (by go_simp)
      have hW : Below w.heap.size w w2 := (below2 w _ _).trans (hB2.mono (by omega))
      clear hb2 hB1 hB2
      cases hti : ts[i]? with
      | none =>
        have HV := Lib.hid (val_lost HA.out hp (fun t h => by rw [hti] at h; cases h))
        clear hp hti
        simp only []
        go_wp2
        exact bodyPost_ret (v := .tuple #[.agg #[.int .i64 0, .int .i64 1], .int .i64 0]) (by simp [results, Tryz.results67, go_sem, r0, r1]) rfl ⟨by rw [HR.out, HV.out], by go_grown⟩
      | some t =>
        by_cases he : t.s.data.toList = s.data.toList
        · have HV := Lib.hid (val_found hp hti he)
          obtain ⟨hi, het⟩ := List.getElem?_eq_some_iff.1 hti
          obtain ⟨c0, c1, c2⟩ := hT2.out i hi
          rw [het] at c0 c1 c2
          have hd : decide (t.s.data.toList = s.data.toList) = true := by simpa using he
          simp only [hd]
          clear hp hti he het hd
          go_wp2
          exact bodyPost_ret (v := .tuple #[.agg #[.int .i64 t.n, .int .i64 t.d], .int .i64 0]) (by simp [results, Tryz.results67, go_sem, r0, r1]) rfl ⟨by rw [HR.out, HV.out], by go_grown⟩
        · have HV := Lib.hid (val_lost HA.out hp (fun t' h => by rw [hti] at h; cases h; exact he))
          have hd : decide (t.s.data.toList = s.data.toList) = false := by simpa using he
          simp only [hd]
          clear hp hti he hd
          go_wp2
          exact bodyPost_ret (v := .tuple #[.agg #[.int .i64 0, .int .i64 1], .int .i64 0]) (by simp [results, Tryz.results67, go_sem, r0, r1]) rfl ⟨by rw [HR.out, HV.out], by go_grown⟩
end
end Go.Proofs.YtoeednnkadmjpaaGreatDoor

namespace Go.Proofs.YtoeednnkadmjpaaGreatDoor
open Go.RowKit

theorem const_ok {L V : Int} {ts : List Tm} (h : serB L V ts = true) : wordOk L V { data := #[] } = true := by
  have h2 : shapeB L V = true := by unfold serB at h; rw [Bool.and_eq_true] at h; exact h.1
  have h3 := shape_out h2
  simp only [wordOk, Bool.and_eq_true, decide_eq_true_eq]
  exact ⟨by show (0 : Int) ≤ V; omega, rfl⟩

section
variable (L V : Int) (b off cap : Nat) (ts : List Tm) (w : World)
theorem l02Constant_c (hl : ts.length ≤ 1048576) (hb : b < w.heap.size) (ht : TermsIn w b off ts) :
    Calls Tryz.prog 23 #[.agg #[.int .i64 L, .int .i64 V, .slice (some ⟨b, off, none⟩) ts.length cap]] w fun e w' => e = .returned (.agg #[.int .i64 (valL [] ts).1, .int .i64 (valL [] ts).2]) ∧ Below w.heap.size w w' := by
  have HT := Lib.hid ht
  clear ht
  go_enter Tryz.func23, Tryz.ntmps23
  go_wp2_with fail
  refine (l01Value_c L V b off cap ts hl { data := #[] } _ (by simp; omega) (HT.out.below (below2 w _ _) hb)).mono ?_
  rintro e w1 ⟨rfl, hb1⟩
  have hB := hb1
  simp only [World.size_alloc] at hB
  obtain ⟨hc, hf⟩ := bcellB hB
  have r0 : w1.cell? ⟨w.heap.size + 1, 0, none⟩ = some (.int .i64 0) := (hc _ _ (by omega)).trans (by go_simp)
  have r1 : w1.cell? ⟨w.heap.size + 1, 1, none⟩ = some (.int .i64 0) := (hc _ _ (by omega)).trans (by go_simp)
  have hW : Below w.heap.size w w1 := (below2 w _ _).trans (hb1.mono (by simp; omega))
  clear hb1 hB
  go_wp2
  exact bodyPost_ret (v := .agg #[.int .i64 (valL [] ts).1, .int .i64 (valL [] ts).2]) (by simp [results, Tryz.results23, go_sem, r0, r1]) rfl ⟨rfl, by go_grown⟩

theorem iConst_c (hl : ts.length ≤ 1048576) (hs : ∀ i (h : i < ts.length), (ts[i]).s.size ≤ maxLen) (hb : b < w.heap.size) (ht : TermsIn w b off ts) (x y z : Int) (hr : coefR L V ts { data := #[] } = (x, y, z)) :
    Calls Tryz.prog 26 #[.agg #[.int .i64 L, .int .i64 V, .slice (some ⟨b, off, none⟩) ts.length cap]] w fun e w' => e = .returned (.tuple #[.agg #[.int .i64 x, .int .i64 y], .int .i64 z]) ∧ Below w.heap.size w w' := by
  have HT := Lib.hid ht
  have HS := Lib.hid hs
  have HR := Lib.hid hr
  clear ht hs hr
  go_enter Tryz.func26, Tryz.ntmps26
  go_wp2_with fail
  refine (iCoef_c L V b off cap ts { data := #[] } _ hl HS.out (Nat.zero_le _) (by simp; omega) (HT.out.below (below2 w _ _) hb)).mono ?_
  rw [HR.out]
  rintro e w1 ⟨rfl, hb1⟩
  have hB := hb1
  simp only [World.size_alloc] at hB
  obtain ⟨hc, hf⟩ := bcellB hB
  have r0 : w1.cell? ⟨w.heap.size + 1, 0, none⟩ = some (.int .i64 0) := (hc _ _ (by omega)).trans (by go_simp)
  have r1 : w1.cell? ⟨w.heap.size + 1, 1, none⟩ = some (.int .i64 0) := (hc _ _ (by omega)).trans (by go_simp)
  have hW : Below w.heap.size w w1 := (below2 w _ _).trans (hb1.mono (by simp; omega))
  clear hb1 hB
  go_wp2
  exact bodyPost_ret (v := .tuple #[.agg #[.int .i64 x, .int .i64 y], .int .i64 z]) (by simp [results, Tryz.results26, go_sem, r0, r1]) rfl ⟨rfl, by go_grown⟩
end
end Go.Proofs.YtoeednnkadmjpaaGreatDoor
