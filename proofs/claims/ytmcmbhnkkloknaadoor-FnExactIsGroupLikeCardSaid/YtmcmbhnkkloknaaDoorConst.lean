/-
  Contracts of CoefficientOf, of the program and of its model: both return the same three numbers.
  Contracts of ConstantOf, of the program and of its model: both return the same three numbers.
  IsSeries and ConstantOf of the program at a series whose list is handed over as it comes (an empty one may lie nowhere).
-/
import Derived.Test.YtmcmbhnkkloknaaDoorTol
import Derived.Test.YtmcmbhnkkloknaaDoorImpIs
import Derived.Test.YtmcmbhnkkloknaaDoorRes
namespace Go.Proofs.YtmcmbhnkkloknaaDoor
open Go.RowKit

def wordOk (L V : Int) (s : ByteArray) : Bool := decide ((s.size : Int) ≤ V) && wordB L s.data.toList
def coefR (L V : Int) (ts : List Tm) (s : ByteArray) : Int × Int × Int :=
  if serB L V ts then (if wordOk L V s then ((valL s.data.toList ts).1, (valL s.data.toList ts).2, 0) else (0, 0, 2)) else (0, 0, 1)
theorem coef_1 {L V : Int} {ts : List Tm} {s : ByteArray} (h : serB L V ts = false) : coefR L V ts s = (0, 0, 1) := by simp [coefR, h]
theorem coef_2 {L V : Int} {ts : List Tm} {s : ByteArray} (h : serB L V ts = true) (h2 : wordOk L V s = false) : coefR L V ts s = (0, 0, 2) := by simp [coefR, h, h2]
theorem coef_3 {L V : Int} {ts : List Tm} {s : ByteArray} (h : serB L V ts = true) (h2 : wordOk L V s = true) : coefR L V ts s = ((valL s.data.toList ts).1, (valL s.data.toList ts).2, 0) := by simp [coefR, h, h2]

section
variable (L V : Int) (b off cap : Nat) (ts : List Tm) (s : ByteArray) (w : World)

theorem val_found {ts : List Tm} {w0 : List UInt8} {i : Nat} {t : Tm} (hp : Place ts w0 i) (ht : ts[i]? = some t) (he : t.s.data.toList = w0) : valL w0 ts = (t.n, t.d) := by
  obtain ⟨hi, e⟩ := List.getElem?_eq_some_iff.1 ht
  have h := valL_at ts i hi (fun j hj hji => place_before hp j hj hji) (by rw [e]; exact he)
  rw [e] at h; exact h
theorem val_lost {ts : List Tm} {w0 : List UInt8} {i : Nat} (ha : Asc ts) (hp : Place ts w0 i) (h : ∀ t, ts[i]? = some t → t.s.data.toList ≠ w0) : valL w0 ts = (0, 1) :=
  valL_none ts (fun j hj => by
    rcases Nat.lt_trichotomy j i with h1 | h1 | h1
    · exact place_before hp j hj h1
    · subst h1; exact h _ (List.getElem?_eq_getElem hj)
    · exact place_behind ha hp j hj h1)

theorem iCoef_c (hl : ts.length ≤ 1048576) (hs : ∀ i (h : i < ts.length), (ts[i]).s.size ≤ maxLen) (hsz : s.size ≤ maxLen) (hb : b < w.heap.size) (ht : TermsIn w b off ts) :
    Calls Tryd.prog 37 #[.agg #[.int .i64 L, .int .i64 V, .slice (some ⟨b, off, none⟩) ts.length cap], .string s] w fun e w' =>
      e = .returned (.tuple #[.agg #[.int .i64 (coefR L V ts s).1, .int .i64 (coefR L V ts s).2.1], .int .i64 (coefR L V ts s).2.2]) ∧ Below w.heap.size w w' := by
  have HT := Lib.hid ht
  have HS := Lib.hid hs
  clear ht hs
  cases h1 : serB L V ts with
  | false =>
    have HR := Lib.hid (coef_1 (s := s) h1)
    go_enter Tryd.func37, Tryd.ntmps37
    go_wp2_with fail
    refine (iIsSeries_c L V b off cap ts hl HS.out _ (by simp; omega) (HT.out.below (below2 w _ _) hb)).mono ?_
    rintro e w1 ⟨rfl, hb1⟩
    have hB1 := hb1
    simp only [World.size_alloc] at hB1
    obtain ⟨hc, hf⟩ := bcellB hB1
    have r0 : w1.cell? ⟨w.heap.size + 1, 0, none⟩ = some (.int .i64 0) := (hc _ _ (by omega)).trans (by go_simp)
    have r1 : w1.cell? ⟨w.heap.size + 1, 1, none⟩ = some (.int .i64 0) := (hc _ _ (by omega)).trans (by go_simp)
    have hW : Below w.heap.size w w1 := (below2 w _ _).trans (hb1.mono (by simp; omega))
    clear hb1 hB1
    rw [h1]
    go_wp2
    exact bodyPost_ret (v := .tuple #[.agg #[.int .i64 0, .int .i64 0], .int .i64 1]) (by simp [results, Tryd.results37, go_sem, r0, r1]) rfl ⟨by rw [HR.out], by go_grown⟩
  | true =>
    cases h2 : wordOk L V s with
    | false =>
      have HR := Lib.hid (coef_2 h1 h2)
      have H2 : Hid ((decide ((s.size : Int) ≤ V) && wordB L s.data.toList) = false) := Lib.hid h2
      clear h2
      go_enter Tryd.func37, Tryd.ntmps37
      go_wp2_with fail
      refine (iIsSeries_c L V b off cap ts hl HS.out _ (by simp; omega) (HT.out.below (below2 w _ _) hb)).mono ?_
      rintro e w1 ⟨rfl, hb1⟩
      have hB1 := hb1
      simp only [World.size_alloc] at hB1
      obtain ⟨hc, hf⟩ := bcellB hB1
      have r0 : w1.cell? ⟨w.heap.size + 1, 0, none⟩ = some (.int .i64 0) := (hc _ _ (by omega)).trans (by go_simp)
      have r1 : w1.cell? ⟨w.heap.size + 1, 1, none⟩ = some (.int .i64 0) := (hc _ _ (by omega)).trans (by go_simp)
      have hW : Below w.heap.size w w1 := (below2 w _ _).trans (hb1.mono (by simp; omega))
      clear hb1 hB1
      rw [h1]
      go_wp2_with (go_at_call 52; refine (isWord_c _ _ _ hsz _).mono ?_; rw [H2.out]; rintro e w' ⟨rfl, rfl⟩)
      exact bodyPost_ret (v := .tuple #[.agg #[.int .i64 0, .int .i64 0], .int .i64 2]) (by simp [results, Tryd.results37, go_sem, r0, r1]) rfl ⟨by rw [HR.out], by go_grown⟩
    | true =>
      have HR := Lib.hid (coef_3 h1 h2)
      have H2 : Hid ((decide ((s.size : Int) ≤ V) && wordB L s.data.toList) = true) := Lib.hid h2
      have HA := Lib.hid (asc_of_ser h1)
      clear h2
      go_enter Tryd.func37, Tryd.ntmps37
      go_wp2_with fail
      refine (iIsSeries_c L V b off cap ts hl HS.out _ (by simp; omega) (HT.out.below (below2 w _ _) hb)).mono ?_
      rintro e w1 ⟨rfl, hb1⟩
      have hB1 := hb1
      simp only [World.size_alloc] at hB1
      obtain ⟨hc, hf⟩ := bcellB hB1
      have hT1 := Lib.hid ((HT.out.below (below2 w (.cells #[.int .i64 L, .int .i64 V, .slice (some ⟨b, off, none⟩) ts.length cap] 30) (.cells #[.int .i64 0, .int .i64 0] 37)) hb).below hB1 (by omega))
      have hz1 : b < w1.heap.size := by have := hb1.size; simp at this; omega
      clear hb1
      rw [h1]
      go_wp2_with (first | (go_at_call 52; refine (isWord_c _ _ _ hsz _).mono ?_; rw [H2.out]; rintro e w' ⟨rfl, rfl⟩) | fail)
      refine (findTerm_c b off cap ts hl s HA.out _ hz1 hT1.out).mono ?_
      rintro e w2 ⟨i, hp, rfl, hb2⟩
      have hB2 := below_step hB1 hb2 (by simp)
      have hT2 := Lib.hid (hT1.out.below hb2 hz1)
      clear hc hf
      obtain ⟨hc, hf⟩ := bcellB hB2
      have r0 : w2.cell? ⟨w.heap.size + 1, 0, none⟩ = some (.int .i64 0) := (hc _ _ (by omega)).trans (by go_simp)
      have r1 : w2.cell? ⟨w.heap.size + 1, 1, none⟩ = some (.int .i64 0) := (hc _ _ (by omega)).trans (by go_simp)
      have hW : Below w.heap.size w w2 := (below2 w _ _).trans (hB2.mono (by omega))
      clear hb2 hB1 hB2
      cases hti : ts[i]? with
      | none =>
        have HV := Lib.hid (val_lost HA.out hp (fun t h => by rw [hti] at h; cases h))
        clear hp hti
        simp only []
        go_wp2
        exact bodyPost_ret (v := .tuple #[.agg #[.int .i64 0, .int .i64 1], .int .i64 0]) (by simp [results, Tryd.results37, go_sem, r0, r1]) rfl ⟨by rw [HR.out, HV.out], by go_grown⟩
      | some t =>
        by_cases he : t.s.data.toList = s.data.toList
        · have HV := Lib.hid (val_found hp hti he)
          obtain ⟨hi, het⟩ := List.getElem?_eq_some_iff.1 hti
          obtain ⟨c0, c1, c2⟩ := hT2.out i hi
          rw [het] at c0 c1 c2
          have hd : decide (t.s.data.toList = s.data.toList) = true := by simpa using he
          simp only [hd]
          clear hp hti he het hd
          go_wp2
          exact bodyPost_ret (v := .tuple #[.agg #[.int .i64 t.n, .int .i64 t.d], .int .i64 0]) (by simp [results, Tryd.results37, go_sem, r0, r1]) rfl ⟨by rw [HR.out, HV.out], by go_grown⟩
        · have HV := Lib.hid (val_lost HA.out hp (fun t' h => by rw [hti] at h; cases h; exact he))
          have hd : decide (t.s.data.toList = s.data.toList) = false := by simpa using he
          simp only [hd]
          clear hp hti he hd
          go_wp2
          exact bodyPost_ret (v := .tuple #[.agg #[.int .i64 0, .int .i64 1], .int .i64 0]) (by simp [results, Tryd.results37, go_sem, r0, r1]) rfl ⟨by rw [HR.out, HV.out], by go_grown⟩
end
end Go.Proofs.YtmcmbhnkkloknaaDoor

namespace Go.Proofs.YtmcmbhnkkloknaaDoor
open Go.RowKit

theorem const_ok {L V : Int} {ts : List Tm} (h : serB L V ts = true) : wordOk L V { data := #[] } = true := by
  have h2 : shapeB L V = true := by unfold serB at h; rw [Bool.and_eq_true] at h; exact h.1
  have h3 := shape_out h2
  simp only [wordOk, Bool.and_eq_true, decide_eq_true_eq]
  exact ⟨by show (0 : Int) ≤ V; omega, rfl⟩

section
variable (L V : Int) (b off cap : Nat) (ts : List Tm) (w : World)
theorem iConst_c (hl : ts.length ≤ 1048576) (hs : ∀ i (h : i < ts.length), (ts[i]).s.size ≤ maxLen) (hb : b < w.heap.size) (ht : TermsIn w b off ts) (x y z : Int) (hr : coefR L V ts { data := #[] } = (x, y, z)) :
    Calls Tryd.prog 17 #[.agg #[.int .i64 L, .int .i64 V, .slice (some ⟨b, off, none⟩) ts.length cap]] w fun e w' => e = .returned (.tuple #[.agg #[.int .i64 x, .int .i64 y], .int .i64 z]) ∧ Below w.heap.size w w' := by
  have HT := Lib.hid ht
  have HS := Lib.hid hs
  have HR := Lib.hid hr
  clear ht hs hr
  go_enter Tryd.func17, Tryd.ntmps17
  go_wp2_with fail
  refine (iCoef_c L V b off cap ts { data := #[] } _ hl HS.out (Nat.zero_le _) (by simp; omega) (HT.out.below (below2 w _ _) hb)).mono ?_
  rw [HR.out]
  rintro e w1 ⟨rfl, hb1⟩
  have hB := hb1
  simp only [World.size_alloc] at hB
  obtain ⟨hc, hf⟩ := bcellB hB
  have r0 : w1.cell? ⟨w.heap.size + 1, 0, none⟩ = some (.int .i64 0) := (hc _ _ (by omega)).trans (by go_simp)
  have r1 : w1.cell? ⟨w.heap.size + 1, 1, none⟩ = some (.int .i64 0) := (hc _ _ (by omega)).trans (by go_simp)
  have hW : Below w.heap.size w w1 := (below2 w _ _).trans (hb1.mono (by simp; omega))
  clear hb1 hB
  go_wp2
  exact bodyPost_ret (v := .tuple #[.agg #[.int .i64 x, .int .i64 y], .int .i64 z]) (by simp [results, Tryd.results17, go_sem, r0, r1]) rfl ⟨rfl, by go_grown⟩
end
end Go.Proofs.YtmcmbhnkkloknaaDoor

namespace Go.Proofs.YtmcmbhnkkloknaaDoor
open Go.RowKit

set_option maxRecDepth 100000 in
set_option maxHeartbeats 1000000 in
theorem iIs_nil (L V : Int) (a : Option Addr) (cap : Nat) (w : World) :
    Calls Tryd.prog 51 #[.agg #[.int .i64 L, .int .i64 V, .slice a 0 cap]] w fun e w' => e = .returned (.bool (serB L V [])) ∧ Below w.heap.size w w' := by
  have hs : serB L V [] = shapeB L V := by simp [serB]
  rw [hs]
  cases hsh : shapeB L V with
  | false =>
    have HSH := Lib.hid hsh
    clear hsh
    go_enter Tryd.func51, Tryd.ntmps51
    go_wp2_with (go_at_call 60; refine (isShape_c _ _ _).mono ?_; rw [HSH.out]; rintro e w' ⟨rfl, rfl⟩)
    go_ret
    exact ⟨rfl, below1 _ _⟩
  | true =>
    have HSH := Lib.hid hsh
    clear hsh
    go_enter Tryd.func51, Tryd.ntmps51
    go_wp2_with (go_at_call 60; refine (isShape_c _ _ _).mono ?_; rw [HSH.out]; rintro e w' ⟨rfl, rfl⟩)
    go_loopw [14] (fun vi wr => vi = .int .i64 0 ∧ Below w.heap.size w wr) (fun _ _ => 0)
    case atStart => exact ⟨rfl, below1 _ _⟩
    case round =>
      obtain ⟨rfl, hB⟩ := hrel
      go_wp2
      go_ret
      exact ⟨rfl, hB⟩
theorem iIs_row (L V : Int) (a : Option Addr) (cap : Nat) (ts : List Tm) (hl : ts.length ≤ 1048576) (hs : ∀ i (h : i < ts.length), (ts[i]).s.size ≤ maxLen) (w : World) (hr : Row w a ts) :
    Calls Tryd.prog 51 #[.agg #[.int .i64 L, .int .i64 V, .slice a ts.length cap]] w fun e w' => e = .returned (.bool (serB L V ts)) ∧ Below w.heap.size w w' := by
  rcases hr with rfl | ⟨b, off, rfl, hb, ht⟩
  · exact iIs_nil L V a cap w
  · exact iIsSeries_c L V b off cap ts hl hs w hb ht
set_option maxRecDepth 100000 in
set_option maxHeartbeats 1000000 in
theorem find_nil (a : Option Addr) (cap : Nat) (w0 : ByteArray) (w : World) :
    Calls Tryd.prog 53 #[.slice a 0 cap, .string w0] w fun e w' => e = .returned (.tuple #[.int .i64 0, .bool false]) ∧ Below w.heap.size w w' := by
  have hb : ∀ W : World, Calls Tryd.prog 63 #[.slice a 0 cap, .string w0, .func (.func 64) #[] #[]] W fun e w' => e = .returned (.tuple #[.int .i64 0, .bool false]) ∧ Below W.heap.size W w' := fun W => by
    go_enter Tryd.func63, Tryd.ntmps63
    go_wp2
    go_loopw [9, 10] (fun v9 v10 wr => v9 = .int .i64 0 ∧ v10 = .int .i64 0 ∧ W = wr) (fun _ _ _ => 0)
    case atStart => exact ⟨rfl, rfl, rfl⟩
    case round =>
      obtain ⟨rfl, rfl, rfl⟩ := hrel
      go_wp2
      go_ret2
      exact ⟨rfl, Below.refl _ _⟩
  go_enter Tryd.func53, Tryd.ntmps53
  go_wp2_with fail
  refine (hb w).mono ?_
  rintro e w1 ⟨rfl, hB⟩
  go_wp2
  go_ret2
  exact ⟨rfl, hB⟩
set_option maxRecDepth 100000 in
set_option maxHeartbeats 1000000 in
theorem iConst_nil (L V : Int) (hsh : shapeB L V = true) (a : Option Addr) (cap : Nat) (w : World) :
    Calls Tryd.prog 17 #[.agg #[.int .i64 L, .int .i64 V, .slice a 0 cap]] w fun e w' => e = .returned (.tuple #[.agg #[.int .i64 0, .int .i64 1], .int .i64 0]) ∧ Below w.heap.size w w' := by
  have hLV := shape_out hsh
  have H2 : Hid ((decide (((ByteArray.mk #[]).size : Int) ≤ V) && wordB L (ByteArray.mk #[]).data.toList) = true) := Lib.hid (by
    rw [Bool.and_eq_true]
    exact ⟨decide_eq_true (by show ((0 : Nat) : Int) ≤ V; omega), rfl⟩)
  have HI := Lib.hid (show ∀ W : World, Calls Tryd.prog 51 #[.agg #[.int .i64 L, .int .i64 V, .slice a 0 cap]] W fun e w' => e = .returned (.bool true) ∧ Below W.heap.size W w' from fun W => by
    have h := iIs_nil L V a cap W
    have hs : serB L V [] = true := by simp [serB, hsh]
    rw [hs] at h
    exact h)
  have HC : Hid (∀ W : World, Calls Tryd.prog 37 #[.agg #[.int .i64 L, .int .i64 V, .slice a 0 cap], .string ⟨#[]⟩] W fun e w' => e = .returned (.tuple #[.agg #[.int .i64 0, .int .i64 1], .int .i64 0]) ∧ Below W.heap.size W w') := Lib.hid (fun W => by
    clear hLV hsh
    go_enter Tryd.func37, Tryd.ntmps37
    go_wp2_with fail
    refine (HI.out _).mono ?_
    rintro e w1 ⟨rfl, hb1⟩
    have hB1 := hb1
    simp only [World.size_alloc] at hB1
    have HB1 := Lib.hid ((below2 W (.cells #[.int .i64 L, .int .i64 V, .slice a 0 cap] 30) (.cells #[.int .i64 0, .int .i64 0] 37)).trans (hb1.mono (by simp; omega)))
    have hz1 : W.heap.size + 2 ≤ w1.heap.size := by have := hB1.size; simpa using this
    obtain ⟨hc, hf⟩ := bcellB hB1
    have x0 : w1.cell? ⟨W.heap.size, 0, none⟩ = some (.int .i64 L) := (hc _ _ (by omega)).trans (by go_simp)
    have x1 : w1.cell? ⟨W.heap.size, 1, none⟩ = some (.int .i64 V) := (hc _ _ (by omega)).trans (by go_simp)
    have x2 : w1.cell? ⟨W.heap.size, 2, none⟩ = some (.slice a 0 cap) := (hc _ _ (by omega)).trans (by go_simp)
    have r0 : w1.cell? ⟨W.heap.size + 1, 0, none⟩ = some (.int .i64 0) := (hc _ _ (by omega)).trans (by go_simp)
    have r1 : w1.cell? ⟨W.heap.size + 1, 1, none⟩ = some (.int .i64 0) := (hc _ _ (by omega)).trans (by go_simp)
    have z0 : w1.frozen? ⟨W.heap.size + 1, 0, none⟩ = false := (hf _ _ (by omega)).trans (by go_simp)
    have z1 : w1.frozen? ⟨W.heap.size + 1, 1, none⟩ = false := (hf _ _ (by omega)).trans (by go_simp)
    clear hb1 hc hf
    go_wp2_with (first | (go_at_call 52; refine (isWord_c _ _ _ (Nat.zero_le _) _).mono ?_; rw [H2.out]; rintro e w' ⟨rfl, rfl⟩) | fail)
    refine (find_nil a cap _ _).mono ?_
    rintro e w2 ⟨rfl, hb2⟩
    have hz2 := hb2.size
    obtain ⟨hc, hf⟩ := bcellB (hB1.trans (hb2.mono (by omega)))
    have HB2 := Lib.hid (HB1.out.trans (hb2.mono (by omega)))
    clear r0 r1 z0 z1 x0 x1 x2
    have r0 : w2.cell? ⟨W.heap.size + 1, 0, none⟩ = some (.int .i64 0) := (hc _ _ (by omega)).trans (by go_simp)
    have r1 : w2.cell? ⟨W.heap.size + 1, 1, none⟩ = some (.int .i64 0) := (hc _ _ (by omega)).trans (by go_simp)
    have z0 : w2.frozen? ⟨W.heap.size + 1, 0, none⟩ = false := (hf _ _ (by omega)).trans (by go_simp)
    have z1 : w2.frozen? ⟨W.heap.size + 1, 1, none⟩ = false := (hf _ _ (by omega)).trans (by go_simp)
    clear hb2 hc hf hB1
    go_wp2
    refine bodyPost_ret (v := .tuple #[.agg #[.int .i64 0, .int .i64 1], .int .i64 0]) (by simp [results, Tryd.results37, go_sem, r0, r1]) rfl ⟨rfl, ?_⟩
    have hW := HB2.out
    go_grown)
  clear hLV hsh HI H2
  go_enter Tryd.func17, Tryd.ntmps17
  go_wp2_with fail
  refine (HC.out _).mono ?_
  rintro e w1 ⟨rfl, hb1⟩
  have hB := hb1
  simp only [World.size_alloc] at hB
  obtain ⟨hc, hf⟩ := bcellB hB
  have r0 : w1.cell? ⟨w.heap.size + 1, 0, none⟩ = some (.int .i64 0) := (hc _ _ (by omega)).trans (by go_simp)
  have r1 : w1.cell? ⟨w.heap.size + 1, 1, none⟩ = some (.int .i64 0) := (hc _ _ (by omega)).trans (by go_simp)
  have hW : Below w.heap.size w w1 := (below2 w _ _).trans (hb1.mono (by simp; omega))
  clear hb1 hB
  go_wp2
  exact bodyPost_ret (v := .tuple #[.agg #[.int .i64 0, .int .i64 1], .int .i64 0]) (by simp [results, Tryd.results17, go_sem, r0, r1]) rfl ⟨rfl, by go_grown⟩
/-- the constant of a series whose list is handed over as it comes -/
theorem iConst_row (L V : Int) (a : Option Addr) (cap : Nat) (ts : List Tm) (hl : ts.length ≤ 1048576) (hs : ∀ i (h : i < ts.length), (ts[i]).s.size ≤ maxLen) (h1 : serB L V ts = true) (w : World) (hr : Row w a ts) :
    Calls Tryd.prog 17 #[.agg #[.int .i64 L, .int .i64 V, .slice a ts.length cap]] w fun e w' => e = .returned (.tuple #[.agg #[.int .i64 (valL [] ts).1, .int .i64 (valL [] ts).2], .int .i64 0]) ∧ Below w.heap.size w w' := by
  rcases hr with rfl | ⟨b, off, rfl, hb, ht⟩
  · exact iConst_nil L V (by unfold serB at h1; rw [Bool.and_eq_true] at h1; exact h1.1) a cap w
  · exact iConst_c L V b off cap ts w hl hs hb ht _ _ _ (by rw [coef_3 h1 (const_ok h1)])
end Go.Proofs.YtmcmbhnkkloknaaDoor
