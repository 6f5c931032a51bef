/-
  Contracts of ScalePath, of the program and of its model: both return the same path and code.
-/
import Derived.Test.YtkgcbbbmiklgaaaMvC
namespace Go.Proofs.Ytkgcbbbmiklgaaa
open Go.RowKit

section
variable (lo hi : Nat) (L : Int) (a : Option Addr) (cap : Nat) (ps : List (List Int)) (k : Int) (hl : ps.length ≤ 1048576) (hs : flat ps ≤ 1048576) (w : World) (hr : PRow lo hi w a ps)
include hl hs hr
theorem sScale_1 (h : pathB L ps = false) : Calls Try.prog 33 #[.int .i64 L, .slice a ps.length cap, .int .i64 k] w (PathPost [] 1 w) := by
  have H := Lib.hid (l04Is_c lo hi L a cap ps hl hs w hr)
  have HB := Lib.hid h
  clear hr h
  go_enter Try.func33, Try.ntmps33
  go_wp2_with (go_at_call 53; refine H.out.mono ?_; rw [HB.out]; rintro e w' ⟨rfl, rfl⟩)
  go_ret2
  exact ⟨none, 0, rfl, Below.refl _ _, .inl rfl⟩
theorem iScale_1 (h : pathB L ps = false) : Calls Try.prog 34 #[.int .i64 L, .slice a ps.length cap, .int .i64 k] w (PathPost [] 1 w) := by
  have H := Lib.hid (iIsPath_c lo hi L a cap ps hl hs w hr)
  have HB := Lib.hid h
  clear hr h
  go_enter Try.func34, Try.ntmps34
  go_wp2_with (go_at_call 27; refine H.out.mono ?_; rw [HB.out]; rintro e w' ⟨rfl, rfl⟩)
  go_ret2
  exact ⟨none, 0, rfl, Below.refl _ _, .inl rfl⟩
theorem sScale_2 (h : pathB L ps = true) (h2 : inB k (-100) 100 = false) : Calls Try.prog 33 #[.int .i64 L, .slice a ps.length cap, .int .i64 k] w (PathPost [] 2 w) := by
  have H := Lib.hid (l04Is_c lo hi L a cap ps hl hs w hr)
  have HB := Lib.hid h
  have HB2 := Lib.hid h2
  clear hr h h2
  go_enter Try.func33, Try.ntmps33
  go_wp2_with (first | (go_at_call 53; refine H.out.mono ?_; rw [HB.out]; rintro e w' ⟨rfl, rfl⟩) | (go_at_call 56; refine (l01In_c _ _ _ _).mono ?_; rw [HB2.out]; rintro e w' ⟨rfl, rfl⟩))
  go_ret2
  exact ⟨none, 0, rfl, Below.refl _ _, .inl rfl⟩
theorem iScale_2 (h : pathB L ps = true) (h2 : inB k (-100) 100 = false) : Calls Try.prog 34 #[.int .i64 L, .slice a ps.length cap, .int .i64 k] w (PathPost [] 2 w) := by
  have H := Lib.hid (iIsPath_c lo hi L a cap ps hl hs w hr)
  have HB := Lib.hid h
  have HB2 := Lib.hid h2
  clear hr h h2
  go_enter Try.func34, Try.ntmps34
  go_wp2_with (first | (go_at_call 27; refine H.out.mono ?_; rw [HB.out]; rintro e w' ⟨rfl, rfl⟩) | (go_at_call 44; refine (isBetween_c _ _ _ _).mono ?_; rw [HB2.out]; rintro e w' ⟨rfl, rfl⟩))
  go_ret2
  exact ⟨none, 0, rfl, Below.refl _ _, .inl rfl⟩
end

/-- what is told of a path that was made: the path, or that it is none -/
def Told (D : Nat) (qs rs : List (List Int)) (c : Int) : Prop := if pathB D qs then rs = qs ∧ c = 0 else rs = [] ∧ c = 3
theorem l04Told_c (lo hi : Nat) (D : Nat) (a : Option Addr) (cap : Nat) (qs rs : List (List Int)) (c : Int) (hl : qs.length ≤ 1048576) (hs : flat qs ≤ 1048576) (w : World) (hr : PRow lo hi w a qs) (hh : hi ≤ w.heap.size) (ht : Told D qs rs c) :
    Calls Try.prog 58 #[.int .i64 D, .slice a qs.length cap] w (PathPost rs c w) := by
  unfold Told at ht
  cases hp : pathB D qs with
  | false =>
    obtain ⟨rfl, rfl⟩ : rs = [] ∧ c = 3 := by rw [hp] at ht; simpa using ht
    exact l04Told_1 lo hi D a cap qs hl hs w hr hp
  | true =>
    obtain ⟨rfl, rfl⟩ : rs = qs ∧ c = 0 := by rwa [hp, if_pos rfl] at ht
    obtain ⟨D', hD', hP⟩ := small_of hp
    have : D = D' := by omega
    subst this
    exact l04Told_2 lo hi D a cap rs hs w hr hh hp hP
theorem flat_same {D : Nat} : ∀ {qs : List (List Int)}, (∀ i (h : i < qs.length), (qs[i]).length = D) → flat qs = D * qs.length
  | [], _ => by simp [flat]
  | z :: r, h => by
    have h0 := h 0 (by simp)
    have hr := flat_same (qs := r) (fun i hi => by have := h (i + 1) (by simp; omega); simpa using this)
    simp only [List.getElem_cons_zero] at h0
    simp only [flat, h0, hr, List.length_cons, Nat.mul_add]
    omega

def scaled (k : Int) (ps : List (List Int)) : List (List Int) := ps.map (timesI k)
theorem scaled_length (k : Int) (ps : List (List Int)) : (scaled k ps).length = ps.length := by simp [scaled]
theorem scaled_flat {D : Nat} {ps : List (List Int)} (h : SmallP D ps) (k : Int) : flat (scaled k ps) ≤ 36 := by
  rw [flat_same (D := D) (fun i hi => by simp only [scaled, List.getElem_map, timesI_length]; exact h.len (by simpa [scaled] using hi)), scaled_length]
  have := Nat.mul_le_mul h.2.2.1 h.1
  omega

set_option maxRecDepth 100000 in
set_option maxHeartbeats 2000000 in
theorem sScale_3 (lo hi : Nat) (D : Nat) (a : Option Addr) (cap : Nat) (ps : List (List Int)) (k : Int) (hs : flat ps ≤ 1048576) (w : World) (hr : PRow lo hi w a ps) (hh : hi ≤ w.heap.size) (h : pathB D ps = true) (hP : SmallP D ps) (h2 : inB k (-100) 100 = true)
    (rs : List (List Int)) (c : Int) (ht : Told D (scaled k ps) rs c) :
    Calls Try.prog 33 #[.int .i64 D, .slice a ps.length cap, .int .i64 k] w (PathPost rs c w) := by
  have hl12 := hP.1
  have hD3 := hP.2.2.1
  have hk := inB_true h2
  have H := Lib.hid (l04Is_c lo hi D a cap ps (by omega) hs w hr)
  have HT := Lib.hid hr
  have HB := Lib.hid h
  have HB2 := Lib.hid h2
  have HP := Lib.hid hP
  have HTold := Lib.hid ht
  clear hr h hP h2 ht
  go_enter Try.func33, Try.ntmps33
  go_wp2_with (first | (go_at_call 53; refine H.out.mono ?_; rw [HB.out]; rintro e w' ⟨rfl, rfl⟩) | (go_at_call 56; refine (l01In_c _ _ _ _).mono ?_; rw [HB2.out]; rintro e w' ⟨rfl, rfl⟩))
  go_loopw [8, 9] (fun vs vi wr => ∃ (j : Nat) (b : Option Addr) (l c : Nat), j ≤ ps.length ∧ vi = .int .i64 j ∧ vs = .slice b l c ∧ l = j ∧ OwnP wr w.heap.size (.slice b l c) ((scaled k ps).take j) ∧ Below w.heap.size w wr) (fun _ vi _ => ps.length - (intOf vi).toNat)
  case atStart => exact ⟨0, _, 0, 0, Nat.zero_le _, rfl, rfl, rfl, OwnP.emptyRow (heap_alloc_new w _) (Nat.le_refl _), below1 _ _⟩
  case round =>
    obtain ⟨j, bv, lv, cv, hj, rfl, rfl, hlv, hO, hB⟩ := hrel
    have HO := Lib.hid hO
    have HL := Lib.hid hlv
    have HSz := Lib.hid hB.size
    have hlv9 : lv ≤ 12 := by omega
    clear hO hlv
    by_cases hlt : j < ps.length
    · obtain ⟨b, off, a', c', rfl, c0, hI⟩ := HT.out.get hB hh hlt
      have HI := Lib.hid hI
      have hzl : (ps[j]).length ≤ 1000 := by rw [HP.out.len hlt]; omega
      have HZ := Lib.hid (HP.out.2.2.2 j hlt).2
      have HTk := Lib.hid (show (scaled k ps).take (j + 1) = (scaled k ps).take j ++ [timesI k ps[j]] from by rw [List.take_succ_eq_append_getElem (by rw [scaled_length]; exact hlt)]; simp [scaled])
      obtain ⟨z, hez⟩ : ∃ z, ps[j] = z := ⟨_, rfl⟩
      rw [hez] at c0 HI hzl HTk
      have HZ2 := Lib.hid (show ∀ i (h : i < z.length), -100 ≤ z[i] ∧ z[i] ≤ 100 from by subst hez; exact HZ.out)
      have HB9 := Lib.hid hB
      have HLz := Lib.hid (timesI_length k z)
      clear hez hB hI HZ
      go_wp2_with fail
      refine (l04Times_c lo hi a' c' z k hzl hk HZ2.out _ HI.out (by have := HSz.out; omega)).mono ?_
      rintro e w1 ⟨a1, c1, rfl, hb1, hN1⟩
      have HB1 := Lib.hid hb1
      have HN1 := Lib.hid hN1
      clear hb1 hN1 c0
      go_wp2_with (at_builtin; refine wpList_append_path rfl _ _ rfl w.heap.size wr w1 bv lv cv ((scaled k ps).take j) (timesI k z) a1 _ c1 rfl (by rw [HL.out, List.length_take, scaled_length]; omega) HO.out HB1.out HN1.out (by first | rfl | exact HLz.out.symm) rfl (by omega) HSz.out ?_)
      intro a9 q9 w9 hO9 hb9 _
      have HO9 := Lib.hid hO9
      have HBx := Lib.hid ((HB9.out.trans (HB1.out.mono HSz.out)).trans hb9)
      clear hO9 hb9
      go_wp2
      go_roundw
      case rel => exact ⟨j + 1, a9, lv + 1, q9, by omega, by go_num, rfl, by rw [HL.out], by rw [HTk.out]; exact HO9.out, HBx.out⟩
      case measure => simp [intOf]; omega
    · obtain rfl : j = ps.length := by omega
      have HTe := Lib.hid (show (scaled k ps).take ps.length = scaled k ps from List.take_of_length_le (by rw [scaled_length]; exact Nat.le_refl _))
      have HLn := Lib.hid (show lv = (scaled k ps).length from by rw [scaled_length]; exact HL.out)
      have hO := HO.out
      rw [HTe.out, HLn.out] at hO
      have HRow := Lib.hid hO.row
      have hfl := scaled_flat HP.out k
      have HTd := Lib.hid (fun W h1 h2 => l04Told_c w.heap.size wr.heap.size D bv cv (scaled k ps) rs c (by rw [scaled_length]; omega) (by omega) W h1 h2 HTold.out)
      rw [← HLn.out] at HTd
      have HBr := Lib.hid hB
      clear hB hO hfl
      go_wp2_with fail
      refine (HTd.out _ HRow.out (Nat.le_refl _)).mono ?_
      rintro e w2 ⟨a2, c2, rfl, hb2, hN2⟩
      have HB2' := Lib.hid (HBr.out.trans (hb2.mono HSz.out))
      have HN2 := Lib.hid (hN2.mono HSz.out (Nat.le_refl _))
      clear hb2 hN2
      go_wp2
      go_ret2
      exact ⟨a2, c2, rfl, HB2'.out, HN2.out⟩

theorem mv_small {D : Nat} {ps : List (List Int)} (h : SmallP D ps) (i : Nat) (hi : i < (ps.map mvOf).length) : Mv.small 100 (ps.map mvOf)[i] := by
  rw [mv_get hi]
  exact ⟨h.get i 0, h.get i 1, h.get i 2⟩
theorem stepOf_mul {D : Nat} (h : D ≤ 3) {z : List Int} (hz : z.length = D) (k : Int) : stepOf D (mulM (mvOf z) k) = timesI k z := by
  apply List.ext_getElem
  · rw [stepOf_length h, timesI_length, hz]
  · intro i h1 h2
    have h3 : i < z.length := by rw [timesI_length] at h2; exact h2
    have hi : i = 0 ∨ i = 1 ∨ i = 2 := by omega
    simp only [stepOf, List.getElem_take, mulM, mvOf, timesI, List.getElem_map]
    rcases hi with rfl | rfl | rfl <;> simp [List.getElem?_eq_getElem h3, Int.mul_comm]
theorem scaled_moves {D : Nat} {ps : List (List Int)} (h : SmallP D ps) (k : Int) : scaled k ps = ((ps.map mvOf).map fun v => mulM v k).map (stepOf D) := by
  apply List.ext_getElem
  · simp [scaled]
  · intro i h1 h2
    have hi : i < ps.length := by simpa [scaled] using h1
    simp only [scaled, List.getElem_map]
    exact (stepOf_mul h.2.2.1 (h.len hi) k).symm

set_option maxRecDepth 100000 in
set_option maxHeartbeats 2000000 in
theorem iScale_3 (lo hi : Nat) (D : Nat) (a : Option Addr) (cap : Nat) (ps : List (List Int)) (k : Int) (hs : flat ps ≤ 1048576) (w : World) (hr : PRow lo hi w a ps) (hh : hi ≤ w.heap.size) (h : pathB D ps = true) (hP : SmallP D ps) (h2 : inB k (-100) 100 = true)
    (rs : List (List Int)) (c : Int) (ht : Told D (scaled k ps) rs c) :
    Calls Try.prog 34 #[.int .i64 D, .slice a ps.length cap, .int .i64 k] w (PathPost rs c w) := by
  have hl12 := hP.1
  have hD1 := hP.2.1
  have hD3 := hP.2.2.1
  have hk := inB_true h2
  have H := Lib.hid (iIsPath_c lo hi D a cap ps (by omega) hs w hr)
  have HT := Lib.hid hr
  have HB := Lib.hid h
  have HB2 := Lib.hid h2
  have HP := Lib.hid hP
  have HTold := Lib.hid ht
  clear hr h hP h2 ht
  go_enter Try.func34, Try.ntmps34
  go_wp2_with (first | (go_at_call 27; refine H.out.mono ?_; rw [HB.out]; rintro e w' ⟨rfl, rfl⟩) | (go_at_call 44; refine (isBetween_c _ _ _ _).mono ?_; rw [HB2.out]; rintro e w' ⟨rfl, rfl⟩) | fail)
  refine (movesOf_c lo hi a cap ps hl12 (fun i hi => by rw [HP.out.len hi]; exact hD3) _ HT.out hh).mono ?_
  rintro e w1 ⟨am, cm, rfl, hb1, hO1⟩
  have HR1 := Lib.hid hO1.at_.2.row
  have HB1 := Lib.hid hb1
  have hM1 := fun W h1 h2 => multiples_c w.heap.size w1.heap.size am cm (ps.map mvOf) k (by simpa using hl12) hk (mv_small HP.out) W h1 h2
  simp only [List.length_map] at hM1
  have HM1 := Lib.hid hM1
  clear hb1 hO1 hM1
  go_wp2_with fail
  refine (HM1.out _ HR1.out (Nat.le_refl _)).mono ?_
  rintro e w2 ⟨an, cn, rfl, hb2, hO2⟩
  have HR2 := Lib.hid hO2.at_.2.row
  have HB2' := Lib.hid (HB1.out.trans (hb2.mono HB1.out.size))
  have hPt := fun W h1 h2 => pathOf_c w1.heap.size w2.heap.size D ⟨hD1, hD3⟩ an cn ((ps.map mvOf).map fun v => mulM v k) (by simp; omega) W h1 h2 (scaled k ps) (scaled_moves HP.out k) c rs HTold.out
  simp only [List.length_map] at hPt
  have HPt := Lib.hid hPt
  clear hb2 hO2 hPt
  go_wp2_with fail
  refine (HPt.out _ HR2.out (Nat.le_refl _)).mono ?_
  rintro e w3 ⟨a3, c3, rfl, hb3, hN3⟩
  have HB3 := Lib.hid (HB2'.out.trans (hb3.mono HB2'.out.size))
  have HN3 := Lib.hid (hN3.mono HB2'.out.size (Nat.le_refl _))
  clear hb3 hN3
  go_wp2
  go_ret2
  exact ⟨a3, c3, rfl, HB3.out, HN3.out⟩
end Go.Proofs.Ytkgcbbbmiklgaaa
