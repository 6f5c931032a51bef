/-
  Contracts of ReversePath, of the program and of its model: both return the same path and code.
-/
import Derived.Test.YtkgcbbbmiklgaaaRevMv
namespace Go.Proofs.Ytkgcbbbmiklgaaa
open Go.RowKit

section
variable (lo hi : Nat) (L : Int) (a : Option Addr) (cap : Nat) (ps : List (List Int)) (hl : ps.length ≤ 1048576) (hs : flat ps ≤ 1048576) (w : World) (hr : PRow lo hi w a ps)
include hl hs hr
theorem sRevP_1 (h : pathB L ps = false) : Calls Try.prog 37 #[.int .i64 L, .slice a ps.length cap] w (PathPost [] 1 w) := by
  have H := Lib.hid (l04Is_c lo hi L a cap ps hl hs w hr)
  have HB := Lib.hid h
  clear hr h
  go_enter Try.func37, Try.ntmps37
  go_wp2_with (go_at_call 53; refine H.out.mono ?_; rw [HB.out]; rintro e w' ⟨rfl, rfl⟩)
  go_ret2
  exact ⟨none, 0, rfl, Below.refl _ _, .inl rfl⟩
theorem iRevP_1 (h : pathB L ps = false) : Calls Try.prog 38 #[.int .i64 L, .slice a ps.length cap] w (PathPost [] 1 w) := by
  have H := Lib.hid (iIsPath_c lo hi L a cap ps hl hs w hr)
  have HB := Lib.hid h
  clear hr h
  go_enter Try.func38, Try.ntmps38
  go_wp2_with (go_at_call 27; refine H.out.mono ?_; rw [HB.out]; rintro e w' ⟨rfl, rfl⟩)
  go_ret2
  exact ⟨none, 0, rfl, Below.refl _ _, .inl rfl⟩
end

def negrev (ps : List (List Int)) : List (List Int) := (scaled (-1) ps).reverse
theorem negrev_length (ps : List (List Int)) : (negrev ps).length = ps.length := by simp [negrev, scaled_length]
theorem negrev_get (ps : List (List Int)) (k j : Nat) (hk : k + j + 1 = ps.length) (h : k < (negrev ps).length) : (negrev ps)[k] = timesI (-1) (ps[j]'(by omega)) := by
  simp only [negrev, List.getElem_reverse, scaled, List.getElem_map, List.length_map]
  congr 2; omega
theorem flat_reverse : ∀ qs : List (List Int), flat qs.reverse = flat qs
  | [] => rfl
  | z :: r => by rw [List.reverse_cons, flat_append, flat_reverse r]; simp [flat]; omega
theorem negrev_path {D : Nat} {ps : List (List Int)} (h : SmallP D ps) : pathB D (negrev ps) = true := by
  refine pathB_good ?_ (by rw [negrev_length]; exact h.1) (fun i hi => ?_)
  · have h1 := h.2.1
    have h3 := h.2.2.1
    exact inB_yes (by omega)
  · have hi' : i < ps.length := by rw [negrev_length] at hi; exact hi
    rw [negrev_get ps i (ps.length - 1 - i) (by omega) hi]
    obtain ⟨q1, q2⟩ := h.2.2.2 (ps.length - 1 - i) (by omega)
    refine stepB_good (by rw [timesI_length, q1]) (fun j hj => ?_)
    have hj' : j < (ps[ps.length - 1 - i]'(by omega)).length := by rw [timesI_length] at hj; exact hj
    have := q2 j hj'
    simp only [timesI, List.getElem_map]
    exact inB_yes (by omega)
theorem negrev_moves {D : Nat} {ps : List (List Int)} (h : SmallP D ps) : negrev ps = (((ps.map mvOf).map fun v => mulM v (-1)).reverse).map (stepOf D) := by
  rw [negrev, scaled_moves h, List.map_reverse]

set_option maxRecDepth 100000 in
set_option maxHeartbeats 2000000 in
theorem sRevP_2 (lo hi : Nat) (D : Nat) (a : Option Addr) (cap : Nat) (ps : List (List Int)) (hs : flat ps ≤ 1048576) (w : World) (hr : PRow lo hi w a ps) (hh : hi ≤ w.heap.size) (h : pathB D ps = true) (hP : SmallP D ps) :
    Calls Try.prog 37 #[.int .i64 D, .slice a ps.length cap] w (PathPost (negrev ps) 0 w) := by
  have hl12 := hP.1
  have H := Lib.hid (l04Is_c lo hi D a cap ps (by omega) hs w hr)
  have HT := Lib.hid hr
  have HB := Lib.hid h
  have HP := Lib.hid hP
  clear hr h hP
  go_enter Try.func37, Try.ntmps37
  go_wp2_with (go_at_call 53; refine H.out.mono ?_; rw [HB.out]; rintro e w' ⟨rfl, rfl⟩)
  go_loopw [6, 7] (fun vs vi wr => ∃ (k : Nat) (q : Int) (b : Option Addr) (l c : Nat), k ≤ ps.length ∧ vi = .int .i64 q ∧ Hid (q = (ps.length : Int) - 1 - k) ∧ vs = .slice b l c ∧ l = k ∧ OwnP wr w.heap.size (.slice b l c) ((negrev ps).take k) ∧ Below w.heap.size w wr) (fun _ vi _ => (intOf vi + 1).toNat)
  case atStart => exact ⟨0, _, _, 0, 0, Nat.zero_le _, rfl, Lib.hid (by simp), rfl, rfl, OwnP.emptyRow (heap_alloc_new w _) (Nat.le_refl _), below1 _ _⟩
  case round =>
    obtain ⟨k, q, bv, lv, cv, hk, rfl, hq, rfl, hlv, hO, hB⟩ := hrel
    have HO := Lib.hid hO
    have HL := Lib.hid hlv
    have HSz := Lib.hid hB.size
    have hlv9 : lv ≤ 12 := by omega
    clear hO hlv
    by_cases hlt : k < ps.length
    · obtain ⟨j, rfl⟩ : ∃ j : Nat, q = j := ⟨q.toNat, by have := hq.out; omega⟩
      have hkj : k + j + 1 = ps.length := by have := hq.out; omega
      have hj : j < ps.length := by omega
      obtain ⟨b, off, a', c', rfl, c0, hI⟩ := HT.out.get hB hh hj
      have HI := Lib.hid hI
      have hzl : (ps[j]).length ≤ 1000 := by rw [HP.out.len hj]; have := HP.out.2.2.1; omega
      have HZ := Lib.hid (HP.out.2.2.2 j hj).2
      have HTk := Lib.hid (show (negrev ps).take (k + 1) = (negrev ps).take k ++ [timesI (-1) ps[j]] from by rw [List.take_succ_eq_append_getElem (by rw [negrev_length]; exact hlt), negrev_get ps k j hkj])
      obtain ⟨z, hez⟩ : ∃ z, ps[j] = z := ⟨_, rfl⟩
      rw [hez] at c0 HI hzl HTk
      have HZ2 := Lib.hid (show ∀ i (h : i < z.length), -100 ≤ z[i] ∧ z[i] ≤ 100 from by subst hez; exact HZ.out)
      have HB9 := Lib.hid hB
      have HLz := Lib.hid (timesI_length (-1) z)
      have HKJ := Lib.hid hkj
      have f0 : (0 : Int) ≤ (j : Int) := by omega
      have f1 : (j : Int) < (ps.length : Int) := by omega
      clear hez hB hI HZ hkj
      go_wp2_with fail
      refine (l04Times_c lo hi a' c' z (-1) hzl (by omega) HZ2.out _ HI.out (by have := HSz.out; omega)).mono ?_
      rintro e w1 ⟨a1, c1, rfl, hb1, hN1⟩
      have HB1 := Lib.hid hb1
      have HN1 := Lib.hid hN1
      clear hb1 hN1 c0
      go_wp2_with (at_builtin; refine wpList_append_path rfl _ _ rfl w.heap.size wr w1 bv lv cv ((negrev ps).take k) (timesI (-1) z) a1 _ c1 rfl (by rw [HL.out, List.length_take, negrev_length]; omega) HO.out HB1.out HN1.out (by first | rfl | exact HLz.out.symm) rfl (by omega) HSz.out ?_)
      intro a9 q9 w9 hO9 hb9 _
      have HO9 := Lib.hid hO9
      have HBx := Lib.hid ((HB9.out.trans (HB1.out.mono HSz.out)).trans hb9)
      clear hO9 hb9
      go_wp2
      go_roundw
      case rel => exact ⟨k + 1, (j : Int) - 1, a9, lv + 1, q9, by omega, rfl, Lib.hid (by have := hq.out; omega), rfl, by rw [HL.out], by rw [HTk.out]; exact HO9.out, HBx.out⟩
      case measure => simp [intOf]
    · obtain rfl : k = ps.length := by omega
      have hq0 : q < 0 := by have := hq.out; omega
      have HTe := Lib.hid (show (negrev ps).take ps.length = negrev ps from List.take_of_length_le (by rw [negrev_length]; exact Nat.le_refl _))
      have HLn := Lib.hid (show lv = (negrev ps).length from by rw [negrev_length]; exact HL.out)
      go_wp2
      go_ret2
      have hO := HO.out
      rw [HTe.out] at hO
      exact ⟨bv, cv, by rw [HLn.out]; rfl, hB, hO.at_.2⟩

set_option maxRecDepth 100000 in
set_option maxHeartbeats 2000000 in
theorem iRevP_2 (lo hi : Nat) (D : Nat) (a : Option Addr) (cap : Nat) (ps : List (List Int)) (hs : flat ps ≤ 1048576) (w : World) (hr : PRow lo hi w a ps) (hh : hi ≤ w.heap.size) (h : pathB D ps = true) (hP : SmallP D ps) :
    Calls Try.prog 38 #[.int .i64 D, .slice a ps.length cap] w (PathPost (negrev ps) 0 w) := by
  have hl12 := hP.1
  have hD1 := hP.2.1
  have hD3 := hP.2.2.1
  have H := Lib.hid (iIsPath_c lo hi D a cap ps (by omega) hs w hr)
  have HT := Lib.hid hr
  have HB := Lib.hid h
  have HP := Lib.hid hP
  clear hr h hP
  go_enter Try.func38, Try.ntmps38
  go_wp2_with (first | (go_at_call 27; refine H.out.mono ?_; rw [HB.out]; rintro e w' ⟨rfl, rfl⟩) | fail)
  refine (movesOf_c lo hi a cap ps hl12 (fun i hi => by rw [HP.out.len hi]; exact hD3) _ HT.out hh).mono ?_
  rintro e w1 ⟨am, cm, rfl, hb1, hO1⟩
  have HR1 := Lib.hid hO1.at_.2.row
  have HB1 := Lib.hid hb1
  have hM1 := fun W h1 h2 => multiples_c w.heap.size w1.heap.size am cm (ps.map mvOf) (-1) (by simpa using hl12) (by omega) (mv_small HP.out) W h1 h2
  simp only [List.length_map] at hM1
  have HM1 := Lib.hid hM1
  clear hb1 hO1 hM1
  go_wp2_with fail
  refine (HM1.out _ HR1.out (Nat.le_refl _)).mono ?_
  rintro e w2 ⟨an, cn, rfl, hb2, hO2⟩
  have HN2 := Lib.hid hO2.at_.2
  have HB2' := Lib.hid (HB1.out.trans (hb2.mono HB1.out.size))
  have HS1 := Lib.hid HB1.out.size
  have hV := fun W h1 => reverse_c w1.heap.size w2.heap.size an cn ((ps.map mvOf).map fun v => mulM v (-1)) (by simp; omega) W h1
  simp only [List.length_map] at hV
  have HV := Lib.hid hV
  clear hb2 hO2 hV
  go_wp2_with fail
  refine (HV.out _ HN2.out).mono ?_
  rintro e w3 ⟨r3, rfl, hG3, hr3, hN3⟩
  have hz23 := hG3.size
  have HR3 := Lib.hid hN3.row
  have HB3 := Lib.hid (HB2'.out.trans (below_of_grown (B := w.heap.size) hG3 (fun g h => by have := (hr3 g h).1; have := HS1.out; omega) HB2'.out.size))
  have hPt := fun W h1 h2 => pathOf_c w1.heap.size w2.heap.size D ⟨hD1, hD3⟩ an cn (((ps.map mvOf).map fun v => mulM v (-1)).reverse) (by simp; omega) W h1 h2 (negrev ps) (negrev_moves HP.out) 0 (negrev ps) (by rw [negrev_path HP.out, if_pos rfl]; exact ⟨rfl, rfl⟩)
  simp only [List.length_reverse, List.length_map] at hPt
  have HPt := Lib.hid hPt
  clear hG3 hr3 hN3 hPt
  go_wp2_with fail
  refine (HPt.out _ HR3.out hz23).mono ?_
  rintro e w4 ⟨a4, c4, rfl, hb4, hN4⟩
  have HB4 := Lib.hid (HB3.out.trans (hb4.mono HB3.out.size))
  have HN4 := Lib.hid (hN4.mono HB3.out.size (Nat.le_refl _))
  clear hb4 hN4
  go_wp2
  go_ret2
  exact ⟨a4, c4, rfl, HB4.out, HN4.out⟩
end Go.Proofs.Ytkgcbbbmiklgaaa
