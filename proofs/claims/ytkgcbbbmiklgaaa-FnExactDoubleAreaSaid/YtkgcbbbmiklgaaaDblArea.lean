/-
  Contracts of DoubleArea, of the program and of its model: both return the same number and code.
-/
import Derived.Test.YtkgcbbbmiklgaaaEndOf
import Derived.RegionTactic
import Derived.BigRegion
namespace Go.Proofs.Ytkgcbbbmiklgaaa
open Go.RowKit

/-- what a function that returns a number and a code comes to -/
def IntPost (z : Int) (c : Int) (W : World) (e : Ending) (w' : World) : Prop := e = .returned (.tuple #[.int .i64 z, .int .i64 c]) ∧ Below W.heap.size W w'

/-- the double area of the first steps -/
def areaK (ps : List (List Int)) (i m : Nat) : Nat → Int
  | 0 => 0
  | k + 1 => areaK ps i m k + (posK ps k i * (ps.getD k []).getD m 0 - posK ps k m * (ps.getD k []).getD i 0)
theorem areaK_bd {L : Nat} {ps : List (List Int)} (h : SmallP L ps) (i m : Nat) : ∀ k : Nat, k ≤ 12 → -(240000 * (k : Int)) ≤ areaK ps i m k ∧ areaK ps i m k ≤ 240000 * k
  | 0, _ => by simp [areaK]
  | k + 1, hk => by
    have ih := areaK_bd h i m k (by omega)
    have a := mul_small (posK_bd12 h (k := k) (by omega) i) (h.get k m)
    have b := mul_small (posK_bd12 h (k := k) (by omega) m) (h.get k i)
    simp only [areaK]
    omega
theorem areaK_succ (ps : List (List Int)) (i m k : Nat) : areaK ps i m (k + 1) = areaK ps i m k + (posK ps k i * (ps.getD k []).getD m 0 - posK ps k m * (ps.getD k []).getD i 0) := rfl

section
variable (lo hi : Nat) (L : Int) (a : Option Addr) (cap : Nat) (ps : List (List Int)) (i m : Int) (hl : ps.length ≤ 1048576) (hs : flat ps ≤ 1048576) (w : World) (hr : PRow lo hi w a ps)
include hl hs hr
theorem sDbl_1 (h : pathB L ps = false) : Calls Try.prog 39 #[.int .i64 L, .slice a ps.length cap, .int .i64 i, .int .i64 m] w (IntPost 0 1 w) := by
  have H := Lib.hid (l04Is_c lo hi L a cap ps hl hs w hr)
  have HB := Lib.hid h
  clear hr h
  go_enter Try.func39, Try.ntmps39
  go_wp2_with (go_at_call 53; refine H.out.mono ?_; rw [HB.out]; rintro e w' ⟨rfl, rfl⟩)
  go_ret2
  exact ⟨rfl, Below.refl _ _⟩
theorem iDbl_1 (h : pathB L ps = false) : Calls Try.prog 40 #[.int .i64 L, .slice a ps.length cap, .int .i64 i, .int .i64 m] w (IntPost 0 1 w) := by
  have H := Lib.hid (iIsPath_c lo hi L a cap ps hl hs w hr)
  have HB := Lib.hid h
  clear hr h
  go_enter Try.func40, Try.ntmps40
  go_wp2_with (go_at_call 27; refine H.out.mono ?_; rw [HB.out]; rintro e w' ⟨rfl, rfl⟩)
  go_ret2
  exact ⟨rfl, Below.refl _ _⟩
theorem sDbl_2 (h : pathB L ps = true) (hL : 1 ≤ L ∧ L ≤ 3) (h2 : inB i 0 (L - 1) = false) : Calls Try.prog 39 #[.int .i64 L, .slice a ps.length cap, .int .i64 i, .int .i64 m] w (IntPost 0 2 w) := by
  have H := Lib.hid (l04Is_c lo hi L a cap ps hl hs w hr)
  have HB := Lib.hid h
  have HB2 := Lib.hid h2
  clear hr h h2
  go_enter Try.func39, Try.ntmps39
  go_wp2_with (first | (go_at_call 53; refine H.out.mono ?_; rw [HB.out]; rintro e w' ⟨rfl, rfl⟩) | (go_at_call 56; refine (l01In_c _ _ _ _).mono ?_; rw [HB2.out]; rintro e w' ⟨rfl, rfl⟩))
  go_ret2
  exact ⟨rfl, Below.refl _ _⟩
theorem iDbl_2 (h : pathB L ps = true) (hL : 1 ≤ L ∧ L ≤ 3) (h2 : inB i 0 (L - 1) = false) : Calls Try.prog 40 #[.int .i64 L, .slice a ps.length cap, .int .i64 i, .int .i64 m] w (IntPost 0 2 w) := by
  have H := Lib.hid (iIsPath_c lo hi L a cap ps hl hs w hr)
  have HB := Lib.hid h
  have HB2 := Lib.hid h2
  clear hr h h2
  go_enter Try.func40, Try.ntmps40
  go_wp2_with (first | (go_at_call 27; refine H.out.mono ?_; rw [HB.out]; rintro e w' ⟨rfl, rfl⟩) | (go_at_call 44; refine (isBetween_c _ _ _ _).mono ?_; rw [HB2.out]; rintro e w' ⟨rfl, rfl⟩))
  go_ret2
  exact ⟨rfl, Below.refl _ _⟩
theorem sDbl_3 (h : pathB L ps = true) (hL : 1 ≤ L ∧ L ≤ 3) (h2 : inB i 0 (L - 1) = true) (h3 : inB m 0 (L - 1) = false) : Calls Try.prog 39 #[.int .i64 L, .slice a ps.length cap, .int .i64 i, .int .i64 m] w (IntPost 0 2 w) := by
  have H := Lib.hid (l04Is_c lo hi L a cap ps hl hs w hr)
  have HB := Lib.hid h
  have HB2 := Lib.hid h2
  have HB3 := Lib.hid h3
  clear hr h h2 h3
  go_enter Try.func39, Try.ntmps39
  go_wp2_with (first | (go_at_call 53; refine H.out.mono ?_; rw [HB.out]; rintro e w' ⟨rfl, rfl⟩) | (go_at_call 56; refine (l01In_c _ _ _ _).mono ?_; (first | rw [HB2.out] | rw [HB3.out]); rintro e w' ⟨rfl, rfl⟩))
  go_ret2
  exact ⟨rfl, Below.refl _ _⟩
theorem iDbl_3 (h : pathB L ps = true) (hL : 1 ≤ L ∧ L ≤ 3) (h2 : inB i 0 (L - 1) = true) (h3 : inB m 0 (L - 1) = false) : Calls Try.prog 40 #[.int .i64 L, .slice a ps.length cap, .int .i64 i, .int .i64 m] w (IntPost 0 2 w) := by
  have H := Lib.hid (iIsPath_c lo hi L a cap ps hl hs w hr)
  have HB := Lib.hid h
  have HB2 := Lib.hid h2
  have HB3 := Lib.hid h3
  clear hr h h2 h3
  go_enter Try.func40, Try.ntmps40
  go_wp2_with (first | (go_at_call 27; refine H.out.mono ?_; rw [HB.out]; rintro e w' ⟨rfl, rfl⟩) | (go_at_call 44; refine (isBetween_c _ _ _ _).mono ?_; (first | rw [HB2.out] | rw [HB3.out]); rintro e w' ⟨rfl, rfl⟩))
  go_ret2
  exact ⟨rfl, Below.refl _ _⟩
end

set_option maxRecDepth 100000 in
set_option maxHeartbeats 4000000 in
theorem sDbl_4 (lo hi : Nat) (D : Nat) (a : Option Addr) (cap : Nat) (ps : List (List Int)) (i m : Nat) (hs : flat ps ≤ 1048576) (w : World) (hr : PRow lo hi w a ps) (hh : hi ≤ w.heap.size) (h : pathB D ps = true) (hP : SmallP D ps) (h2 : inB i 0 ((D : Int) - 1) = true) (h3 : inB m 0 ((D : Int) - 1) = true) :
    Calls Try.prog 39 #[.int .i64 D, .slice a ps.length cap, .int .i64 i, .int .i64 m] w (IntPost (areaK ps i m ps.length) 0 w) := by
  have hl12 := hP.1
  have hD1 := hP.2.1
  have hD3 := hP.2.2.1
  have hiD : i < D := by have := inB_true h2; omega
  have hmD : m < D := by have := inB_true h3; omega
  have H := Lib.hid (l04Is_c lo hi D a cap ps (by omega) hs w hr)
  have HT := Lib.hid hr
  have HB := Lib.hid h
  have HB2 := Lib.hid h2
  have HB3 := Lib.hid h3
  have HP := Lib.hid hP
  obtain ⟨O, hmk, hmade⟩ := make_ints D (by omega)
  have HM := Lib.hid hmade
  have e0 : (0 : Int) ≤ (D : Int) := by omega
  clear hr h hP hmade h2 h3
  go_enter Try.func39, Try.ntmps39
  go_wp2_with (first | (go_at_call 53; refine H.out.mono ?_; rw [HB.out]; rintro e w' ⟨rfl, rfl⟩) | (go_at_call 56; refine (l01In_c _ _ _ _).mono ?_; (first | rw [HB2.out] | rw [HB3.out]); rintro e w' ⟨rfl, rfl⟩))
  go_region
  clear hmk
  go_wp2
  go_loopw [10, 12] (fun vs vi wr => ∃ k : Nat, k ≤ ps.length ∧ vi = .int .i64 k ∧ vs = .int .i64 (areaK ps i m k) ∧ Below w.heap.size w wr ∧ Made wr w.heap.size D ∧ IntsIn wr w.heap.size 0 (rowKJ ps D k 0)) (fun _ i _ => ps.length - (intOf i).toNat)
  case atStart => exact ⟨0, Nat.zero_le _, rfl, rfl, ((Below.refl _ _).alloc (Nat.le_refl _) _).drew, (HM.out w).1, by rw [rowKJ_zero]; exact (HM.out w).2⟩
  case round =>
    obtain ⟨k, hk, rfl, rfl, hB, hM, hI⟩ := hrel
    have HBk := Lib.hid hB
    have HMk := Lib.hid hM
    have HIk := Lib.hid hI
    have hz := hB.size
    clear hB hM hI
    obtain ⟨wo, rfl⟩ : ∃ wo : World, wo = wr := ⟨_, rfl⟩
    by_cases hlt : k < ps.length
    · obtain ⟨b, off, a', c, rfl, hbz, c0, hI⟩ := HT.out.getB HBk.out hh hlt
      have HI := Lib.hid hI
      have hzl := HP.out.len hlt
      have HG := Lib.hid (fun j => posK_succ ps k j)
      have HGD := Lib.hid (getD_of (d := ([] : List Int)) hlt)
      have HBD := Lib.hid (fun j => posK_bd12 HP.out (k := k) (by omega) j)
      have HBZ := Lib.hid (fun j => HP.out.get k j)
      have HA := Lib.hid (areaK_succ ps i m k)
      have hA0 := areaK_bd HP.out i m k (by omega)
      obtain ⟨A, hAe⟩ : ∃ A, areaK ps i m k = A := ⟨_, rfl⟩
      rw [hAe] at HA hA0
      rw [hAe]
      clear hAe
      obtain ⟨z, hez⟩ : ∃ z, ps[k] = z := ⟨_, rfl⟩
      rw [hez] at c0 HI hzl HGD
      subst hzl
      have HC0 := Lib.hid c0
      have f1 := HIk.out i (by rw [rowKJ_length]; exact hiD)
      have f2 := HIk.out m (by rw [rowKJ_length]; exact hmD)
      rw [rowKJ_get, if_neg (Nat.not_lt_zero _), Nat.zero_add] at f1 f2
      rcases HI.out with h | ⟨b', o', rfl, _, hb2, hI'⟩
      · rw [h] at hiD; simp at hiD
      have g1 := hI' i hiD
      have g2 := hI' m hmD
      have hp1 := HBD.out i
      have hp2 := HBD.out m
      have hq1 := HBZ.out i
      have hq2 := HBZ.out m
      rw [HGD.out, getD_of hiD] at hq1
      rw [HGD.out, getD_of hmD] at hq2
      have hA1 := HA.out
      rw [HGD.out, getD_of hiD, getD_of hmD] at hA1
      have mm1 := mul_small hp1 hq2
      have mm2 := mul_small hp2 hq1
      obtain ⟨x1, hx1⟩ : ∃ x, posK ps k i = x := ⟨_, rfl⟩
      obtain ⟨x2, hx2⟩ : ∃ x, posK ps k m = x := ⟨_, rfl⟩
      obtain ⟨y1, hy1⟩ : ∃ x, z[i] = x := ⟨_, rfl⟩
      obtain ⟨y2, hy2⟩ : ∃ x, z[m] = x := ⟨_, rfl⟩
      rw [hx1] at f1 hp1 hA1 mm1
      rw [hx2] at f2 hp2 hA1 mm2
      rw [hy1] at g1 hq1 hA1 mm2
      rw [hy2] at g2 hq2 hA1 mm1
      have HA1 := Lib.hid hA1
      have e1 : (0 : Int) ≤ (i : Int) := by omega
      have e2 : (0 : Int) ≤ (m : Int) := by omega
      have e3 : (i : Int) < (z.length : Int) := by omega
      have e4 : (m : Int) < (z.length : Int) := by omega
      have e5 : (0 : Int) ≤ (k : Int) := by omega
      have e6 : (k : Int) < (ps.length : Int) := by omega
      have k1 : IntKind.i64.wrap (x1 * y2) = x1 * y2 := IntWalk.i64_in _ (by omega)
      have k2 : IntKind.i64.wrap (x2 * y1) = x2 * y1 := IntWalk.i64_in _ (by omega)
      have k3 : IntKind.i64.wrap (A + x1 * y2) = A + x1 * y2 := IntWalk.i64_in _ (by omega)
      have k4 : IntKind.i64.wrap (A + x1 * y2 - x2 * y1) = A + x1 * y2 - x2 * y1 := IntWalk.i64_in _ (by omega)
      clear hI hx1 hx2 hy1 hy2 hez hI' hA1 HA
      go_wp2
      go_quiet (fail)
      clear k1 k2 k3 k4 mm1 mm2 f1 f2 g1 g2 c0
      go_wp2
      go_loopw [13] (fun vj wr => ∃ j : Nat, j ≤ z.length ∧ vj = .int .i64 j ∧ Below w.heap.size wo wr ∧ Made wr w.heap.size z.length ∧ IntsIn wr w.heap.size 0 (rowKJ ps z.length k j)) (fun i _ => z.length - (intOf i).toNat)
      case atStart => exact ⟨0, Nat.zero_le _, rfl, below_drewN (Below.refl _ _) _, HMk.out, HIk.out⟩
      case round =>
        obtain ⟨j, hj, rfl, hB, hM, hI⟩ := hrel
        have HBj := Lib.hid hB
        have HMj := Lib.hid hM
        have HIj := Lib.hid hI
        have hzj := hB.size
        clear hM hI
        by_cases hltj : j < z.length
        · rcases HI.out with h | ⟨b', o', e', _, hb2, hI'⟩
          · rw [h] at hltj; simp at hltj
          cases e'
          have c0 := (hB.cell (p := ⟨b, off + k, none⟩) (Nat.lt_of_lt_of_le hbz hh)).trans HC0.out
          have c1 := hI'.below hB (by omega) j hltj
          have c2 := HIj.out j (by rw [rowKJ_length]; exact hltj)
          rw [rowKJ_get, if_neg (Nat.lt_irrefl _), Nat.zero_add] at c2
          obtain ⟨-, f2⟩ := HMj.out.2 j hltj
          have hg := HG.out j
          rw [HGD.out, getD_of hltj] at hg
          have hb1 := HBD.out j
          have hb2' := HBZ.out j
          rw [HGD.out, getD_of hltj] at hb2'
          obtain ⟨x, hx⟩ : ∃ x, z[j] = x := ⟨_, rfl⟩
          obtain ⟨y, hy⟩ : ∃ y, posK ps k j = y := ⟨_, rfl⟩
          rw [hx] at c1 hg hb2'
          rw [hy] at c2 hg hb1
          have HSum := Lib.hid hg
          have HSet := Lib.hid (rowKJ_set ps z.length k j hltj)
          have e7 : (0 : Int) ≤ (j : Int) := by omega
          have e8 : (j : Int) < (z.length : Int) := by omega
          have e9 := HMj.out.1
          clear hB hI' hx hy hg
          go_wp2
          go_region
          go_wp2
          go_roundw
          case rel => exact ⟨j + 1, by omega, by go_num, HBj.out.drew.setCell (p := ⟨w.heap.size, j, none⟩) (Nat.le_refl _) _, HMj.out.set _ _, by rw [← HSet.out, HSum.out]; exact IntsIn.upd (w := wr.drew) HIj.out (by rw [rowKJ_length]; exact HMj.out) (by rw [rowKJ_length]; exact hltj) _⟩
          case measure => simp [intOf]; omega
        · obtain rfl : j = z.length := by omega
          have HN := Lib.hid (rowKJ_next ps z.length k)
          have HA2 := Lib.hid (show A + x1 * y2 - x2 * y1 = areaK ps i m (k + 1) from by rw [HA1.out]; omega)
          clear hB
          go_wp2
          go_roundw
          case rel => exact ⟨k + 1, by omega, by go_num, by rw [← HA2.out], HBk.out.trans HBj.out, HMj.out, by rw [← HN.out]; exact HIj.out⟩
          case measure => simp [intOf]; omega
    · obtain rfl : k = ps.length := by omega
      go_wp2
      go_ret2
      exact ⟨rfl, HBk.out⟩

theorem Tri.at_ {w : World} {g : Nat} {f : Nat → Int} (h : Tri w g (f 0) (f 1) (f 2)) {i : Nat} (hi : i < 3) : w.cell? ⟨g, i, none⟩ = some (.int .i64 (f i)) := by
  have : i = 0 ∨ i = 1 ∨ i = 2 := by omega
  rcases this with rfl | rfl | rfl
  · exact h.2.1
  · exact h.2.2.1
  · exact h.2.2.2.1

set_option maxRecDepth 100000 in
set_option maxHeartbeats 4000000 in
theorem iDbl_4 (lo hi : Nat) (D : Nat) (a : Option Addr) (cap : Nat) (ps : List (List Int)) (i m : Nat) (hs : flat ps ≤ 1048576) (w : World) (hr : PRow lo hi w a ps) (hh : hi ≤ w.heap.size) (h : pathB D ps = true) (hP : SmallP D ps) (h2 : inB i 0 ((D : Int) - 1) = true) (h3 : inB m 0 ((D : Int) - 1) = true) :
    Calls Try.prog 40 #[.int .i64 D, .slice a ps.length cap, .int .i64 i, .int .i64 m] w (IntPost (areaK ps i m ps.length) 0 w) := by
  have hl12 := hP.1
  have hD1 := hP.2.1
  have hD3 := hP.2.2.1
  have hiD : i < D := by have := inB_true h2; omega
  have hmD : m < D := by have := inB_true h3; omega
  have H := Lib.hid (iIsPath_c lo hi D a cap ps (by omega) hs w hr)
  have HT := Lib.hid hr
  have HB := Lib.hid h
  have HB2 := Lib.hid h2
  have HB3 := Lib.hid h3
  have HP := Lib.hid hP
  have e0 : (0 : Int) ≤ (D : Int) := by omega
  clear hr h hP h2 h3
  go_enter Try.func40, Try.ntmps40
  go_wp2_with (first | (go_at_call 27; refine H.out.mono ?_; rw [HB.out]; rintro e w' ⟨rfl, rfl⟩) | (go_at_call 44; refine (isBetween_c _ _ _ _).mono ?_; (first | rw [HB2.out] | rw [HB3.out]); rintro e w' ⟨rfl, rfl⟩) | fail)
  refine (movesOf_c lo hi a cap ps hl12 (fun i hi => by rw [HP.out.len hi]; exact hD3) _ (HT.out.below (below1 w _) hh) (by simp; omega)).mono ?_
  rintro e w1 ⟨am, cm, rfl, hb1, hO1⟩
  have HR1 := Lib.hid hO1.at_.2.row
  have HLn := Lib.hid (show (ps.map mvOf).length = ps.length from by simp)
  have hT1 : Tri w1 w.heap.size 0 0 0 := by
    have h : Tri (w.alloc (.cells #[.int .i64 0, .int .i64 0, .int .i64 0] 51)) w.heap.size 0 0 0 := ⟨by simp, by go_simp, by go_simp, by go_simp, by go_simp, by go_simp, by go_simp⟩
    exact h.below hb1 (by simp)
  have HT1 := Lib.hid hT1
  have HB1 := Lib.hid ((below1 w (.cells #[.int .i64 0, .int .i64 0, .int .i64 0] 51)).trans (hb1.mono (by simp)))
  have HSz1 := Lib.hid (show w.heap.size + 1 ≤ w1.heap.size from by have := hb1.size; simpa using this)
  clear hb1 hO1 hT1
  go_wp2
  go_loopw [10, 34] (fun vs vi wr => ∃ k : Nat, k ≤ ps.length ∧ vi = .int .i64 k ∧ vs = .int .i64 (areaK ps i m k) ∧ Outside w.heap.size (w.heap.size + 1) w1 wr ∧ Tri wr w.heap.size (posK ps k 0) (posK ps k 1) (posK ps k 2)) (fun _ i _ => ps.length - (intOf i).toNat)
  case atStart => exact ⟨0, Nat.zero_le _, rfl, rfl, Outside.refl _ _ _, HT1.out⟩
  case round =>
    obtain ⟨k, hk, rfl, rfl, hO, hT⟩ := hrel
    have HO := Lib.hid hO
    have HTr := Lib.hid hT
    clear hO hT
    by_cases hlt : k < ps.length
    · obtain ⟨b, off, rfl, d0, d1, d2⟩ := (HR1.out.outside HO.out (Nat.le_refl _) (.inr (by simp))).get (Below.refl _ _) (Nat.le_refl w1.heap.size) (k := k) (by rw [HLn.out]; exact hlt)
      rw [mv_get] at d0 d1 d2
      have HA := Lib.hid (areaK_succ ps i m k)
      have hA0 := areaK_bd HP.out i m k (by omega)
      obtain ⟨A, hAe⟩ : ∃ A, areaK ps i m k = A := ⟨_, rfl⟩
      rw [hAe] at HA hA0
      rw [hAe]
      clear hAe
      have p1 := HTr.out.at_ (f := posK ps k) (i := i) (by omega)
      have p2 := HTr.out.at_ (f := posK ps k) (i := m) (by omega)
      have hq1 := HP.out.get k i
      have hq2 := HP.out.get k m
      have hpi := posK_bd12 HP.out (k := k) (by omega) i
      have hpm := posK_bd12 HP.out (k := k) (by omega) m
      have mm1 := mul_small hpi hq2
      have mm2 := mul_small hpm hq1
      have hTn : Tri (wr.alloc (.cells #[.int .i64 ((ps.getD k []).getD 0 0), .int .i64 ((ps.getD k []).getD 1 0), .int .i64 ((ps.getD k []).getD 2 0)] 51)) wr.heap.size ((ps.getD k []).getD 0 0) ((ps.getD k []).getD 1 0) ((ps.getD k []).getD 2 0) := ⟨by simp, by go_simp, by go_simp, by go_simp, by go_simp, by go_simp, by go_simp⟩
      have s1 := hTn.at_ (f := fun j => (ps.getD k []).getD j 0) (i := i) (by omega)
      have s2 := hTn.at_ (f := fun j => (ps.getD k []).getD j 0) (i := m) (by omega)
      obtain ⟨hgs, c0, c1, c2, f0, f1, f2⟩ := HTr.out
      have hp0 := posK_bd12 HP.out (k := k) (by omega) 0
      have hp1 := posK_bd12 HP.out (k := k) (by omega) 1
      have hp2 := posK_bd12 HP.out (k := k) (by omega) 2
      have hr0 := HP.out.get k 0
      have hr1 := HP.out.get k 1
      have hr2 := HP.out.get k 2
      have HS0 := Lib.hid (posK_succ ps k 0)
      have HS1 := Lib.hid (posK_succ ps k 1)
      have HS2 := Lib.hid (posK_succ ps k 2)
      obtain ⟨u1, hu1⟩ : ∃ u, posK ps k i = u := ⟨_, rfl⟩
      obtain ⟨u2, hu2⟩ : ∃ u, posK ps k m = u := ⟨_, rfl⟩
      obtain ⟨v1, hv1⟩ : ∃ u, (ps.getD k []).getD i 0 = u := ⟨_, rfl⟩
      obtain ⟨v2, hv2⟩ : ∃ u, (ps.getD k []).getD m 0 = u := ⟨_, rfl⟩
      rw [hu1] at p1 mm1 HA
      rw [hu2] at p2 mm2 HA
      rw [hv1] at s1 mm2 HA
      rw [hv2] at s2 mm1 HA
      clear hTn hu1 hu2 hv1 hv2 hq1 hq2 hpi hpm
      generalize (ps.getD k []).getD 0 0 = y0 at d0 hr0 HS0 s1 s2
      generalize (ps.getD k []).getD 1 0 = y1 at d1 hr1 HS1 s1 s2
      generalize (ps.getD k []).getD 2 0 = y2 at d2 hr2 HS2 s1 s2
      generalize posK ps k 0 = x0 at c0 hp0 HS0 HTr
      generalize posK ps k 1 = x1 at c1 hp1 HS1 HTr
      generalize posK ps k 2 = x2 at c2 hp2 HS2 HTr
      have hgw : w.heap.size < wr.heap.size := hgs
      have HSs := Lib.hid (And.intro s1 s2)
      have HPs := Lib.hid (And.intro p1 p2)
      have HCs := Lib.hid (And.intro c0 (And.intro c1 c2))
      have hj1 : (0 : Int) ≤ (i : Int) := by omega
      have hj2 : (0 : Int) ≤ (m : Int) := by omega
      have hj3 : (i : Int) < 3 := by omega
      have hj4 : (m : Int) < 3 := by omega
      have k1 : IntKind.i64.wrap (u1 * v2) = u1 * v2 := IntWalk.i64_in _ (by omega)
      have k2 : IntKind.i64.wrap (u2 * v1) = u2 * v1 := IntWalk.i64_in _ (by omega)
      have k3 : IntKind.i64.wrap (u1 * v2 - u2 * v1) = u1 * v2 - u2 * v1 := IntWalk.i64_in _ (by omega)
      have k4 : IntKind.i64.wrap (A + (u1 * v2 - u2 * v1)) = A + (u1 * v2 - u2 * v1) := IntWalk.i64_in _ (by omega)
      clear c0 c1 c2 f0 f1 f2
      go_wp2
      go_quiet (fail)
      clear k1 k2 k3 k4 mm1 mm2 p1 p2 s1 s2
      obtain ⟨c0, c1, c2⟩ := HCs.out
      go_wp2_with fail
      refine (plus_c x0 x1 x2 y0 y1 y2 (by omega) (by omega) (by omega) (by omega) (by omega) (by omega) _).mono ?_
      rintro e w2 ⟨rfl, hb2⟩
      have hbw := (below_drewN (below1 wr (.cells #[.int .i64 y0, .int .i64 y1, .int .i64 y2] 51)) _).trans (hb2.mono (show wr.heap.size ≤ (wr.alloc (.cells #[.int .i64 y0, .int .i64 y1, .int .i64 y2] 51)).heap.size by simp))
      have HT2 := Lib.hid (HTr.out.below hbw hgw)
      have HO2 := Lib.hid (HO.out.step hbw)
      have HA2 := Lib.hid (show A + (u1 * v2 - u2 * v1) = areaK ps i m (k + 1) from HA.out.symm)
      clear hb2 hbw c0 c1 c2 d0 d1 d2 HTr HO
      obtain ⟨hg2, c0, c1, c2, f0, f1, f2⟩ := HT2.out
      go_wp2
      go_roundw
      case rel => exact ⟨k + 1, by omega, by go_num, by rw [← HA2.out], ((HO2.out.setCell (p := ⟨w.heap.size, 0, none⟩) (Nat.le_refl _) (Nat.lt_succ_self _) _).setCell (p := ⟨w.heap.size, 1, none⟩) (Nat.le_refl _) (Nat.lt_succ_self _) _).setCell (p := ⟨w.heap.size, 2, none⟩) (Nat.le_refl _) (Nat.lt_succ_self _) _, by rw [HS0.out, HS1.out, HS2.out]; exact HT2.out.set _ _ _⟩
      case measure => simp [intOf]; omega
    · obtain rfl : k = ps.length := by omega
      have HBr := Lib.hid (HB1.out.trans (HO.out.below (Nat.le_refl _) (by have := HSz1.out; omega)))
      go_wp2
      go_ret2
      exact ⟨rfl, HBr.out⟩
end Go.Proofs.Ytkgcbbbmiklgaaa
