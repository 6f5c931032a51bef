/-
  Matrices of fractions in the laws: compared, marked, told.
-/
import Derived.Test.YtknigggjnjkhbaaFmM
namespace Go.Proofs.Ytknigggjnjkhbaa
open Go.RowKit
set_option linter.unusedVariables false
set_option linter.unusedSimpArgs false

/-- a matrix of l rows in memory, or no row -/
def NewG (lo hi : Nat) (w : World) (a : Option Addr) (l : Nat) (F : QF) : Prop := l = 0 ∨ ∃ Y : Lay, a = some ⟨Y.h, 0, none⟩ ∧ FM w lo hi l Y F
theorem NewG.below {lo hi l B : Nat} {w w' : World} {a : Option Addr} {F : QF} (h : NewG lo hi w a l F) (hb : Below B w w') (hh : hi ≤ B) : NewG lo hi w' a l F := by
  rcases h with h | ⟨Y, e, M⟩
  · exact .inl h
  · exact .inr ⟨Y, e, M.below hb hh⟩
theorem FM.aside {w w' : World} {lo hi n l h' : Nat} {Y : Lay} {F : QF} (M : FM w lo hi n Y F) (hg : Outside l h' w w') (ho : hi ≤ l ∨ h' ≤ lo) : FM w' lo hi n Y F := by
  obtain ⟨h1, h2, h3, h4, h5, h6⟩ := M
  refine ⟨h1, h2, Nat.le_trans h3 hg.size, h4, fun i hi' => ?_, fun i j hi' hj => ?_⟩
  · obtain ⟨a, b, c⟩ := h5 i hi'
    exact ⟨a, b, (hg.cell (by omega) (by omega)).trans c⟩
  · obtain ⟨a2, b2, _⟩ := h5 i hi'
    obtain ⟨a, b, c, d⟩ := h6 i j hi' hj
    exact ⟨(hg.cell (by omega) (by omega)).trans a, (hg.cell (by omega) (by omega)).trans b, (hg.frozen (by omega) (by omega)).trans c, (hg.frozen (by omega) (by omega)).trans d⟩
theorem NewG.aside {lo hi l m h' : Nat} {w w' : World} {a : Option Addr} {F : QF} (h : NewG lo hi w a l F) (hg : Outside m h' w w') (ho : hi ≤ m ∨ h' ≤ lo) : NewG lo hi w' a l F := by
  rcases h with h | ⟨Y, e, M⟩
  · exact .inl h
  · exact .inr ⟨Y, e, M.aside hg ho⟩
theorem FM.congr {w : World} {lo hi n : Nat} {Y : Lay} {F G : QF} (M : FM w lo hi n Y F) (h : ∀ i j, i < n → j < n → G i j = F i j) : FM w lo hi n Y G :=
  ⟨M.1, M.2.1, M.2.2.1, M.2.2.2.1, M.2.2.2.2.1, fun i j hi hj => by rw [h i j hi hj]; exact M.2.2.2.2.2 i j hi hj⟩

set_option maxRecDepth 100000 in
set_option maxHeartbeats 4000000 in
theorem eqRowQ_c (lo1 hi1 lo2 hi2 n : Nat) (hn : n ≤ 6) (Y1 Y2 : Lay) (F : QF) (i : Nat) (hi' : i < n) (w : World) (M1 : FM w lo1 hi1 n Y1 F) (M2 : FM w lo2 hi2 n Y2 F) :
    Calls Try.prog 34 #[.slice (some ⟨Y1.b i, Y1.o i, none⟩) n (Y1.c i), .slice (some ⟨Y2.b i, Y2.o i, none⟩) n (Y2.c i)] w fun e w' => e = .returned (.bool true) ∧ Below w.heap.size w w' := by
  have H1 := Lib.hid M1
  have H2 := Lib.hid M2
  have hb1 : Y1.b i < w.heap.size := Nat.lt_of_lt_of_le (M1.2.2.2.2.1 i hi').2.1 M1.2.2.1
  have hb2 : Y2.b i < w.heap.size := Nat.lt_of_lt_of_le (M2.2.2.2.2.1 i hi').2.1 M2.2.2.1
  clear M1 M2
  have hn6 : (n : Int) ≤ 6 := by omega
  go_enter Try.func34, Try.ntmps34
  go_wp2
  go_loopw [5] (fun vj wr => ∃ j : Nat, j ≤ n ∧ vj = .int .i64 j ∧ Below w.heap.size w wr) (fun vj _ => n - (intOf vj).toNat)
  case atStart => exact ⟨0, Nat.zero_le _, rfl, Below.refl _ _⟩
  case round =>
    obtain ⟨j, hj, rfl, hB⟩ := hrel
    have HB := Lib.hid hB
    have hz := hB.size
    by_cases hlt : j < n
    · obtain ⟨c0, c1, _, _⟩ := (H1.out.below hB H1.out.2.2.1).2.2.2.2.2 i j hi' hlt
      obtain ⟨d0, d1, _, _⟩ := (H2.out.below hB H2.out.2.2.1).2.2.2.2.2 i j hi' hlt
      obtain ⟨x, y, hxy⟩ : ∃ x y, F i j = (x, y) := ⟨_, _, rfl⟩
      rw [hxy] at c0 c1 d0 d1
      simp only at c0 c1 d0 d1
      have hjI : (j : Int) < (n : Int) := by omega
      clear hxy hB
      go_upto_region 6 with fail
      go_cut [26] (fun s26 wc => s26 = .bool false ∧ Below wr.heap.size wr wc)
      case first =>
        go_region_with (go_at_call 20; refine (eqFraction_same x y wr.drew).mono ?_; rintro e w1 ⟨rfl, hb1⟩)
        all_goals (go_wp2_with fail; go_meet)
        all_goals exact ⟨rfl, ⟨hb1.os, hb1.tape, hb1.output, hb1.size, hb1.block⟩⟩
      case rest =>
        obtain ⟨rfl, hBc⟩ := hcut
        have HB1 := Lib.hid (HB.out.trans (hBc.mono hz))
        clear c0 c1 d0 d1 hBc
        go_wp2
        go_roundw
        case rel => exact ⟨j + 1, by omega, by go_num, HB1.out⟩
        case measure => simp [intOf]; omega
    · go_wp2
      go_ret
      exact ⟨rfl, HB.out⟩

set_option maxRecDepth 100000 in
set_option maxHeartbeats 4000000 in
theorem eqG_c (lo1 hi1 lo2 hi2 l : Nat) (hl : l ≤ 6) (a1 a2 : Option Addr) (c1 c2 : Nat) (F : QF) (w : World) (M1 : NewG lo1 hi1 w a1 l F) (M2 : NewG lo2 hi2 w a2 l F) :
    Calls Try.prog 11 #[.slice a1 l c1, .slice a2 l c2] w fun e w' => e = .returned (.bool true) ∧ Below w.heap.size w w' := by
  have H1 := Lib.hid M1
  have H2 := Lib.hid M2
  clear M1 M2
  have hn6 : (l : Int) ≤ 6 := by omega
  go_enter Try.func11, Try.ntmps11
  go_wp2
  go_loopw [5] (fun vi wr => ∃ i : Nat, i ≤ l ∧ vi = .int .i64 i ∧ Below w.heap.size w wr) (fun vi _ => l - (intOf vi).toNat)
  case atStart => exact ⟨0, Nat.zero_le _, rfl, Below.refl _ _⟩
  case round =>
    obtain ⟨i, hi, rfl, hB⟩ := hrel
    have HB := Lib.hid hB
    have hz := hB.size
    by_cases hlt : i < l
    · rcases H1.out with h | ⟨Y1, rfl, N1⟩
      · omega
      rcases H2.out with h | ⟨Y2, rfl, N2⟩
      · omega
      have HN1 := Lib.hid (N1.below hB N1.2.2.1)
      have HN2 := Lib.hid (N2.below hB N2.2.2.1)
      have c0 := (HN1.out.2.2.2.2.1 i hlt).2.2
      have d0 := (HN2.out.2.2.2.2.1 i hlt).2.2
      have HC := Lib.hid (fun W (hW : Below wr.heap.size wr W) => eqRowQ_c lo1 hi1 lo2 hi2 l hl Y1 Y2 F i hlt W (HN1.out.next hW) (HN2.out.next hW))
      have hiI : (i : Int) < (l : Int) := by omega
      clear N1 N2 hB
      go_upto_region 6 with fail
      go_cut [26] (fun s26 wc => s26 = .bool false ∧ Below wr.heap.size wr wc)
      case first =>
        go_region_with (go_at_call 34; refine (HC.out wr.drew (Below.refl _ _).drew).mono ?_; rintro e w1 ⟨rfl, hb1⟩)
        all_goals (go_wp2_with fail; go_meet)
        all_goals exact ⟨rfl, ⟨hb1.os, hb1.tape, hb1.output, hb1.size, hb1.block⟩⟩
      case rest =>
        obtain ⟨rfl, hBc⟩ := hcut
        have HB1 := Lib.hid (HB.out.trans (hBc.mono hz))
        clear c0 d0 hBc
        go_wp2
        go_roundw
        case rel => exact ⟨i + 1, by omega, by go_num, HB1.out⟩
        case measure => simp [intOf]; omega
    · go_wp2
      go_ret
      exact ⟨rfl, HB.out⟩

/-- what a row becomes when it is marked -/
def rowMk (k : Int) (b : Nat) : Int × Int := (k + 2 * b, k + 2 * b + 1)
/-- what a matrix of l rows becomes when it is marked -/
def markQ (l : Nat) (k : Int) : QF := fun a b => rowMk (k + 2 * ((a * l : Nat) : Int)) b

set_option maxRecDepth 100000 in
set_option maxHeartbeats 4000000 in
theorem markRowQ_c (lo hi n : Nat) (hn : n ≤ 6) (Y : Lay) (F : QF) (i : Nat) (hi' : i < n) (k : Int) (hk : 0 < k ∧ k ≤ 10000000) (w : World) (M : FM w lo hi n Y F) :
    Calls Try.prog 39 #[.slice (some ⟨Y.b i, Y.o i, none⟩) n (Y.c i), .int .i64 k] w fun e w' => ∃ G, e = .returned (.int .i64 (k + 2 * n)) ∧ Outside lo hi w w' ∧ FM w' lo hi n Y G ∧ (∀ b, b < n → G i b = rowMk k b) ∧ ∀ a b, a ≠ i → G a b = F a b := by
  have HM := Lib.hid M
  clear M
  have hn6 : (n : Int) ≤ 6 := by omega
  go_enter Try.func39, Try.ntmps39
  go_wp2
  go_loopw [1, 5] (fun vk vj wr => ∃ (j : Nat) (G : QF), j ≤ n ∧ vj = .int .i64 j ∧ vk = .int .i64 (k + 2 * j) ∧ Outside lo hi w wr ∧ FM wr lo hi n Y G ∧ (∀ b, b < j → G i b = rowMk k b) ∧ ∀ a b, a ≠ i → G a b = F a b) (fun _ vj _ => n - (intOf vj).toNat)
  case atStart => exact ⟨0, F, Nat.zero_le _, rfl, by simp, Outside.refl _ _ _, HM.out, fun b hb => absurd hb (Nat.not_lt_zero _), fun _ _ _ => rfl⟩
  case round =>
    obtain ⟨j, G, hj, rfl, rfl, hOut, hFM, hin, hout⟩ := hrel
    have HOut := Lib.hid hOut
    have HFM := Lib.hid hFM
    have HIn := Lib.hid hin
    have HOth := Lib.hid hout
    clear hOut hFM hin hout
    by_cases hlt : j < n
    · have hjI : (j : Int) < (n : Int) := by omega
      obtain ⟨c0, c1, f0, f1⟩ := HFM.out.2.2.2.2.2 i j hi' hlt
      have HFn := Lib.hid (HFM.out.set hi' hlt (k + 2 * j) (k + 2 * j + 1))
      have HOn := Lib.hid (HOut.out.trans ((HFM.out.outside hi' (Y.o i + j * 2) (.int .i64 (k + 2 * j))).trans (FM.outside (HFM.out.set1 hi' hlt (k + 2 * j)) hi' (Y.o i + j * 2 + 1) (.int .i64 (k + 2 * j + 1)))))
      go_wp2
      go_roundw
      case rel =>
        refine ⟨j + 1, _, by omega, by go_num, by congr 1; omega, HOn.out, HFn.out, fun b hb => ?_, fun a b ha => ?_⟩
        · by_cases e : b = j
          · subst e; exact setQ_same _ _ _ _
          · rw [setQ_other _ _ (fun h => e h.2)]; exact HIn.out b (by omega)
        · rw [setQ_other _ _ (fun h => ha h.1)]; exact HOth.out a b ha
      case measure => simp [intOf]; omega
    · obtain rfl : j = n := by omega
      go_wp2
      go_ret
      exact ⟨G, rfl, HOut.out, HFM.out, HIn.out, HOth.out⟩

/-- what marking comes to: nothing outside of the bounds has changed -/
def MarkGR (lo hi : Nat) (a : Option Addr) (l : Nat) (F : QF) (k' : Int) (W : World) (e : Ending) (w' : World) : Prop :=
  e = .returned (.int .i64 k') ∧ Outside lo hi W w' ∧ NewG lo hi w' a l F
set_option maxRecDepth 100000 in
set_option maxHeartbeats 4000000 in
theorem markG_c (lo hi l : Nat) (hl : l ≤ 6) (a : Option Addr) (c : Nat) (F : QF) (k : Int) (hk : 0 < k ∧ k ≤ 1000000) (w : World) (M : NewG lo hi w a l F) :
    Calls Try.prog 16 #[.slice a l c, .int .i64 k] w (MarkGR lo hi a l (markQ l k) (k + 2 * ((l * l : Nat) : Int)) w) := by
  have HM := Lib.hid M
  clear M
  have hn6 : (l : Int) ≤ 6 := by omega
  have hll : l * l ≤ 36 := Nat.mul_le_mul hl hl
  have HLl := Lib.hid hll
  clear hll
  go_enter Try.func16, Try.ntmps16
  go_wp2
  go_loopw [1, 5] (fun vk vi wr => ∃ (i m : Nat) (G : QF), i ≤ l ∧ Hid (m = i * l) ∧ vi = .int .i64 i ∧ vk = .int .i64 (k + 2 * m) ∧ Outside lo hi w wr ∧ NewG lo hi wr a l G ∧ ∀ p b, p < i → b < l → G p b = markQ l k p b) (fun _ vi _ => l - (intOf vi).toNat)
  case atStart => exact ⟨0, 0, F, Nat.zero_le _, Lib.hid (by simp), rfl, by simp, Outside.refl _ _ _, HM.out, fun p b hp => absurd hp (Nat.not_lt_zero _)⟩
  case round =>
    obtain ⟨i, m, G, hi', hm, rfl, rfl, hOut, hN, hin⟩ := hrel
    have HOut := Lib.hid hOut
    have HN := Lib.hid hN
    have HIn := Lib.hid hin
    clear hOut hN hin
    by_cases hlt : i < l
    · rcases HN.out with h | ⟨Y, rfl, N⟩
      · omega
      have hfit := row_fits (n := l) hlt
      have hm36 : m ≤ 36 := by have := hm.out; have := HLl.out; omega
      have c0 := (N.2.2.2.2.1 i hlt).2.2
      have HC := Lib.hid (markRowQ_c lo hi l hl Y G i hlt (k + 2 * m) (by omega) wr N)
      have hiI : (i : Int) < (l : Int) := by omega
      clear N hfit
      go_wp2_with fail
      refine HC.out.mono ?_
      rintro e w1 ⟨G2, rfl, hO2, hF2, hi2, ho2⟩
      have HO2 := Lib.hid (HOut.out.trans hO2)
      have HF2 := Lib.hid hF2
      have HI2 := Lib.hid hi2
      have HT2 := Lib.hid ho2
      clear hO2 hF2 hi2 ho2 c0
      go_wp2
      go_roundw
      case rel =>
        refine ⟨i + 1, m + l, G2, by omega, Lib.hid (by rw [hm.out, Nat.add_mul, Nat.one_mul]), by go_num, by congr 1; omega, HO2.out, .inr ⟨Y, rfl, HF2.out⟩, fun p b hp hb => ?_⟩
        by_cases e : p = i
        · subst e
          rw [HI2.out b hb]
          unfold markQ
          rw [hm.out]
        · rw [HT2.out p b e]
          exact HIn.out p b (by omega) hb
      case measure => simp [intOf]; omega
    · obtain rfl : i = l := by omega
      go_wp2
      go_ret
      refine ⟨by rw [hm.out]; rfl, HOut.out, ?_⟩
      rcases HN.out with h | ⟨Y, e, N⟩
      · exact .inl h
      · exact .inr ⟨Y, e, N.congr fun p b hp hb => (HIn.out p b hp hb).symm⟩

set_option maxRecDepth 100000 in
set_option maxHeartbeats 4000000 in
theorem heldRowQ_c (lo hi n : Nat) (hn : n ≤ 6) (Y : Lay) (F : QF) (i : Nat) (hi' : i < n) (k : Int) (hk : 0 < k ∧ k ≤ 10000000) (hF : ∀ b, b < n → F i b = rowMk k b) (w : World) (M : FM w lo hi n Y F) :
    Calls Try.prog 40 #[.slice (some ⟨Y.b i, Y.o i, none⟩) n (Y.c i), .int .i64 k] w fun e w' => e = .returned (.int .i64 (k + 2 * n)) ∧ Below w.heap.size w w' := by
  have HM := Lib.hid M
  have HF := Lib.hid hF
  clear M hF
  have hn6 : (n : Int) ≤ 6 := by omega
  go_enter Try.func40, Try.ntmps40
  go_wp2
  go_loopw [1, 5] (fun vk vj wr => ∃ j : Nat, j ≤ n ∧ vj = .int .i64 j ∧ vk = .int .i64 (k + 2 * j) ∧ wr = w) (fun _ vj _ => n - (intOf vj).toNat)
  case atStart => exact ⟨0, Nat.zero_le _, rfl, by simp, rfl⟩
  case round =>
    obtain ⟨j, hj, rfl, rfl, rfl⟩ := hrel
    by_cases hlt : j < n
    · have hjI : (j : Int) < (n : Int) := by omega
      obtain ⟨c0, c1, _, _⟩ := HM.out.2.2.2.2.2 i j hi' hlt
      rw [HF.out j hlt] at c0 c1
      simp only [rowMk] at c0 c1
      go_wp2
      go_roundw
      case rel => exact ⟨j + 1, by omega, by go_num, by congr 1; omega, trivial⟩
      case measure => simp [intOf]; omega
    · obtain rfl : j = n := by omega
      go_wp2
      go_ret
      exact ⟨rfl, Below.refl _ _⟩

set_option maxRecDepth 100000 in
set_option maxHeartbeats 4000000 in
theorem heldG_c (lo hi l : Nat) (hl : l ≤ 6) (a : Option Addr) (c : Nat) (k : Int) (hk : 0 < k ∧ k ≤ 1000000) (w : World) (M : NewG lo hi w a l (markQ l k)) :
    Calls Try.prog 17 #[.slice a l c, .int .i64 k] w fun e w' => e = .returned (.int .i64 (k + 2 * ((l * l : Nat) : Int))) ∧ Below w.heap.size w w' := by
  have HM := Lib.hid M
  clear M
  have hn6 : (l : Int) ≤ 6 := by omega
  have hll : l * l ≤ 36 := Nat.mul_le_mul hl hl
  have HLl := Lib.hid hll
  clear hll
  go_enter Try.func17, Try.ntmps17
  go_wp2
  go_loopw [1, 5] (fun vk vi wr => ∃ (i m : Nat), i ≤ l ∧ Hid (m = i * l) ∧ vi = .int .i64 i ∧ vk = .int .i64 (k + 2 * m) ∧ Below w.heap.size w wr) (fun _ vi _ => l - (intOf vi).toNat)
  case atStart => exact ⟨0, 0, Nat.zero_le _, Lib.hid (by simp), rfl, by simp, Below.refl _ _⟩
  case round =>
    obtain ⟨i, m, hi', hm, rfl, rfl, hB⟩ := hrel
    have HB := Lib.hid hB
    have hz := hB.size
    by_cases hlt : i < l
    · rcases HM.out with h | ⟨Y, rfl, N0⟩
      · omega
      have N := N0.below hB N0.2.2.1
      have hfit := row_fits (n := l) hlt
      have hm36 : m ≤ 36 := by have := hm.out; have := HLl.out; omega
      have c0 := (N.2.2.2.2.1 i hlt).2.2
      have HC := Lib.hid (heldRowQ_c lo hi l hl Y (markQ l k) i hlt (k + 2 * m) (by omega) (fun b _ => by unfold markQ; rw [hm.out]) wr N)
      have hiI : (i : Int) < (l : Int) := by omega
      clear N N0 hfit hB
      go_wp2_with fail
      refine HC.out.mono ?_
      rintro e w1 ⟨rfl, hb1⟩
      have HB1 := Lib.hid (HB.out.trans (hb1.mono hz))
      clear hb1 c0
      go_wp2
      go_roundw
      case rel => exact ⟨i + 1, m + l, by omega, Lib.hid (by rw [hm.out, Nat.add_mul, Nat.one_mul]), by go_num, by congr 1; omega, HB1.out⟩
      case measure => simp [intOf]; omega
    · obtain rfl : i = l := by omega
      go_wp2
      go_ret
      exact ⟨by rw [hm.out]; rfl, HB.out⟩
end Go.Proofs.Ytknigggjnjkhbaa
