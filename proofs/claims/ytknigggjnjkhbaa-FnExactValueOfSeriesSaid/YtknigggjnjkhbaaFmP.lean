/-
  The program's addMultipleOfRows and ValueOfSeries, at any rows.
-/
import Derived.Test.YtknigggjnjkhbaaFmR
import Derived.Test.YtknigggjnjkhbaaUnitS
import Derived.Test.YtknigggjnjkhbaaNew4
import Derived.Deep.RegionHeld3
import Derived.BigRegion
namespace Go.Proofs.Ytknigggjnjkhbaa
open Go.RowKit
set_option linter.unusedVariables false
set_option linter.unusedSimpArgs false

/-- apR in the matrices' words -/
theorem apR_no {a b n d z : Int} (h : addE (a, b) (n, d) z = none) : apR a b n d z 1 = (0, 0, 3) := by
  unfold addE at h
  simp only at h
  unfold apR
  by_cases h1 : fOk (n * z) (d * 1) = true
  · rw [if_pos h1] at h ⊢
    by_cases h2 : fOk (a * fD (n * z) (d * 1) + fN (n * z) (d * 1) * b) (b * fD (n * z) (d * 1)) = true
    · rw [if_pos h2] at h; cases h
    · exact q3_no (by simpa using h2)
  · rw [if_neg h1]; rfl
theorem apR_yes {a b n d z x y : Int} (h : addE (a, b) (n, d) z = some (x, y)) : apR a b n d z 1 = (x, y, 0) := by
  unfold addE at h
  simp only at h
  unfold apR
  by_cases h1 : fOk (n * z) (d * 1) = true
  · rw [if_pos h1] at h ⊢
    by_cases h2 : fOk (a * fD (n * z) (d * 1) + fN (n * z) (d * 1) * b) (b * fD (n * z) (d * 1)) = true
    · rw [if_pos h2] at h
      injection h with h
      injection h with e1 e2
      rw [q3_yes h2, e1, e2]
    · rw [if_neg h2] at h; cases h
  · rw [if_neg h1] at h; cases h
theorem isF_whole {z : Int} (h : -1000000000 ≤ z ∧ z ≤ 1000000000) : isF z 1 = true := by
  simp only [isF, decide_eq_true_eq]
  refine ⟨by omega, by omega, by omega, by omega, ?_⟩
  unfold gi
  rw [Int.gcd_one]
  rfl
/-- a fraction and a code that a call returns, the fraction in a box of its own -/
def FrCutC (wb : World) (a b c : Int) (v v' : Value) (wy : World) : Prop := ∃ g, v = .pointer (some ⟨g, 0, none⟩) ∧ v' = .int .i64 c ∧ wb.heap.size ≤ g ∧ Below wb.heap.size wb wy ∧ Box2 wy g a b
/-- what adding a multiple of rows comes to -/
def MatPost (lo hi n : Nat) (Y : Lay) (o : Option QF) (W : World) (e : Ending) (w' : World) : Prop :=
  match o with
  | none => e = .returned (.int .i64 3) ∧ Below lo W w'
  | some G => e = .returned (.int .i64 0) ∧ FM w' lo hi n Y G ∧ Below lo W w'
/-- the rows of a table in memory, each number at its place -/
def RowsAt (w : World) (l2 h2 b off n : Nat) (A : Nat → Nat × Nat × Nat) (P : MF) : Prop :=
  l2 ≤ b ∧ b < h2 ∧ ∀ i, i < n → l2 ≤ (A i).1 ∧ (A i).1 < h2 ∧ w.cell? ⟨b, off + i, none⟩ = some (.slice (some ⟨(A i).1, (A i).2.1, none⟩) n (A i).2.2) ∧ ∀ j, j < n → w.cell? ⟨(A i).1, (A i).2.1 + j, none⟩ = some (.int .i64 (P i j))
theorem RowsAt.of {w : World} {l2 h2 n : Nat} {a : Option Addr} {P : MF} (hn : 1 ≤ n) (h : PRow l2 h2 w a (tabF n P)) : ∃ b off A, a = some ⟨b, off, none⟩ ∧ RowsAt w l2 h2 b off n A P := by
  rcases h with h | ⟨b, off, rfl, h1, h2', h3⟩
  · have := tabF_length n P
    rw [h] at this
    simp at this
    omega
  · have hrow : ∀ i, ∃ t : Nat × Nat × Nat, i < n → l2 ≤ t.1 ∧ t.1 < h2 ∧ w.cell? ⟨b, off + i, none⟩ = some (.slice (some ⟨t.1, t.2.1, none⟩) n t.2.2) ∧ ∀ j, j < n → w.cell? ⟨t.1, t.2.1 + j, none⟩ = some (.int .i64 (P i j)) := fun i => by
      by_cases hi : i < n
      · have hil : i < (tabF n P).length := by rw [tabF_length]; exact hi
        obtain ⟨a, c, hc, hr⟩ := h3 i hil
        have hl := tabF_rowlen (n := n) (F := P) hil
        rcases hr with hr | ⟨bb, oo, rfl, q1, q2, q3⟩
        · rw [hr] at hl; simp at hl; omega
        · refine ⟨⟨bb, oo, c⟩, fun _ => ⟨q1, q2, by rw [hc, hl], fun j hj => ?_⟩⟩
          rw [q3 j (by rw [hl]; exact hj), tabF_get]
      · exact ⟨⟨0, 0, 0⟩, fun h => absurd h hi⟩
    exact ⟨b, off, fun i => Classical.choose (hrow i), rfl, h1, h2', fun i hi => Classical.choose_spec (hrow i) hi⟩
theorem Outside.drew' {lo hi : Nat} {w w' : World} (h : Outside lo hi w w') : Outside lo hi w w'.drew := h.trans ⟨rfl, rfl, rfl, Nat.le_refl _, fun _ _ _ => rfl⟩
theorem RowsAt.outside {w w' : World} {l2 h2 b off n lo hi : Nat} {A : Nat → Nat × Nat × Nat} {P : MF} (R : RowsAt w l2 h2 b off n A P) (hg : Outside lo hi w w') (hl : hi ≤ l2) (hh : h2 ≤ w.heap.size) : RowsAt w' l2 h2 b off n A P := by
  obtain ⟨h1, h2', h3⟩ := R
  refine ⟨h1, h2', fun i hi' => ?_⟩
  obtain ⟨q1, q2, q3, q4⟩ := h3 i hi'
  exact ⟨q1, q2, (hg.cell (by omega) (.inr (by omega))).trans q3, fun j hj => (hg.cell (by omega) (.inr (by omega))).trans (q4 j hj)⟩

set_option maxRecDepth 100000 in
set_option maxHeartbeats 8000000 in
theorem addRows_c (lo hi n : Nat) (hn : 1 ≤ n ∧ n ≤ 6) (Y : Lay) (F : QF) (hG : GoodQ F) (P : MF) (hP : BdF n 1000000000 P) (nn d : Int) (ht : isF nn d = true) (cS : Nat) (l2 h2 : Nat) (aR : Option Addr) (cR : Nat) (w : World) (hl2 : hi ≤ l2) (hh2 : h2 ≤ w.heap.size) (hM : FM w lo hi n Y F) (hR : PRow l2 h2 w aR (tabF n P)) :
    Calls Try.prog 33 #[.slice (some ⟨Y.h, 0, none⟩) n cS, .slice aR n cR, .agg #[.int .i64 nn, .int .i64 d]] w (MatPost lo hi n Y (matQ n P (nn, d) n F) w) := by
  obtain ⟨b, off, A, rfl, hA⟩ := RowsAt.of hn.1 hR
  have hhw := hM.2.2.1
  have hlo : lo ≤ w.heap.size := by have := hM.1; have := hM.2.1; omega
  have HA := Lib.hid (hA.outside (Outside.of_below (lo := lo) (hi := hi) (below1 w (.cells #[.int .i64 nn, .int .i64 d] 43))) hl2 hh2)
  have HM := Lib.hid (hM.next (below1 w (.cells #[.int .i64 nn, .int .i64 d] 43)))
  have HG := Lib.hid hG
  have HP := Lib.hid hP
  have HT := Lib.hid ht
  have HB0 := Lib.hid (below1 w (.cells #[.int .i64 nn, .int .i64 d] 43))
  have HBx := Lib.hid (show ∀ wq, Outside lo hi (w.alloc (.cells #[.int .i64 nn, .int .i64 d] 43)) wq → w.heap.size < wq.heap.size ∧ wq.cell? ⟨w.heap.size, 0, none⟩ = some (.int .i64 nn) ∧ wq.cell? ⟨w.heap.size, 1, none⟩ = some (.int .i64 d) from fun wq hg => ⟨by have := hg.size; simp at this; omega, (hg.cell (by simp) (.inr hhw)).trans (by go_simp), (hg.cell (by simp) (.inr hhw)).trans (by go_simp)⟩)
  obtain ⟨o, ho⟩ : ∃ o, matQ n P (nn, d) n F = o := ⟨_, rfl⟩
  rw [ho]
  have HO := Lib.hid ho
  clear hR hA hM hG hP ht ho
  have hn6 : (n : Int) ≤ 6 := by omega
  go_enter Try.func33, Try.ntmps33
  go_wp2_with fail
  obtain ⟨W0, hW0⟩ : ∃ W0, w.alloc (.cells #[.int .i64 nn, .int .i64 d] 43) = W0 := ⟨_, rfl⟩
  have hz0 : W0.heap.size = w.heap.size + 1 := by rw [← hW0]; simp
  rw [hW0] at HA HM HB0 HBx
  have HZ0 := Lib.hid hz0
  go_loopw [15] (fun v15 wr => ∃ (i : Nat) (G : QF), i ≤ n ∧ v15 = .int .i64 i ∧ matQ n P (nn, d) i F = some G ∧ FM wr lo hi n Y G ∧ Outside lo hi W0 wr) (fun v15 _ => n - (intOf v15).toNat)
  case atStart => exact ⟨0, F, Nat.zero_le _, rfl, rfl, by rw [hW0]; exact HM.out, by rw [hW0]; exact Outside.refl _ _ _⟩
  case round =>
    clear hW0 hz0
    obtain ⟨i, G, hi', rfl, hmat, hFM, hOut⟩ := hrel
    obtain ⟨wo, rfl⟩ : ∃ wo : World, wo = wr := ⟨_, rfl⟩
    have HMat := Lib.hid hmat
    have HFM := Lib.hid hFM
    have HOut := Lib.hid hOut
    have hzo := hOut.size
    clear hmat hFM hOut
    by_cases hlt : i < n
    · have hiI : (i : Int) < (n : Int) := by omega
      obtain ⟨r1, r2, r3⟩ := HA.out.outside HOut.out hl2 (by have := HZ0.out; omega)
      obtain ⟨q1, q2, q3, q4⟩ := r3 i hlt
      have HRi := Lib.hid (show ∀ wq, Outside lo hi W0 wq → ∀ j, j < n → wq.cell? ⟨(A i).1, (A i).2.1 + j, none⟩ = some (.int .i64 (P i j)) from fun wq hg j hj => ((HA.out.outside hg hl2 (by have := HZ0.out; omega)).2.2 i hlt).2.2.2 j hj)
      have hai : (A i).1 < h2 := q2
      have HGi := Lib.hid (fun j K (h : rowQ P (nn, d) i j G = some K) => (HG.out.mat HMat.out).row h)
      have HFail := Lib.hid (fun j K (hj : j < n) (h : rowQ P (nn, d) i j G = some K) (h3 : addE (K i j) (nn, d) (P i j) = none) => (show o = none from by rw [← HO.out]; exact matQ_fail hlt hj HMat.out h h3))
      have HNx := Lib.hid (matQ_next HMat.out)
      have HPi := Lib.hid (fun j (hj : j < n) => HP.out i j hlt hj)
      obtain ⟨y1, y2, y3⟩ := HFM.out.2.2.2.2.1 i hlt
      have hyh := HFM.out.2.1
      generalize hAi : A i = ai at *
      obtain ⟨bi, oi, ci⟩ := ai
      simp only at q1 q2 q3 q4 HRi hai
      clear r1 r2 r3 q4 hAi
      go_wp2_with fail
      go_loopw [22] (fun v22 wq => ∃ (j : Nat) (K : QF), j ≤ n ∧ v22 = .int .i64 j ∧ rowQ P (nn, d) i j G = some K ∧ FM wq lo hi n Y K ∧ Outside lo hi W0 wq) (fun v22 _ => n - (intOf v22).toNat)
      case atStart => exact ⟨0, G, Nat.zero_le _, rfl, rfl, HFM.out, HOut.out⟩
      case round =>
        obtain ⟨j, K, hj', rfl, hrow, hFq, hOq⟩ := hrel
        obtain ⟨wq, rfl⟩ : ∃ wq : World, wq = wr := ⟨_, rfl⟩
        have HRow := Lib.hid hrow
        have HFq := Lib.hid hFq
        have HOq := Lib.hid hOq
        have hzq := hOq.size
        clear hrow hFq hOq
        by_cases hltj : j < n
        · have hjI : (j : Int) < (n : Int) := by omega
          have p0 := HRi.out wq HOq.out j hltj
          obtain ⟨hwz, s3, s4⟩ := HBx.out wq HOq.out
          have s0 := (HFq.out.2.2.2.2.1 i hlt).2.2
          obtain ⟨s1, s2, f1, f2⟩ := HFq.out.2.2.2.2.2 i j hlt hltj
          have hhq := HFq.out.2.2.1
          have hyhq : Y.h < wq.heap.size := by omega
          have hybq : Y.b i < wq.heap.size := by omega
          have hne : Y.b i ≠ Y.h := HFq.out.2.2.2.1.1 i hlt
          have hbz : bi < wq.heap.size := by have := HZ0.out; omega
          have HPz := Lib.hid (isF_whole (HPi.out j hltj))
          have HKg := Lib.hid (HGi.out j K HRow.out i j)
          have HF0 := Lib.hid (HFail.out j K hltj HRow.out)
          have HRn := Lib.hid (rowQ_next HRow.out)
          obtain ⟨z, hz⟩ : ∃ z, P i j = z := ⟨_, rfl⟩
          rw [hz] at p0 HPz HF0 HRn
          obtain ⟨x, y, hxy⟩ : ∃ x y, K i j = (x, y) := ⟨_, _, rfl⟩
          rw [hxy] at s1 s2 HKg HF0 HRn
          simp only at s1 s2 HKg
          clear hz hxy
          cases hE : addE (x, y) (nn, d) z with
          | none =>
            have HON := Lib.hid (HF0.out hE)
            obtain ⟨X, hX⟩ : ∃ X : Int, X = 0 := ⟨_, rfl⟩
            obtain ⟨Z, hZ⟩ : ∃ Z : Int, Z = 0 := ⟨_, rfl⟩
            obtain ⟨C, hC⟩ : ∃ C : Int, C = 3 := ⟨_, rfl⟩
            have HWh := Lib.hid (fun W (hW : Below wq.heap.size wq W) => wholeFraction_c z W)
            have HAp := Lib.hid (fun W (hW : Below wq.heap.size wq W) => (show Calls Try.prog 70 #[.agg #[.int .i64 x, .int .i64 y], .agg #[.int .i64 nn, .int .i64 d], .agg #[.int .i64 z, .int .i64 1]] W (fun e w' => e = .returned (.tuple #[.agg #[.int .i64 X, .int .i64 Z], .int .i64 C]) ∧ Below W.heap.size W w') from by
              have h := addProduct_c x y nn d z 1 HKg.out HT.out HPz.out W
              rw [apR_no hE] at h
              rw [hX, hZ, hC]
              exact h))
            have KS := Lib.hid (show ∀ w', Below wq.heap.size wq w' → (w'.cell? ⟨Y.h, i, none⟩ = some (.slice (some ⟨Y.b i, Y.o i, none⟩) n (Y.c i)) ∧ w'.cell? ⟨Y.b i, Y.o i + j * 2, none⟩ = some (.int .i64 x) ∧ w'.cell? ⟨Y.b i, Y.o i + j * 2 + 1, none⟩ = some (.int .i64 y) ∧ w'.cell? ⟨w.heap.size, 0, none⟩ = some (.int .i64 nn) ∧ w'.cell? ⟨w.heap.size, 1, none⟩ = some (.int .i64 d)) from fun w' hb => ⟨(hb.cell (p := ⟨Y.h, i, none⟩) hyhq).trans s0, (hb.cell (p := ⟨Y.b i, Y.o i + j * 2, none⟩) hybq).trans s1, (hb.cell (p := ⟨Y.b i, Y.o i + j * 2 + 1, none⟩) hybq).trans s2, (hb.cell (p := ⟨w.heap.size, 0, none⟩) hwz).trans s3, (hb.cell (p := ⟨w.heap.size, 1, none⟩) hwz).trans s4⟩)
            have HCz := Lib.hid hC
            clear hX hZ hC hE
            go_upto_region 7 with fail
            go_cut [11, 12] (FrCutC wq X Z C)
            case first =>
              go_region_held3 (fun w' => w'.cell? ⟨Y.h, i, none⟩ = some (.slice (some ⟨Y.b i, Y.o i, none⟩) n (Y.c i)) ∧ w'.cell? ⟨Y.b i, Y.o i + j * 2, none⟩ = some (.int .i64 x) ∧ w'.cell? ⟨Y.b i, Y.o i + j * 2 + 1, none⟩ = some (.int .i64 y) ∧ w'.cell? ⟨w.heap.size, 0, none⟩ = some (.int .i64 nn) ∧ w'.cell? ⟨w.heap.size, 1, none⟩ = some (.int .i64 d))
                ((refine KS.out _ ?_; repeat' (first | with_reducible assumption | with_reducible exact Below.refl _ _ | (with_reducible refine Below.drew ?_) | (with_reducible refine Below.setCell ?_ (by (try dsimp only); omega) _) | (with_reducible refine Below.alloc ?_ (by (try simp only [World.size_setCell]); (try simp only [World.size_drew]); (try simp only [World.size_alloc]); (try simp only [World.size_setCell]); (try simp only [World.size_alloc]); omega) _))))
                (first
                  | (go_at_call 31; (with_reducible refine (HWh.out _ ?_).mono ?_); (focus repeat' (first | with_reducible assumption | with_reducible exact Below.refl _ _ | (with_reducible refine Below.drew ?_) | (with_reducible refine Below.setCell ?_ (by (try dsimp only); omega) _) | (with_reducible refine Below.alloc ?_ (by (try simp only [World.size_setCell]); (try simp only [World.size_drew]); (try simp only [World.size_alloc]); (try simp only [World.size_setCell]); (try simp only [World.size_alloc]); omega) _))); rintro e w5 ⟨rfl, hb0⟩; have hbw5 : Below wq.heap.size wq w5 := below_step (by repeat' (first | with_reducible assumption | with_reducible exact Below.refl _ _ | (with_reducible refine Below.drew ?_) | (with_reducible refine Below.setCell ?_ (by (try dsimp only); omega) _) | (with_reducible refine Below.alloc ?_ (by (try simp only [World.size_setCell]); (try simp only [World.size_drew]); (try simp only [World.size_alloc]); (try simp only [World.size_setCell]); (try simp only [World.size_alloc]); omega) _))) hb0 (Nat.le_refl _); have hzw5 := hbw5.size; (try have B0 : Box2 w5 wq.heap.size 0 0 := Box2.next (by exact (Box2.new wq 0 0 _).drew) hb0))
                  | (go_at_call 70; (with_reducible refine (HAp.out _ ?_).mono ?_); (focus repeat' (first | with_reducible assumption | with_reducible exact Below.refl _ _ | (with_reducible refine Below.drew ?_) | (with_reducible refine Below.setCell ?_ (by (try dsimp only); omega) _) | (with_reducible refine Below.alloc ?_ (by (try simp only [World.size_setCell]); (try simp only [World.size_drew]); (try simp only [World.size_alloc]); (try simp only [World.size_setCell]); (try simp only [World.size_alloc]); omega) _))); rintro e w6 ⟨rfl, hb0⟩; have hbw6 : Below wq.heap.size wq w6 := below_step (by repeat' (first | with_reducible assumption | with_reducible exact Below.refl _ _ | (with_reducible refine Below.drew ?_) | (with_reducible refine Below.setCell ?_ (by (try dsimp only); omega) _) | (with_reducible refine Below.alloc ?_ (by (try simp only [World.size_setCell]); (try simp only [World.size_drew]); (try simp only [World.size_alloc]); (try simp only [World.size_setCell]); (try simp only [World.size_alloc]); omega) _))) hb0 (Nat.le_refl _); have hzw6 := hbw6.size; have hbw5w6 : Below w5.heap.size w5 w6 := below_step (by repeat' (first | with_reducible assumption | with_reducible exact Below.refl _ _ | (with_reducible refine Below.drew ?_) | (with_reducible refine Below.setCell ?_ (by (try dsimp only); omega) _) | (with_reducible refine Below.alloc ?_ (by (try simp only [World.size_setCell]); (try simp only [World.size_drew]); (try simp only [World.size_alloc]); (try simp only [World.size_setCell]); (try simp only [World.size_alloc]); omega) _))) hb0 (Nat.le_refl _); have hzw5w6 := hbw5w6.size; (try have B0 := B0.next hbw5w6); (try have B1 : Box2 w6 w5.heap.size 0 0 := Box2.next (by exact Box2.new w5 0 0 _) hb0); (try obtain ⟨Bz0, b00, b01, b02, b03⟩ := id B0); (try obtain ⟨Bz1, b10, b11, b12, b13⟩ := id B1))
                  | fail)
              all_goals (go_wp2_with fail; go_meet)
              all_goals (refine ⟨_, rfl, rfl, ?_, ?_, ?_⟩)
              all_goals (first | (with_reducible assumption) | (with_reducible exact Nat.le_refl _) | ((repeat' (first | with_reducible assumption | with_reducible exact Below.refl _ _ | (with_reducible refine Below.drew ?_) | (with_reducible refine Below.setCell ?_ (by (try dsimp only); omega) _) | (with_reducible refine Below.alloc ?_ (by (try simp only [World.size_setCell]); (try simp only [World.size_drew]); (try simp only [World.size_alloc]); (try simp only [World.size_setCell]); (try simp only [World.size_alloc]); omega) _))); done) | ((repeat' (first | with_reducible assumption | (with_reducible refine Box2.newAt ?_; first | with_reducible rfl | (simp only [World.size_alloc]; done)) | (with_reducible refine Box2.fill ?_) | (with_reducible refine Box2.alloc ?_ _))); done) | omega)
            case rest =>
              obtain ⟨g, rfl, rfl, hg1, hbc, hBox⟩ := hcut
              obtain ⟨w3, rfl⟩ : ∃ w3 : World, w3 = wc := ⟨_, rfl⟩
              have HB3 := Lib.hid ((HB0.out.mono (show lo ≤ w.heap.size by omega)).trans ((HOq.out.below (B := lo) (Nat.le_refl _) (by have := HZ0.out; omega)).trans (hbc.mono (by omega))))
              have hC0 : C = 3 := HCz.out
              subst hC0
              clear hbc hBox
              go_wp2
              go_ret
              rw [HON.out]
              exact ⟨rfl, HB3.out⟩
          | some v =>
            obtain ⟨X, Z⟩ := v
            rw [hE] at HRn
            obtain ⟨C, hC⟩ : ∃ C : Int, C = 0 := ⟨_, rfl⟩
            have HWh := Lib.hid (fun W (hW : Below wq.heap.size wq W) => wholeFraction_c z W)
            have HAp := Lib.hid (fun W (hW : Below wq.heap.size wq W) => (show Calls Try.prog 70 #[.agg #[.int .i64 x, .int .i64 y], .agg #[.int .i64 nn, .int .i64 d], .agg #[.int .i64 z, .int .i64 1]] W (fun e w' => e = .returned (.tuple #[.agg #[.int .i64 X, .int .i64 Z], .int .i64 C]) ∧ Below W.heap.size W w') from by
              have h := addProduct_c x y nn d z 1 HKg.out HT.out HPz.out W
              rw [apR_yes hE] at h
              rw [hC]
              exact h))
            have KS := Lib.hid (show ∀ w', Below wq.heap.size wq w' → (w'.cell? ⟨Y.h, i, none⟩ = some (.slice (some ⟨Y.b i, Y.o i, none⟩) n (Y.c i)) ∧ w'.cell? ⟨Y.b i, Y.o i + j * 2, none⟩ = some (.int .i64 x) ∧ w'.cell? ⟨Y.b i, Y.o i + j * 2 + 1, none⟩ = some (.int .i64 y) ∧ w'.cell? ⟨w.heap.size, 0, none⟩ = some (.int .i64 nn) ∧ w'.cell? ⟨w.heap.size, 1, none⟩ = some (.int .i64 d)) from fun w' hb => ⟨(hb.cell (p := ⟨Y.h, i, none⟩) hyhq).trans s0, (hb.cell (p := ⟨Y.b i, Y.o i + j * 2, none⟩) hybq).trans s1, (hb.cell (p := ⟨Y.b i, Y.o i + j * 2 + 1, none⟩) hybq).trans s2, (hb.cell (p := ⟨w.heap.size, 0, none⟩) hwz).trans s3, (hb.cell (p := ⟨w.heap.size, 1, none⟩) hwz).trans s4⟩)
            have HCz := Lib.hid hC
            clear hC hE
            go_upto_region 7 with fail
            go_cut [11, 12] (FrCutC wq X Z C)
            case first =>
              go_region_held3 (fun w' => w'.cell? ⟨Y.h, i, none⟩ = some (.slice (some ⟨Y.b i, Y.o i, none⟩) n (Y.c i)) ∧ w'.cell? ⟨Y.b i, Y.o i + j * 2, none⟩ = some (.int .i64 x) ∧ w'.cell? ⟨Y.b i, Y.o i + j * 2 + 1, none⟩ = some (.int .i64 y) ∧ w'.cell? ⟨w.heap.size, 0, none⟩ = some (.int .i64 nn) ∧ w'.cell? ⟨w.heap.size, 1, none⟩ = some (.int .i64 d))
                ((refine KS.out _ ?_; repeat' (first | with_reducible assumption | with_reducible exact Below.refl _ _ | (with_reducible refine Below.drew ?_) | (with_reducible refine Below.setCell ?_ (by (try dsimp only); omega) _) | (with_reducible refine Below.alloc ?_ (by (try simp only [World.size_setCell]); (try simp only [World.size_drew]); (try simp only [World.size_alloc]); (try simp only [World.size_setCell]); (try simp only [World.size_alloc]); omega) _))))
                (first
                  | (go_at_call 31; (with_reducible refine (HWh.out _ ?_).mono ?_); (focus repeat' (first | with_reducible assumption | with_reducible exact Below.refl _ _ | (with_reducible refine Below.drew ?_) | (with_reducible refine Below.setCell ?_ (by (try dsimp only); omega) _) | (with_reducible refine Below.alloc ?_ (by (try simp only [World.size_setCell]); (try simp only [World.size_drew]); (try simp only [World.size_alloc]); (try simp only [World.size_setCell]); (try simp only [World.size_alloc]); omega) _))); rintro e w5 ⟨rfl, hb0⟩; have hbw5 : Below wq.heap.size wq w5 := below_step (by repeat' (first | with_reducible assumption | with_reducible exact Below.refl _ _ | (with_reducible refine Below.drew ?_) | (with_reducible refine Below.setCell ?_ (by (try dsimp only); omega) _) | (with_reducible refine Below.alloc ?_ (by (try simp only [World.size_setCell]); (try simp only [World.size_drew]); (try simp only [World.size_alloc]); (try simp only [World.size_setCell]); (try simp only [World.size_alloc]); omega) _))) hb0 (Nat.le_refl _); have hzw5 := hbw5.size; (try have B0 : Box2 w5 wq.heap.size 0 0 := Box2.next (by exact (Box2.new wq 0 0 _).drew) hb0))
                  | (go_at_call 70; (with_reducible refine (HAp.out _ ?_).mono ?_); (focus repeat' (first | with_reducible assumption | with_reducible exact Below.refl _ _ | (with_reducible refine Below.drew ?_) | (with_reducible refine Below.setCell ?_ (by (try dsimp only); omega) _) | (with_reducible refine Below.alloc ?_ (by (try simp only [World.size_setCell]); (try simp only [World.size_drew]); (try simp only [World.size_alloc]); (try simp only [World.size_setCell]); (try simp only [World.size_alloc]); omega) _))); rintro e w6 ⟨rfl, hb0⟩; have hbw6 : Below wq.heap.size wq w6 := below_step (by repeat' (first | with_reducible assumption | with_reducible exact Below.refl _ _ | (with_reducible refine Below.drew ?_) | (with_reducible refine Below.setCell ?_ (by (try dsimp only); omega) _) | (with_reducible refine Below.alloc ?_ (by (try simp only [World.size_setCell]); (try simp only [World.size_drew]); (try simp only [World.size_alloc]); (try simp only [World.size_setCell]); (try simp only [World.size_alloc]); omega) _))) hb0 (Nat.le_refl _); have hzw6 := hbw6.size; have hbw5w6 : Below w5.heap.size w5 w6 := below_step (by repeat' (first | with_reducible assumption | with_reducible exact Below.refl _ _ | (with_reducible refine Below.drew ?_) | (with_reducible refine Below.setCell ?_ (by (try dsimp only); omega) _) | (with_reducible refine Below.alloc ?_ (by (try simp only [World.size_setCell]); (try simp only [World.size_drew]); (try simp only [World.size_alloc]); (try simp only [World.size_setCell]); (try simp only [World.size_alloc]); omega) _))) hb0 (Nat.le_refl _); have hzw5w6 := hbw5w6.size; (try have B0 := B0.next hbw5w6); (try have B1 : Box2 w6 w5.heap.size 0 0 := Box2.next (by exact Box2.new w5 0 0 _) hb0); (try obtain ⟨Bz0, b00, b01, b02, b03⟩ := id B0); (try obtain ⟨Bz1, b10, b11, b12, b13⟩ := id B1))
                  | fail)
              all_goals (go_wp2_with fail; go_meet)
              all_goals (refine ⟨_, rfl, rfl, ?_, ?_, ?_⟩)
              all_goals (first | (with_reducible assumption) | (with_reducible exact Nat.le_refl _) | ((repeat' (first | with_reducible assumption | with_reducible exact Below.refl _ _ | (with_reducible refine Below.drew ?_) | (with_reducible refine Below.setCell ?_ (by (try dsimp only); omega) _) | (with_reducible refine Below.alloc ?_ (by (try simp only [World.size_setCell]); (try simp only [World.size_drew]); (try simp only [World.size_alloc]); (try simp only [World.size_setCell]); (try simp only [World.size_alloc]); omega) _))); done) | ((repeat' (first | with_reducible assumption | (with_reducible refine Box2.newAt ?_; first | with_reducible rfl | (simp only [World.size_alloc]; done)) | (with_reducible refine Box2.fill ?_) | (with_reducible refine Box2.alloc ?_ _))); done) | omega)
            case rest =>
              obtain ⟨g, rfl, rfl, hg1, hbc, hBox⟩ := hcut
              obtain ⟨w3, rfl⟩ : ∃ w3 : World, w3 = wc := ⟨_, rfl⟩
              have hC0 : C = 0 := HCz.out
              subst hC0
              have HF3 := Lib.hid (HFq.out.next hbc)
              have HO3 := Lib.hid (HOq.out.trans (Outside.of_below hbc))
              have hz3 := hbc.size
              obtain ⟨hgz, g0, g1, g2, g3⟩ := hBox
              have u0 := (HF3.out.2.2.2.2.1 i hlt).2.2
              obtain ⟨u1, u2, u3, u4⟩ := HF3.out.2.2.2.2.2 i j hlt hltj
              have HFn := Lib.hid (HF3.out.set hlt hltj X Z)
              have HOn := Lib.hid (HO3.out.trans ((HF3.out.outside hlt (Y.o i + j * 2) (.int .i64 X)).trans (FM.outside (HF3.out.set1 hlt hltj X) hlt (Y.o i + j * 2 + 1) (.int .i64 Z))))
              have hgb : g ≠ Y.b i := by omega
              clear hbc s0 s1 s2 s3 s4 f1 f2 p0
              go_wp2_with fail
              go_region
              all_goals
                go_wp2
                go_roundw
                case rel => exact ⟨j + 1, _, by omega, by go_num, HRn.out, HFn.out, HOn.out.drew'⟩
                case measure => simp [intOf]; omega
        · obtain rfl : j = n := by omega
          have HMn := Lib.hid (HNx.out.trans HRow.out)
          go_wp2
          go_roundw
          case rel => exact ⟨i + 1, K, by omega, by go_num, HMn.out, HFq.out, HOq.out⟩
          case measure => simp [intOf]; omega
    · obtain rfl : i = n := by omega
      have HON := Lib.hid (HO.out.symm.trans HMat.out)
      go_wp2
      go_ret
      rw [HON.out]
      exact ⟨rfl, HFM.out, (HB0.out.mono (show lo ≤ w.heap.size by omega)).trans (HOut.out.below (Nat.le_refl _) (by have := HZ0.out; omega))⟩
end Go.Proofs.Ytknigggjnjkhbaa
