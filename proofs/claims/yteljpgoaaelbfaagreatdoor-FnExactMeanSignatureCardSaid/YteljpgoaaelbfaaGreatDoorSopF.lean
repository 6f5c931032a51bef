/-
  Contracts of PowerSeries, of the program and of its model: both return the same series and code.
  Rows of fractions that a call owns: what append leaves.
  Plain mathematics: sums of powers of a series' values, each power with a number; the numbers of exponentials, logarithms, inverses. No program is named here.
  The program's numbers of exponentials, logarithms and inverses: rows of fractions of the call's own.
  The program's sum of powers: its contract.
  The program's multiples, series less the unit, exponentials and logarithms of values: their contracts.
  The program's exponentials and logarithms of values: their contracts.
-/
import Derived.Test.YteljpgoaaelbfaaGreatDoorTimes
import Derived.Test.YteljpgoaaelbfaaGreatDoorGate
import Derived.Test.YteljpgoaaelbfaaGreatDoorPartOf
import Derived.Test.YteljpgoaaelbfaaGreatDoorSumL
import Derived.Test.YteljpgoaaelbfaaGreatDoorAddL
import Derived.Test.YteljpgoaaelbfaaGreatDoorComV
import Derived.Deep.RegionHeld2
namespace Go.Proofs.YteljpgoaaelbfaaGreatDoor
open Go.RowKit

/-- the powers of a series' values: each is the one before, times the series -/
def powV (base : VF) (ws : List ByteArray) : Nat → Option VF
  | 0 => some unitF
  | k + 1 => (powV base ws k).bind fun p => prodV p base ws
theorem powV_next {base p : VF} {ws : List ByteArray} {k : Nat} (h : powV base ws k = some p) : powV base ws (k + 1) = prodV p base ws := by rw [powV, h]; rfl
theorem powV_dead {base : VF} {ws : List ByteArray} {k : Nat} (h : powV base ws k = none) : ∀ {m : Nat}, k ≤ m → powV base ws m = none
  | 0, hm => by obtain rfl : k = 0 := by omega
                exact h
  | m + 1, hm => by
    by_cases e : k = m + 1
    · subst e; exact h
    · rw [powV, powV_dead h (show k ≤ m by omega)]; rfl
theorem good_unit (D N : Nat) : GoodV (allW D N) unitF := fun s p h => by
  unfold unitF setF at h
  split at h
  · rename_i hs
    injection h with h
    subst h
    obtain ⟨r, e, _⟩ := allW_head D N
    exact ⟨by rw [e, hs]; simp, by decide, by decide⟩
  · cases h
theorem powV_good {D N : Nat} {base : VF} : ∀ {k : Nat} {p : VF}, powV base (allW D N) k = some p → GoodV (allW D N) p
  | 0, p, h => by rw [powV] at h; injection h with h; rw [← h]; exact good_unit D N
  | k + 1, p, h => by
    rw [powV] at h
    obtain ⟨q, _, h2⟩ := Option.bind_eq_some_iff.1 h
    exact GoodV.prodV h2
/-- what a function comes to that returns a series of values, if all fits -/
def FitV (D N : Nat) (r : Option VF) (W : World) (e : Ending) (w' : World) : Prop := match r with | none => SerPost 0 0 [] 3 W e w' | some h => SerPost D N (termsOf h (allW D N)) 0 W e w'

set_option maxRecDepth 100000 in
set_option maxHeartbeats 2000000 in
theorem iPow_1 (L V K : Int) (g1 : Nat) (xs : List Tm) (hl1 : xs.length ≤ 1048576) (hs1 : ∀ i (h : i < xs.length), (xs[i]).s.size ≤ maxLen) (h1 : serB L V xs = false) (w : World) (hb1 : g1 < w.heap.size) (t1 : TermsIn w g1 0 xs) :
    Calls Tryz.prog 34 #[.agg #[.int .i64 L, .int .i64 V, .slice (some ⟨g1, 0, none⟩) xs.length xs.length], .int .i64 K] w (SerPost 0 0 [] 1 w) := by
  have HT1 := Lib.hid t1
  have HS1 := Lib.hid hs1
  have HH := Lib.hid h1

  clear t1 hs1 h1
  go_enter Tryz.func34, Tryz.ntmps34
  go_wp2_with fail
  refine (iIsSeries_c L V g1 0 _ xs hl1 HS1.out _ (by simp; omega) (HT1.out.below (below3 w _ _ _) hb1)).mono ?_
  rw [HH.out]
  rintro e w1 ⟨rfl, hb⟩
  have hB := hb
  simp only [World.size_alloc] at hB
  have bc := bcellB hB
  have r0 : w1.cell? ⟨w.heap.size + 1 + 1, 0, none⟩ = some (.int .i64 0) := (bc.1 _ _ (by omega)).trans (by go_simp)
  have r1 : w1.cell? ⟨w.heap.size + 1 + 1, 1, none⟩ = some (.int .i64 0) := (bc.1 _ _ (by omega)).trans (by go_simp)
  have r2 : w1.cell? ⟨w.heap.size + 1 + 1, 2, none⟩ = some (.slice none 0 0) := (bc.1 _ _ (by omega)).trans (by go_simp)
  have z0 : w1.frozen? ⟨w.heap.size + 1 + 1, 0, none⟩ = false := (bc.2 _ _ (by omega)).trans (by go_simp)
  have z1 : w1.frozen? ⟨w.heap.size + 1 + 1, 1, none⟩ = false := (bc.2 _ _ (by omega)).trans (by go_simp)
  have z2 : w1.frozen? ⟨w.heap.size + 1 + 1, 2, none⟩ = false := (bc.2 _ _ (by omega)).trans (by go_simp)

  have HW := Lib.hid ((below3 w _ _ _).trans (hB.mono (by omega)))
  have hz : w.heap.size + 1 + 1 < w1.heap.size := by have := hB.size; simp at this; omega
  clear bc hB hb
  go_wp2
  refine bodyPost_ret (v := .tuple #[.agg #[.int .i64 0, .int .i64 0, .slice none 0 0], .int .i64 1]) (by simp [results, Tryz.results34, go_sem, r0, r1, r2]) rfl (SerPost.err 1 rfl ?_)
  have hW := HW.out
  go_grown

set_option maxRecDepth 100000 in
set_option maxHeartbeats 2000000 in
theorem iPow_2 (L V K : Int) (g1 : Nat) (xs : List Tm) (hl1 : xs.length ≤ 1048576) (hs1 : ∀ i (h : i < xs.length), (xs[i]).s.size ≤ maxLen) (h1 : serB L V xs = true) (hK : inB K 0 12 = false) (w : World) (hb1 : g1 < w.heap.size) (t1 : TermsIn w g1 0 xs) :
    Calls Tryz.prog 34 #[.agg #[.int .i64 L, .int .i64 V, .slice (some ⟨g1, 0, none⟩) xs.length xs.length], .int .i64 K] w (SerPost 0 0 [] 2 w) := by
  have HT1 := Lib.hid t1
  have HS1 := Lib.hid hs1
  have HH := Lib.hid h1
  have HK := Lib.hid hK
  clear t1 hs1 h1 hK
  go_enter Tryz.func34, Tryz.ntmps34
  go_wp2_with fail
  refine (iIsSeries_c L V g1 0 _ xs hl1 HS1.out _ (by simp; omega) (HT1.out.below (below3 w _ _ _) hb1)).mono ?_
  rw [HH.out]
  rintro e w1 ⟨rfl, hb⟩
  have hB := hb
  simp only [World.size_alloc] at hB
  have bc := bcellB hB
  have r0 : w1.cell? ⟨w.heap.size + 1 + 1, 0, none⟩ = some (.int .i64 0) := (bc.1 _ _ (by omega)).trans (by go_simp)
  have r1 : w1.cell? ⟨w.heap.size + 1 + 1, 1, none⟩ = some (.int .i64 0) := (bc.1 _ _ (by omega)).trans (by go_simp)
  have r2 : w1.cell? ⟨w.heap.size + 1 + 1, 2, none⟩ = some (.slice none 0 0) := (bc.1 _ _ (by omega)).trans (by go_simp)
  have z0 : w1.frozen? ⟨w.heap.size + 1 + 1, 0, none⟩ = false := (bc.2 _ _ (by omega)).trans (by go_simp)
  have z1 : w1.frozen? ⟨w.heap.size + 1 + 1, 1, none⟩ = false := (bc.2 _ _ (by omega)).trans (by go_simp)
  have z2 : w1.frozen? ⟨w.heap.size + 1 + 1, 2, none⟩ = false := (bc.2 _ _ (by omega)).trans (by go_simp)
  have k0 : w1.cell? ⟨w.heap.size + 1, 0, none⟩ = some (.int .i64 K) := (bc.1 _ _ (by omega)).trans (by go_simp)
  have HW := Lib.hid ((below3 w _ _ _).trans (hB.mono (by omega)))
  have hz : w.heap.size + 1 + 1 < w1.heap.size := by have := hB.size; simp at this; omega
  clear bc hB hb
  go_wp2_with (first | (go_at_call 25; refine (isBetween_c _ _ _ _).mono ?_; rw [HK.out]; rintro e w' ⟨rfl, rfl⟩) | fail)
  refine bodyPost_ret (v := .tuple #[.agg #[.int .i64 0, .int .i64 0, .slice none 0 0], .int .i64 2]) (by simp [results, Tryz.results34, go_sem, r0, r1, r2]) rfl (SerPost.err 2 rfl ?_)
  have hW := HW.out
  go_grown

set_option maxRecDepth 100000 in
set_option maxHeartbeats 4000000 in
theorem powWork (D N K : Nat) (hD : 1 ≤ D ∧ D ≤ 3) (hN : N ≤ 5) (hK : K ≤ 12) (p px pk : Nat) (aS a1 : Option Addr) (cS c1 : Nat) (xs : List Tm) (h1 : serB D N xs = true) (hl1 : xs.length ≤ 1048576) (hs1 : ∀ i (h : i < xs.length), (xs[i]).s.size ≤ maxLen) (w : World) (hp : p < w.heap.size) (hpx : px < w.heap.size) (hpk : pk < w.heap.size) (s0 : w.cell? ⟨p, 0, none⟩ = some (.int .i64 D)) (s1 : w.cell? ⟨p, 1, none⟩ = some (.int .i64 N)) (s2 : w.cell? ⟨p, 2, none⟩ = some (.slice aS (allW D N).length cS)) (x0 : w.cell? ⟨px, 0, none⟩ = some (.int .i64 D)) (x1 : w.cell? ⟨px, 1, none⟩ = some (.int .i64 N)) (x2 : w.cell? ⟨px, 2, none⟩ = some (.slice a1 xs.length c1)) (k0 : w.cell? ⟨pk, 0, none⟩ = some (.int .i64 K)) (hrs : SRow w aS (allW D N)) (hr1 : Row w a1 xs) :
    Calls Tryz.prog 63 #[.pointer (some ⟨px, 0, none⟩), .pointer (some ⟨pk, 0, none⟩), .pointer (some ⟨p, 0, none⟩)] w (WorkPost (powV (valV xs xs.length) (allW D N) K) w) := by
  have hfew := allW_few (D := D) hD.2 (n := N) hN
  have HWl := Lib.hid (show (allW D N).length ≤ 1048575 by omega)
  have HWs := Lib.hid (show ∀ s ∈ allW D N, s.size ≤ 1000 from fun s hs => by have := allW_size D N s hs; omega)
  have G1 := good_valV h1
  have HG1 := Lib.hid (show ∀ s p, valV xs xs.length s = some p → isF p.1 p.2 = true from fun s p e => (G1.1 s p e).2.1)
  have HS1 := Lib.hid hs1
  have HRS := Lib.hid hrs
  have HR1 := Lib.hid hr1
  have KS := Lib.hid (show ∀ w', Below w.heap.size w w' → (w'.cell? ⟨p, 0, none⟩ = some (.int .i64 D) ∧ w'.cell? ⟨p, 1, none⟩ = some (.int .i64 N) ∧ w'.cell? ⟨p, 2, none⟩ = some (.slice aS (allW D N).length cS) ∧ w'.cell? ⟨px, 0, none⟩ = some (.int .i64 D) ∧ w'.cell? ⟨px, 1, none⟩ = some (.int .i64 N) ∧ w'.cell? ⟨px, 2, none⟩ = some (.slice a1 xs.length c1) ∧ w'.cell? ⟨pk, 0, none⟩ = some (.int .i64 K)) from fun w' hb => ⟨(hb.cell (p := ⟨p, 0, none⟩) hp).trans s0, (hb.cell (p := ⟨p, 1, none⟩) hp).trans s1, (hb.cell (p := ⟨p, 2, none⟩) hp).trans s2, (hb.cell (p := ⟨px, 0, none⟩) hpx).trans x0, (hb.cell (p := ⟨px, 1, none⟩) hpx).trans x1, (hb.cell (p := ⟨px, 2, none⟩) hpx).trans x2, (hb.cell (p := ⟨pk, 0, none⟩) hpk).trans k0⟩)
  clear hs1 hrs hr1 h1 G1
  go_enter Tryz.func63, Tryz.ntmps63
  go_wp2_with fail
  refine (valuesOf_c D N a1 c1 xs hl1 HS1.out _ HR1.out).mono ?_
  rintro e w1 ⟨m1, rfl, hm1, hb1, hM1⟩
  have HM1 := Lib.hid hM1
  have HB1 := Lib.hid hb1
  have hbl1 := hM1.lt
  obtain ⟨s0', s1', s2', x0', x1', x2', k0'⟩ := KS.out w1 hb1
  clear hM1 hb1 s0 s1 s2 x0 x1 x2 k0 s0' s1' s2' x0' x1' x2'
  go_wp2_with fail
  refine (unitValues_c _).mono ?_
  rintro e w2 ⟨m2, rfl, hm2, hb2, hM2⟩
  have HM2 := Lib.hid hM2
  have HM12 := Lib.hid (HM1.out.below hb2 hbl1)
  have HB2 := Lib.hid (HB1.out.trans (hb2.mono HB1.out.size))
  obtain ⟨s0', s1', s2', x0', x1', x2', k2⟩ := KS.out w2 HB2.out
  have hz1 := HB1.out.size
  have hz2 := hb2.size
  clear hM2 hb2 s0' s1' s2' x0' x1' x2' k0'
  go_wp2_with fail
  go_loopw [5, 10] (fun v5 v10 wr => ∃ (j : Nat) (h : VF) (b n : Nat), j ≤ K ∧ v5 = .map (some b) ∧ v10 = .int .i64 j ∧ powV (valV xs xs.length) (allW D N) j = some h ∧ w.heap.size ≤ b ∧ n ≤ 1048576 ∧ MapV wr b n h ∧ MapV wr m1 xs.length (valV xs xs.length) ∧ Below w.heap.size w wr) (fun _ v10 _ => K - (intOf v10).toNat)
  case atStart => exact ⟨0, unitF, m2, 1, Nat.zero_le _, rfl, rfl, rfl, by omega, by omega, HM2.out, HM12.out, HB2.out⟩
  case round =>
    obtain ⟨j, h, b, n, hj, rfl, rfl, hpw, hwb, hn, hM, hMx, hB⟩ := hrel
    have HP := Lib.hid hpw
    have HM := Lib.hid hM
    have HMx := Lib.hid hMx
    have HB := Lib.hid hB
    have hlb := hM.lt
    have hlx := hMx.lt
    obtain ⟨s0, s1, s2, x0, x1, x2, k0⟩ := KS.out wr hB
    clear hpw hM hMx hB x0 x1 x2 k0 k2
    by_cases hjK : j < K
    · have HNx := Lib.hid (powV_next HP.out)
      have HDd := Lib.hid (fun e => powV_dead (base := valV xs xs.length) (ws := allW D N) (k := j + 1) e hjK)
      have HGp := Lib.hid (show ∀ s p, h s = some p → isF p.1 p.2 = true from fun s p e => (powV_good HP.out s p e).2.1)
      have HPr := Lib.hid (product_c D N aS cS (allW D N) HWl.out HWs.out h (valV xs xs.length) HGp.out HG1.out b n m1 xs.length wr (HRS.out.below HB.out (Nat.le_refl _)) HM.out HMx.out)
      go_wp2_with fail
      refine HPr.out.mono ?_
      cases hv : prodV h (valV xs xs.length) (allW D N) with
      | none =>
        rintro e w3 ⟨rfl, hb3⟩
        have HDn := Lib.hid (HDd.out (HNx.out.trans hv))
        have HB3 := Lib.hid (HB.out.trans (hb3.mono HB.out.size))
        clear hb3 hv
        go_wp2
        rw [HDn.out]
        exact ⟨rfl, rfl, HB3.out⟩
      | some h' =>
        rintro e w3 ⟨b3, n3, rfl, hb3l, hb3, hn3, hM3⟩
        have HP3 := Lib.hid (HNx.out.trans hv)
        have HB3 := Lib.hid (HB.out.trans (hb3.mono HB.out.size))
        have HM3 := Lib.hid hM3
        have HMx3 := Lib.hid (HMx.out.below hb3 hlx)
        have hzr := HB.out.size
        clear hb3 hv hM3 s0 s1 s2
        go_wp2
        go_roundw
        case rel => exact ⟨j + 1, h', b3, n3, hjK, rfl, by go_num, HP3.out, by omega, hn3, HM3.out, HMx3.out, HB3.out⟩
        case measure => simp [intOf]; omega
    · obtain rfl : j = K := by omega
      clear s0 s1 s2
      go_wp2
      rw [HP.out]
      go_ret
      exact ⟨b, n, rfl, hwb, HB.out, hn, HM.out⟩

set_option maxRecDepth 100000 in
set_option maxHeartbeats 8000000 in
theorem iPow_3 (D N K : Nat) (g1 : Nat) (xs : List Tm) (hl1 : xs.length ≤ 1048576) (hs1 : ∀ i (h : i < xs.length), (xs[i]).s.size ≤ maxLen) (h1 : serB D N xs = true) (hK : K ≤ 12) (w : World) (hb1 : g1 < w.heap.size) (t1 : TermsIn w g1 0 xs) :
    Calls Tryz.prog 34 #[.agg #[.int .i64 D, .int .i64 N, .slice (some ⟨g1, 0, none⟩) xs.length xs.length], .int .i64 K] w (FitV D N (powV (valV xs xs.length) (allW D N) K) w) := by
  have hsh : shapeB (D : Int) (N : Int) = true := by unfold serB at h1; rw [Bool.and_eq_true] at h1; exact h1.1
  have hDN := shape_out hsh
  have hmf : ∀ (fn : Fn) (first cap : Array Value) (w : World), (Instr.makeFunc fn first cap).run Tryz.prog w = .ok (.func fn first cap) w := fun _ _ _ _ => rfl
  have HT1 := Lib.hid t1
  have HS1 := Lib.hid hs1
  have HH := Lib.hid h1
  have HKb := Lib.hid (show inB (K : Int) 0 12 = true from inB_yes (by omega))
  have hfew := allW_few (D := D) (by omega) (n := N) (by omega)
  have HWl := Lib.hid (show (allW D N).length ≤ 1048576 by omega)
  have HWs := Lib.hid (show ∀ s ∈ allW D N, s.size ≤ 1048576 from fun s hs => by have := allW_size D N s hs; omega)
  clear t1 hs1 h1 hsh
  go_enter Tryz.func34, Tryz.ntmps34
  go_wp2_with fail
  refine (iIsSeries_c D N g1 0 _ xs hl1 HS1.out _ (by simp; omega) (HT1.out.below (below3 w _ _ _) hb1)).mono ?_
  rw [HH.out]
  rintro e w1 ⟨rfl, hb⟩
  have HB := Lib.hid (show Below (w.heap.size + 1 + 1 + 1) (((w.alloc (.cells #[.int .i64 D, .int .i64 N, .slice (some ⟨g1, 0, none⟩) xs.length xs.length] 26)).alloc (.cells #[.int .i64 K] 2)).alloc (.cells #[.int .i64 0, .int .i64 0, .slice none 0 0] 26)) w1 from by simpa using hb)
  have hz1 : w.heap.size + 1 + 1 + 1 ≤ w1.heap.size := by have := HB.out.size; simp at this; omega
  have bc := bcellB HB.out
  have x0 : w1.cell? ⟨w.heap.size, 0, none⟩ = some (.int .i64 D) := (bc.1 _ _ (by omega)).trans (by go_simp)
  have x1 : w1.cell? ⟨w.heap.size, 1, none⟩ = some (.int .i64 N) := (bc.1 _ _ (by omega)).trans (by go_simp)
  have k0 : w1.cell? ⟨w.heap.size + 1, 0, none⟩ = some (.int .i64 K) := (bc.1 _ _ (by omega)).trans (by go_simp)
  clear hb bc
  go_wp2_with (first | (go_at_call 25; refine (isBetween_c _ _ _ _).mono ?_; rw [HKb.out]; rintro e w' ⟨rfl, rfl⟩) | fail)
  refine (spaceOf_c D N (by omega) (by omega) _).mono ?_
  rintro e w2 ⟨aS, cS, rfl, hb2', hN2⟩
  have HB2 := Lib.hid (HB.out.trans (hb2'.mono (by omega)))
  have hz2 : w1.heap.size ≤ w2.heap.size := hb2'.size
  have HB3 := Lib.hid (HB2.out.alloc (by omega) (.cells #[.int .i64 D, .int .i64 N, .slice aS (allW D N).length cS] 50))
  have HW3 := Lib.hid ((below3 w (.cells #[.int .i64 D, .int .i64 N, .slice (some ⟨g1, 0, none⟩) xs.length xs.length] 26) (.cells #[.int .i64 K] 2) (.cells #[.int .i64 0, .int .i64 0, .slice none 0 0] 26)).trans (HB3.out.mono (by omega)))
  have bc := bcellB HB3.out
  have Kx0 : (w2.alloc (.cells #[.int .i64 D, .int .i64 N, .slice aS (allW D N).length cS] 50)).cell? ⟨w.heap.size, 0, none⟩ = some (.int .i64 D) := (bc.1 _ _ (by omega)).trans (by go_simp)
  have Kx1 : (w2.alloc (.cells #[.int .i64 D, .int .i64 N, .slice aS (allW D N).length cS] 50)).cell? ⟨w.heap.size, 1, none⟩ = some (.int .i64 N) := (bc.1 _ _ (by omega)).trans (by go_simp)
  have Kx2 : (w2.alloc (.cells #[.int .i64 D, .int .i64 N, .slice aS (allW D N).length cS] 50)).cell? ⟨w.heap.size, 2, none⟩ = some (.slice (some ⟨g1, 0, none⟩) xs.length xs.length) := (bc.1 _ _ (by omega)).trans (by go_simp)
  have Kk0 : (w2.alloc (.cells #[.int .i64 D, .int .i64 N, .slice aS (allW D N).length cS] 50)).cell? ⟨w.heap.size + 1, 0, none⟩ = some (.int .i64 K) := (bc.1 _ _ (by omega)).trans (by go_simp)
  have Ks0 : (w2.alloc (.cells #[.int .i64 D, .int .i64 N, .slice aS (allW D N).length cS] 50)).cell? ⟨w2.heap.size, 0, none⟩ = some (.int .i64 D) := by go_simp
  have Ks1 : (w2.alloc (.cells #[.int .i64 D, .int .i64 N, .slice aS (allW D N).length cS] 50)).cell? ⟨w2.heap.size, 1, none⟩ = some (.int .i64 N) := by go_simp
  have Ks2 : (w2.alloc (.cells #[.int .i64 D, .int .i64 N, .slice aS (allW D N).length cS] 50)).cell? ⟨w2.heap.size, 2, none⟩ = some (.slice aS (allW D N).length cS) := by go_simp
  have HNs := Lib.hid (hN2.row.below (below1 w2 (.cells #[.int .i64 D, .int .i64 N, .slice aS (allW D N).length cS] 50)) (Nat.le_refl _))
  have hzz : (w2.alloc (.cells #[.int .i64 D, .int .i64 N, .slice aS (allW D N).length cS] 50)).heap.size = w2.heap.size + 1 := by simp
  have HR := Lib.hid (show Z3 w2 (w.heap.size + 1 + 1) from by
    have bc := bcellB HB2.out
    exact ⟨by omega, (bc.1 _ _ (by omega)).trans (by go_simp), (bc.1 _ _ (by omega)).trans (by go_simp), (bc.1 _ _ (by omega)).trans (by go_simp), (bc.2 _ _ (by omega)).trans (by go_simp), (bc.2 _ _ (by omega)).trans (by go_simp), (bc.2 _ _ (by omega)).trans (by go_simp)⟩)
  have HWork := Lib.hid (fun W (hW : Below (w2.alloc (.cells #[.int .i64 D, .int .i64 N, .slice aS (allW D N).length cS] 50)).heap.size (w2.alloc (.cells #[.int .i64 D, .int .i64 N, .slice aS (allW D N).length cS] 50)) W) => powWork D N K (by omega) (by omega) hK w2.heap.size w.heap.size (w.heap.size + 1) aS (some ⟨g1, 0, none⟩) cS xs.length xs HH.out hl1 HS1.out W (by have := hW.size; omega) (by have := hW.size; omega) (by have := hW.size; omega) ((hW.cell (p := ⟨w2.heap.size, 0, none⟩) (by show w2.heap.size < _; omega)).trans Ks0) ((hW.cell (p := ⟨w2.heap.size, 1, none⟩) (by show w2.heap.size < _; omega)).trans Ks1) ((hW.cell (p := ⟨w2.heap.size, 2, none⟩) (by show w2.heap.size < _; omega)).trans Ks2) ((hW.cell (p := ⟨w.heap.size, 0, none⟩) (by show w.heap.size < _; omega)).trans Kx0) ((hW.cell (p := ⟨w.heap.size, 1, none⟩) (by show w.heap.size < _; omega)).trans Kx1) ((hW.cell (p := ⟨w.heap.size, 2, none⟩) (by show w.heap.size < _; omega)).trans Kx2) ((hW.cell (p := ⟨w.heap.size + 1, 0, none⟩) (by show w.heap.size + 1 < _; omega)).trans Kk0) (HNs.out.below hW (Nat.le_refl _)) (.inr ⟨g1, 0, rfl, by have := hW.size; omega, HT1.out.below (HW3.out.trans (hW.mono (by omega))) hb1⟩))
  clear bc hb2' hN2 x0 x1 k0
  cases hv : powV (valV xs xs.length) (allW D N) K with
  | none =>
    have HVv := Lib.hid hv
    have HDoor := Lib.hid (door_no D N aS (allW D N).length cS 63 #[.pointer (some ⟨w.heap.size, 0, none⟩), .pointer (some ⟨w.heap.size + 1, 0, none⟩), .pointer (some ⟨w2.heap.size, 0, none⟩)] (fun _ => by kernel_rfl) (w2.alloc (.cells #[.int .i64 D, .int .i64 N, .slice aS (allW D N).length cS] 50)) (fun W hW => by have hk := HWork.out W hW; rw [hv] at hk; exact hk))
    clear Kx0 Kx1 Kx2 Kk0 Ks0 Ks1 Ks2 hv
    go_wp2_with fail
    refine HDoor.out.mono ?_
    rintro e w4 ⟨rfl, hb4⟩
    have HZ := Lib.hid ((HR.out.below (below1 w2 (.cells #[.int .i64 D, .int .i64 N, .slice aS (allW D N).length cS] 50)) HR.out.1).below hb4 (by omega))
    have r0 := HZ.out.2.1
    have r1 := HZ.out.2.2.1
    have r2 := HZ.out.2.2.2.1
    have z0 := HZ.out.2.2.2.2.1
    have z1 := HZ.out.2.2.2.2.2.1
    have z2 := HZ.out.2.2.2.2.2.2
    have HW4 := Lib.hid (HW3.out.trans (hb4.mono (by omega)))

    clear hb4
    go_wp2
    rw [HVv.out]
    refine bodyPost_ret (v := .tuple #[.agg #[.int .i64 0, .int .i64 0, .slice none 0 0], .int .i64 3]) (by simp [results, Tryz.results34, go_sem, r0, r1, r2]) rfl (SerPost.err 3 rfl ?_)
    have hW := HW4.out
    go_grown

  | some h =>
    have HVv := Lib.hid hv
    have HDoor := Lib.hid (door_yes D N aS cS (allW D N) HWl.out HWs.out h 63 #[.pointer (some ⟨w.heap.size, 0, none⟩), .pointer (some ⟨w.heap.size + 1, 0, none⟩), .pointer (some ⟨w2.heap.size, 0, none⟩)] (fun _ => by kernel_rfl) (w2.alloc (.cells #[.int .i64 D, .int .i64 N, .slice aS (allW D N).length cS] 50)) (fun W hW => by have hk := HWork.out W hW; rw [hv] at hk; exact hk) HNs.out)
    clear Kx0 Kx1 Kx2 Kk0 Ks0 Ks1 Ks2 hv
    go_wp2_with fail
    refine HDoor.out.mono ?_
    rintro e w4 ⟨a4, c4, rfl, hb4, hN4⟩
    have HZ := Lib.hid ((HR.out.below (below1 w2 (.cells #[.int .i64 D, .int .i64 N, .slice aS (allW D N).length cS] 50)) HR.out.1).below hb4 (by omega))
    have r0 := HZ.out.2.1
    have r1 := HZ.out.2.2.1
    have r2 := HZ.out.2.2.2.1
    have z0 := HZ.out.2.2.2.2.1
    have z1 := HZ.out.2.2.2.2.2.1
    have z2 := HZ.out.2.2.2.2.2.2
    have HW4 := Lib.hid (HW3.out.trans (hb4.mono (by omega)))
    have HN4 := Lib.hid hN4
    clear hb4 hN4
    go_wp2
    rw [HVv.out]
    refine bodyPost_ret (v := .tuple #[.agg #[.int .i64 D, .int .i64 N, .slice a4 (termsOf h (allW D N)).length c4], .int .i64 0]) (by simp [results, Tryz.results34, go_sem, r0, r1, r2]) rfl ⟨a4, c4, rfl, ?_, ?_⟩
    · have hW := HW4.out
      go_grown
    · exact (((HN4.out.far1s (n := w.heap.size + 1 + 1) (i := 0) (x := .int .i64 D) (by omega)).far1s (n := w.heap.size + 1 + 1) (i := 1) (x := .int .i64 N) (by omega)).far1s (n := w.heap.size + 1 + 1) (i := 2) (x := .slice a4 (termsOf h (allW D N)).length c4) (by omega)).mono (by omega) (by simp)

end Go.Proofs.YteljpgoaaelbfaaGreatDoor

namespace Go.Proofs.YteljpgoaaelbfaaGreatDoor
open Go.RowKit

def cellsR (zs : List (Int × Int)) : List Value := zs.flatMap fun z => [.int .i64 z.1, .int .i64 z.2]
theorem cellsR_append (xs ys : List (Int × Int)) : cellsR (xs ++ ys) = cellsR xs ++ cellsR ys := by simp [cellsR]
theorem cellsR_cons (t : Int × Int) (ts : List (Int × Int)) : cellsR (t :: ts) = [.int .i64 t.1, .int .i64 t.2] ++ cellsR ts := rfl
theorem cellsR_length : ∀ ts : List (Int × Int), (cellsR ts).length = ts.length * 2
  | [] => rfl
  | t :: ts => by rw [cellsR_cons, List.length_append, cellsR_length ts]; simp; omega
theorem cellsR_get : ∀ (ts : List (Int × Int)) (i : Nat) (h : i < ts.length), (cellsR ts)[i * 2]? = some (.int .i64 (ts[i]).1) ∧ (cellsR ts)[i * 2 + 1]? = some (.int .i64 (ts[i]).2)
  | [], i, h => by simp at h
  | t :: ts, 0, _ => by simp [cellsR_cons]
  | t :: ts, i + 1, h => by
    have ih := cellsR_get ts i (by simpa using h)
    have e0 : (i + 1) * 2 = (i * 2) + 2 := by omega
    have e1 : (i + 1) * 2 + 1 = (i * 2 + 1) + 2 := by omega
    rw [e1, e0, cellsR_cons]
    have k : ∀ j, ([.int .i64 t.1, .int .i64 t.2] ++ cellsR ts)[j + 2]? = (cellsR ts)[j]? := fun j => by
      rw [List.getElem?_append_right (by simp)]; simp
    rw [k, k]
    simpa using ih
theorem cellsR_oneCell (ts : List (Int × Int)) : ∀ u ∈ cellsR ts, u.oneCell' = true := fun u hu => by
  unfold cellsR at hu
  obtain ⟨t, _, h⟩ := List.mem_flatMap.1 hu
  simp at h
  rcases h with rfl | rfl <;> rfl
/-- fractions in memory -/
def FrsIn (w : World) (b off : Nat) (zs : List (Int × Int)) : Prop := ∀ i (h : i < zs.length), w.cell? ⟨b, off + i * 2, none⟩ = some (.int .i64 (zs[i]).1) ∧ w.cell? ⟨b, off + i * 2 + 1, none⟩ = some (.int .i64 (zs[i]).2)
theorem FrsIn.below {w w' : World} {B b off : Nat} {zs : List (Int × Int)} (h : FrsIn w b off zs) (hb : Below B w w') (hlt : b < B) : FrsIn w' b off zs := fun i hi =>
  ⟨(hb.cell (p := ⟨b, off + i * 2, none⟩) hlt).trans (h i hi).1, (hb.cell (p := ⟨b, off + i * 2 + 1, none⟩) hlt).trans (h i hi).2⟩
theorem frs_news {w : World} {b off : Nat} {ts : List (Int × Int)} (h : FrsIn w b off ts) : ∀ j u, (cellsR ts)[j]? = some u → w.cell? ((⟨b, off, none⟩ : Addr).add j) = some u := fun j u hu => by
  have hj : j < ts.length * 2 := by have := (List.getElem?_eq_some_iff.1 hu).1; rwa [cellsR_length] at this
  have hi : j / 2 < ts.length := by omega
  obtain ⟨a0, a1⟩ := cellsR_get ts (j / 2) hi
  obtain ⟨c0, c1⟩ := h (j / 2) hi
  rw [add_at]
  have hr : j = j / 2 * 2 ∨ j = j / 2 * 2 + 1 := by omega
  rcases hr with e | e
  · rw [e, a0] at hu; rw [e, c0]; exact hu
  · rw [e, a1] at hu; rw [e, ← Nat.add_assoc, c1]; exact hu
/-- a row of fractions of the call's own; a row of fractions -/
def NewR (lo hi : Nat) (w : World) (a : Option Addr) (zs : List (Int × Int)) : Prop := zs = [] ∨ ∃ g, a = some ⟨g, 0, none⟩ ∧ lo ≤ g ∧ g < hi ∧ FrsIn w g 0 zs
theorem NewR.mono {lo hi lo' hi' : Nat} {w : World} {a : Option Addr} {zs : List (Int × Int)} (h : NewR lo hi w a zs) (h1 : lo' ≤ lo) (h2 : hi ≤ hi') : NewR lo' hi' w a zs := by
  rcases h with h | ⟨g, e, q1, q2, q3⟩
  · exact .inl h
  · exact .inr ⟨g, e, by omega, by omega, q3⟩
theorem NewR.below {lo hi B : Nat} {w w' : World} {a : Option Addr} {zs : List (Int × Int)} (h : NewR lo hi w a zs) (hb : Below B w w') (hh : hi ≤ B) : NewR lo hi w' a zs := by
  rcases h with h | ⟨g, e, q1, q2, q3⟩
  · exact .inl h
  · exact .inr ⟨g, e, q1, q2, q3.below hb (by omega)⟩
theorem info_frac2 : (Tryz.prog.info? 44).map (fun i => (i.zero, i.size, i.bytes)) = some (some (.agg #[.int .i64 0, .int .i64 0]), 2, 16) := by kernel_rfl
/-- the value owns the fractions, in a row from the block `base` on -/
def OwnR (w : World) (base : Nat) (v : Value) (ts : List (Int × Int)) : Prop := w.ownsRow base 44 2 v ts.length (cellsR ts)
theorem OwnR.nil (w : World) (base : Nat) : OwnR w base (.slice none 0 0) [] := World.ownsRow_nil w base _ 2
theorem OwnR.emptyRow {w : World} {base g : Nat} (h : w.heap[g]? = some (.cells #[] 44 (0, 0))) (hb : base ≤ g) : OwnR w base (.slice (some ⟨g, 0, none⟩) 0 0) [] :=
  ⟨rfl, .inr ⟨g, 0, #[], rfl, hb, h, Nat.le_refl _, by unfold maxLen; omega, rfl, rfl⟩⟩
theorem OwnR.mono {w : World} {base base' : Nat} {v : Value} {ss : List (Int × Int)} (h : OwnR w base v ss) (hb : base' ≤ base) : OwnR w base' v ss := by
  rcases h with ⟨hl, h⟩
  refine ⟨hl, ?_⟩
  rcases h with h | ⟨g, cap, cur, e, hbg, rest⟩
  · exact .inl h
  · exact .inr ⟨g, cap, cur, e, Nat.le_trans hb hbg, rest⟩
theorem OwnR.newRow {w : World} {base : Nat} {v : Value} {ts : List (Int × Int)} (h : OwnR w base v ts) : ∃ a cap, v = .slice a ts.length cap ∧ ts.length ≤ cap ∧ NewR base w.heap.size w a ts := by
  rcases h.2 with ⟨rfl, h0⟩ | ⟨g, cap, cur, rfl, hbg, hg, hnc, hcm, hcs, htake⟩
  · have e : ts = [] := List.eq_nil_of_length_eq_zero h0
    subst e
    exact ⟨none, 0, rfl, Nat.le_refl _, .inl rfl⟩
  · have hlt : g < w.heap.size := by
      rcases Nat.lt_or_ge g w.heap.size with hlt | hge
      · exact hlt
      · rw [Array.getElem?_eq_none hge] at hg; cases hg
    have hcell : ∀ j, w.cell? ⟨g, j, none⟩ = cur[j]? := fun j => cell_of_row w g j cur _ (0, 0) hg
    have hsz : ts.length * 2 ≤ cur.size := by rw [hcs]; exact Nat.mul_le_mul_right 2 hnc
    have hat : ∀ j, j < ts.length * 2 → cur[j]? = (cellsR ts)[j]? := fun j hj => by
      rw [← htake, List.getElem?_take, if_pos hj]; simp
    refine ⟨some ⟨g, 0, none⟩, cap, rfl, hnc, .inr ⟨g, rfl, hbg, hlt, fun i hi => ?_⟩⟩
    obtain ⟨a0, a1⟩ := cellsR_get ts i hi
    simp only [Nat.zero_add]
    exact ⟨by rw [hcell, hat _ (by omega), a0], by rw [hcell, hat _ (by omega), a1]⟩
theorem OwnR.below {B base : Nat} {w w' : World} {v : Value} {ts : List (Int × Int)} (h : OwnR w base v ts) (hb : Below B w w') (hv : ∀ g, v.ownBlock = some g → g < B) : OwnR w' base v ts := by
  rcases h with ⟨hl, h⟩
  refine ⟨hl, ?_⟩
  rcases h with h | ⟨g, cap, cur, rfl, hbg, hg, rest⟩
  · exact .inl h
  · exact .inr ⟨g, cap, cur, rfl, hbg, by rw [hb.block g (hv g rfl)]; exact hg, rest⟩
theorem OwnR.lt {base : Nat} {w : World} {v : Value} {ts : List (Int × Int)} (h : OwnR w base v ts) : ∀ g, v.ownBlock = some g → base ≤ g ∧ g < w.heap.size := fun g hv => by
  rcases h.2 with ⟨rfl, h0⟩ | ⟨g', cap, cur, rfl, hbg, hg, hnc, hcm, hcs, htake⟩
  · simp [Value.ownBlock] at hv
  · have e : g' = g := by simpa [Value.ownBlock] using hv
    subst e
    refine ⟨hbg, ?_⟩
    rcases Nat.lt_or_ge g' w.heap.size with hlt | hge
    · exact hlt
    · rw [Array.getElem?_eq_none hge] at hg; cases hg
theorem OwnR.far {base : Nat} {w : World} {v : Value} {ts : List (Int × Int)} (h : OwnR w base v ts) {p : Addr} (hp : v.ownBlock ≠ some p.block) (u : Value) : OwnR (w.setCell p u) base v ts := by
  rcases h with ⟨hl, h⟩
  refine ⟨hl, ?_⟩
  rcases h with h | ⟨g, cap, cur, rfl, hbg, hg, rest⟩
  · exact .inl h
  · refine .inr ⟨g, cap, cur, rfl, hbg, ?_, rest⟩
    rw [Below.heap_setCell w p u g (fun e => hp (by rw [← e]; rfl))]; exact hg
theorem OwnR.alloc {base : Nat} {w : World} {v : Value} {ts : List (Int × Int)} (h : OwnR w base v ts) (o : Obj) : OwnR (w.alloc o) base v ts :=
  h.below (below1 w o) (fun g hg => (h.lt g hg).2)
set_option maxRecDepth 100000 in
theorem run_append_frs (w : World) (ty : TypeId) (base : Nat) (v : Value) (n : Nat) (xs ys : List (Int × Int)) (hn : n = xs.length) (hown : OwnR w base v xs) (A : Option Addr) (m c : Nat) (hm : m = ys.length)
    (hsrc : m = 0 ∨ ∃ b off, A = some ⟨b, off, none⟩ ∧ FrsIn w b off ys) (hbig : n + m ≤ 4194304) (hbase : base ≤ w.heap.size) :
    ∃ a' c' w', (Builtin.append_ #[70, 70] ty #[v, .slice A m c]).run Tryz.prog w = .ok (.slice a' (n + m) c') w' ∧ OwnR w' base (.slice a' (n + m) c') (xs ++ ys) ∧ w.grownBy w' v.ownBlock ∧
      ((Value.slice a' (n + m) c').ownBlock = v.ownBlock ∨ (Value.slice a' (n + m) c').ownBlock = some w.heap.size) := by
  obtain ⟨i0, hi0, hi1, hi2, hi3⟩ := info_parts info_frac2
  subst hn hm
  have hform : ∀ (W : World) (u : Value) (zs : List (Int × Int)), OwnR W base u zs → ∃ a' c', u = .slice a' zs.length c' := fun W u zs h => by
    obtain ⟨a', c', h1, _, _⟩ := h.newRow
    exact ⟨a', c', h1⟩
  rcases A with _ | ad
  · have h0 : ys = [] := by
      rcases hsrc with h | ⟨b, off, h, _⟩
      · exact List.eq_nil_of_length_eq_zero h
      · cases h
    subst h0
    obtain ⟨a', c', rfl⟩ := hform _ _ _ hown
    refine ⟨a', c', w, ?_, by simpa using hown, World.grownBy.refl w _, .inl rfl⟩
    rcases hown.2 with ⟨h1, h2⟩ | ⟨g, cap, cur, h1, _, _, hnc, _⟩
    · injection h1 with e1 e2 e3
      subst e1 e3
      simp [Builtin.append_, run_underlying Tryz.underlying70, sizeOf, typeInfo, hi0, Builtin.lenOf, Builtin.firstCells, h2]
    · injection h1 with e1 e2 e3
      subst e1 e3
      simp [Builtin.append_, run_underlying Tryz.underlying70, sizeOf, typeInfo, hi0, Builtin.lenOf, Builtin.firstCells, hnc, storeCells]
  · have hnews : ∀ j u, (cellsR ys)[j]? = some u → w.cell? (ad.add j) = some u := fun j u hu => by
      rcases hsrc with h | ⟨b, off, h, ht⟩
      · have e : ys = [] := List.eq_nil_of_length_eq_zero h
        subst e
        simp [cellsR] at hu
      · cases h
        exact frs_news ht j u hu
    obtain ⟨v', w', hr, h2, h3, _, h5⟩ := run_append_own_at (P := Tryz.prog) w base 70 ty 44 i0 _ 2 16 Tryz.underlying70 hi0 hi1 hi2 hi3 rfl (by omega) v xs.length (cellsR xs) hown ad ys.length c (cellsR ys) (cellsR_length ys) hnews (cellsR_oneCell ys) (by unfold maxLen; omega) (by omega) hbase
    have hO : OwnR w' base v' (xs ++ ys) := by
      unfold OwnR
      rw [List.length_append, cellsR_append]
      exact h2
    obtain ⟨a', c', rfl⟩ := hform _ _ _ hO
    rw [List.length_append] at hr hO h5
    exact ⟨a', c', w', hr, hO, h3, h5⟩

theorem wpList_append_frs {ops : Array Oper} {rest : List Oper} {o : Oper} {a : Act} {w : World} {Q : Exit → Act → World → Prop} (hgd : o.guard = none) (s x : Operand)
    (ho : o.op = .call { callee := .builtin .append, args := #[s, x], argTypes := #[70, 70] })
    (base : Nat) (v : Value) (n : Nat) (xs ys : List (Int × Int)) (hs : a.eval s = v) (hn : n = xs.length) (hown : OwnR w base v xs) (A : Option Addr) (m c : Nat) (hx : a.eval x = .slice A m c) (hm : m = ys.length)
    (hsrc : m = 0 ∨ ∃ b off, A = some ⟨b, off, none⟩ ∧ FrsIn w b off ys) (hbig : n + m ≤ 4194304) (hbase : base ≤ w.heap.size)
    (h : ∀ a' c' w', OwnR w' base (.slice a' (n + m) c') (xs ++ ys) → w.grownBy w' v.ownBlock → ((Value.slice a' (n + m) c').ownBlock = v.ownBlock ∨ (Value.slice a' (n + m) c').ownBlock = some w.heap.size) → wpList Tryz.prog ops Q rest (a.put o.dst (.slice a' (n + m) c')) w') :
    wpList Tryz.prog ops Q (o :: rest) a w := by
  refine wpList_plain hgd fun K hK => ?_
  obtain ⟨a', c', w', hr, h2, h3, h4⟩ := run_append_frs w o.type base v n xs ys hn hown A m c hm hsrc hbig hbase
  unfold Oper.wp execOp
  simp only [ho, resolve, invoke, builtin, Sem.run_bind, Sem.run_pure, Result.andThen_ok, List.map_toArray, List.map_cons, List.map_nil, hs, hx, hr]
  exact hK _ _ (h a' c' w' h2 h3 h4)


theorem frs_one (w : World) (n d : Int) : FrsIn (w.alloc (.cells #[.int .i64 n, .int .i64 d] 44)) w.heap.size 0 [(n, d)] := fun i hi => by
  have h0 : i = 0 := by simpa using hi
  subst h0
  simp [go_sem]
theorem OwnR.one (w : World) (n d : Int) : OwnR (w.alloc (.cells #[.int .i64 n, .int .i64 d] 44)) w.heap.size (.slice (some ⟨w.heap.size, 0, none⟩) 1 1) [(n, d)] :=
  ⟨rfl, .inr ⟨w.heap.size, 1, #[.int .i64 n, .int .i64 d], rfl, Nat.le_refl _, heap_alloc_new w _, Nat.le_refl _, by unfold maxLen; omega, rfl, rfl⟩⟩
theorem own_grownR {B : Nat} {w w' : World} {v : Value} {ss : List (Int × Int)} (hO : OwnR w B v ss) (hg : w.grownBy w' v.ownBlock) (hB : B ≤ w.heap.size) : Below B w w' := below_of_grown hg (fun g h => (hO.lt g h).1) hB
end Go.Proofs.YteljpgoaaelbfaaGreatDoor

namespace Go.Proofs.YteljpgoaaelbfaaGreatDoor

def noneF : VF := fun _ => none
/-- the sum of the first k powers, each with its number -/
def sumK (y : VF) (ws : List ByteArray) (f : Nat → Int × Int) : Nat → Option VF
  | 0 => some noneF
  | k + 1 => (sumK y ws f k).bind fun s => (powV y ws k).bind fun p => addK p (f k).1 (f k).2 ws s
theorem sumK_next {y s p : VF} {ws : List ByteArray} {f : Nat → Int × Int} {k : Nat} (h : sumK y ws f k = some s) (hp : powV y ws k = some p) : sumK y ws f (k + 1) = addK p (f k).1 (f k).2 ws s := by
  rw [sumK, h, Option.bind_some, hp]; rfl
theorem sumK_noP {y : VF} {ws : List ByteArray} {f : Nat → Int × Int} {k : Nat} (hp : powV y ws k = none) : sumK y ws f (k + 1) = none := by
  rw [sumK, hp]
  cases sumK y ws f k <;> rfl
theorem sumK_dead {y : VF} {ws : List ByteArray} {f : Nat → Int × Int} {k : Nat} (h : sumK y ws f k = none) : ∀ {m : Nat}, k ≤ m → sumK y ws f m = none
  | 0, hm => by obtain rfl : k = 0 := by omega
                exact h
  | m + 1, hm => by
    by_cases e : k = m + 1
    · subst e; exact h
    · rw [sumK, sumK_dead h (show k ≤ m by omega)]; rfl
theorem good_none (ws : List ByteArray) : GoodV ws noneF := GoodV.none ws
theorem sumK_good {y : VF} {ws : List ByteArray} {f : Nat → Int × Int} : ∀ {k : Nat} {s : VF}, sumK y ws f k = some s → GoodV ws s
  | 0, s, h => by rw [sumK] at h; injection h with h; rw [← h]; exact good_none ws
  | k + 1, s, h => by
    rw [sumK] at h
    obtain ⟨q, h1, h2⟩ := Option.bind_eq_some_iff.1 h
    obtain ⟨p, _, h3⟩ := Option.bind_eq_some_iff.1 h2
    exact GoodV.addK (sumK_good h1) (fun _ h => h) h3
/-- the unit with the number 0 adds nothing to nothing -/
theorem addK_zero : ∀ ws : List ByteArray, addK unitF 0 1 ws noneF = some noneF
  | [] => rfl
  | s :: ws => by
    have h : addStep unitF 0 1 noneF s = some noneF := by
      cases hs : unitF s with
      | none => exact addStep_none hs
      | some v =>
        have hv : v = (1, 1) := by
          unfold unitF setF at hs
          split at hs
          · injection hs with hs; exact hs.symm
          · cases hs
        subst hv
        rw [addStep_some hs, valF_none (show noneF s = none from rfl)]
        have e : apS 0 1 1 1 0 1 = some (0, 1) := by decide
        rw [e, Option.map_some, nzF_0 rfl]
        congr 1
        funext t
        unfold setF noneF
        split <;> rfl
    rw [addK, h, Option.bind_some, addK_zero ws]

def fct : Nat → Int
  | 0 => 1
  | k + 1 => fct k * ((k : Int) + 1)
def expF (k : Nat) : Int × Int := (1, fct k)
def sgn (k : Nat) : Int := if k % 2 = 0 then 1 else -1
def logF (k : Nat) : Int × Int := if k = 0 then (0, 1) else (sgn (k + 1), k)
def altF (k : Nat) : Int × Int := (sgn k, 1)
def numL (f : Nat → Int × Int) (n : Nat) : List (Int × Int) := (List.range n).map f
theorem numL_length (f : Nat → Int × Int) (n : Nat) : (numL f n).length = n := by simp [numL]
theorem numL_succ (f : Nat → Int × Int) (n : Nat) : numL f (n + 1) = numL f n ++ [f n] := by simp [numL, List.range_succ]
theorem numL_get {f : Nat → Int × Int} {n i : Nat} (h : i < (numL f n).length) : (numL f n)[i] = f i := by simp [numL]
theorem fct_bd {k : Nat} (h : k ≤ 6) : 1 ≤ fct k ∧ fct k ≤ 720 := by
  have h7 : k = 0 ∨ k = 1 ∨ k = 2 ∨ k = 3 ∨ k = 4 ∨ k = 5 ∨ k = 6 := by omega
  rcases h7 with rfl | rfl | rfl | rfl | rfl | rfl | rfl <;> decide
theorem sgn_next (k : Nat) : sgn (k + 1) = - sgn k := by
  unfold sgn
  by_cases h : k % 2 = 0
  · rw [if_pos h, if_neg (by omega)]
  · rw [if_neg h, if_pos (by omega)]; rfl
theorem sgn_bd (k : Nat) : sgn k = 1 ∨ sgn k = -1 := by
  unfold sgn
  split
  · exact .inl rfl
  · exact .inr rfl
theorem expF_isF {k : Nat} (h : k ≤ 5) : isF (expF k).1 (expF k).2 = true := by
  have h7 : k = 0 ∨ k = 1 ∨ k = 2 ∨ k = 3 ∨ k = 4 ∨ k = 5 := by omega
  rcases h7 with rfl | rfl | rfl | rfl | rfl | rfl <;> decide
theorem logF_isF {k : Nat} (h : k ≤ 5) : isF (logF k).1 (logF k).2 = true := by
  have h7 : k = 0 ∨ k = 1 ∨ k = 2 ∨ k = 3 ∨ k = 4 ∨ k = 5 := by omega
  rcases h7 with rfl | rfl | rfl | rfl | rfl | rfl <;> decide
theorem altF_isF (k : Nat) : isF (altF k).1 (altF k).2 = true := by
  unfold altF
  rcases sgn_bd k with h | h <;> rw [h] <;> decide
theorem expF_nz (k : Nat) : (expF k).1 ≠ 0 := by simp [expF]
theorem altF_nz (k : Nat) : (altF k).1 ≠ 0 := by
  unfold altF
  rcases sgn_bd k with h | h <;> rw [h] <;> decide
theorem logF_nz {k : Nat} (h : k ≠ 0) : (logF k).1 ≠ 0 := by
  unfold logF
  rw [if_neg h]
  rcases sgn_bd (k + 1) with h | h <;> rw [h] <;> simp
end Go.Proofs.YteljpgoaaelbfaaGreatDoor

namespace Go.Proofs.YteljpgoaaelbfaaGreatDoor
open Go.RowKit

/-- a function that returns a row of fractions of its own -/
def NumsR (zs : List (Int × Int)) (W : World) (e : Ending) (w' : World) : Prop := ∃ (a : Option Addr) (c : Nat), e = .returned (.slice a zs.length c) ∧ Below W.heap.size W w' ∧ NewR W.heap.size w'.heap.size w' a zs
theorem OwnR.end_ {w w' : World} {a : Option Addr} {l c : Nat} {zs : List (Int × Int)} (h : OwnR w' w.heap.size (.slice a l c) zs) : l = zs.length ∧ NewR w.heap.size w'.heap.size w' a zs := by
  obtain ⟨a', c', he, _, hN⟩ := h.newRow
  injection he with e1 e2 e3
  subst e1 e2
  exact ⟨rfl, hN⟩

set_option maxHeartbeats 2000000 in
theorem expNumbers_c (N : Nat) (hN : N ≤ 5) (w : World) : Calls Tryz.prog 80 #[.int .i64 N] w (NumsR (numL expF (N + 1)) w) := by
  go_enter Tryz.func80, Tryz.ntmps80
  go_wp2_with fail
  refine (wholeFraction_c _ _).mono ?_
  rintro e w1 ⟨rfl, hb1⟩
  have hz1 := hb1.size
  have HB1 := Lib.hid hb1
  clear hb1
  go_wp2_with fail
  go_loopw [3, 4, 9] (fun vl vf vk wr => ∃ (k : Nat) (a : Option Addr) (l c : Nat), k ≤ N ∧ vk = .int .i64 k ∧ vf = .int .i64 (fct k) ∧ vl = .slice a l c ∧ l = k + 1 ∧ OwnR wr w.heap.size (.slice a l c) (numL expF (k + 1)) ∧ Below w.heap.size w wr) (fun _ _ vk _ => N - (intOf vk).toNat)
  case atStart => exact ⟨0, _, 1, 1, Nat.zero_le _, rfl, rfl, rfl, rfl, (OwnR.one w1 1 1).mono hz1, HB1.out.alloc hz1 _⟩
  case round =>
    obtain ⟨k, av, lv, cv, hk, rfl, rfl, rfl, hl, hO, hB⟩ := hrel
    have HO := Lib.hid hO
    have HL := Lib.hid hl
    have HB := Lib.hid hB
    have HSz := Lib.hid hB.size
    have hl9 : lv ≤ 6 := by omega
    have hf1 := fct_bd (k := k) (by omega)
    have hf2 := fct_bd (k := k + 1) (by omega)
    have HF := Lib.hid (show fct (k + 1) = fct k * ((k : Int) + 1) from rfl)
    rw [HF.out] at hf2
    have HNs := Lib.hid (numL_succ expF (k + 1))
    have HE := Lib.hid (show expF (k + 1) = (1, fct k * ((k : Int) + 1)) from rfl)
    rw [HE.out] at HNs
    generalize fct k = q at *
    obtain ⟨r, hr⟩ : ∃ r, q * ((k : Int) + 1) = r := ⟨_, rfl⟩
    rw [hr] at hf2 HF HNs HE
    clear hO hl hB
    by_cases hlt : k < N
    · go_wp2_with (at_builtin; refine wpList_append_frs rfl _ _ rfl w.heap.size (.slice av lv cv) lv (numL expF (k + 1)) [(1, r)] rfl (by rw [numL_length]; exact HL.out) (HO.out.alloc _) (some ⟨wr.heap.size, 0, none⟩) 1 1 rfl rfl (.inr ⟨wr.heap.size, 0, rfl, frs_one wr 1 r⟩) (by omega) (by have := HSz.out; simp; omega) ?_)
      intro a3 c3 w3 hO3 hG3 _
      have HB3 := Lib.hid (HB.out.trans (((below1 wr (.cells #[.int .i64 1, .int .i64 r] 44)).mono HSz.out).trans (own_grownR (HO.out.alloc _) hG3 (by have := HSz.out; simp; omega))))
      have HO3 := Lib.hid hO3
      clear hO3 hG3
      go_wp2
      go_roundw
      case rel => exact ⟨k + 1, a3, lv + 1, c3, by omega, by go_num, by rw [HF.out], rfl, by rw [HL.out], by rw [HNs.out]; exact HO3.out, HB3.out⟩
      case measure => simp [intOf]; omega
    · obtain rfl : k = N := by omega
      go_wp2
      go_ret
      exact ⟨av, cv, by rw [numL_length, ← HL.out]; rfl, HB.out, HO.out.end_.2⟩
end Go.Proofs.YteljpgoaaelbfaaGreatDoor

namespace Go.Proofs.YteljpgoaaelbfaaGreatDoor
open Go.RowKit

theorem powV_goodW {ws : List ByteArray} (hu : GoodV ws unitF) {base : VF} : ∀ {k : Nat} {p : VF}, powV base ws k = some p → GoodV ws p
  | 0, p, h => by rw [powV] at h; injection h with h; rw [← h]; exact hu
  | k + 1, p, h => by
    rw [powV] at h
    obtain ⟨q, _, h2⟩ := Option.bind_eq_some_iff.1 h
    exact GoodV.prodV h2

set_option maxRecDepth 100000 in
set_option maxHeartbeats 8000000 in
theorem sumOfPowers_c (L V : Int) (A : Option Addr) (cap : Nat) (ws : List ByteArray) (hl : ws.length ≤ 100000) (hs : ∀ s ∈ ws, s.size ≤ 1000) (hu : GoodV ws unitF) (y : VF) (hy : GoodV ws y) (b1 n1 : Nat) (f : Nat → Int × Int) (m : Nat) (hm : m ≤ 6) (hf : ∀ k, k < m → isF (f k).1 (f k).2 = true) (aN : Option Addr) (cN : Nat) (w : World) (hr : SRow w A ws) (hA : ∀ p, A = some p → p.block < w.heap.size) (m1 : MapV w b1 n1 y) (hN : NewR 0 w.heap.size w aN (numL f m)) :
    Calls Tryz.prog 79 #[.agg #[.int .i64 L, .int .i64 V, .slice A ws.length cap], .map (some b1), .slice aN m cN] w (FewPost (sumK y ws f m) (m * ws.length) w) := by
  have hmm := @run_makeMap Tryz.prog
  obtain ⟨o, ho⟩ : ∃ o, sumK y ws f m = o := ⟨_, rfl⟩
  rw [ho]
  have HOut := Lib.hid ho
  have HR := Lib.hid hr
  have HS := Lib.hid hs
  have HU := Lib.hid hu
  have HY := Lib.hid (show ∀ s p, y s = some p → isF p.1 p.2 = true from fun s p e => (hy s p e).2.1)
  have HM1 := Lib.hid m1
  have HA := Lib.hid hA
  have HN := Lib.hid hN
  have HFr := Lib.hid hf
  have hbl1 := m1.lt
  clear hr hs hy m1 hA hN hf ho hu
  go_enter Tryz.func79, Tryz.ntmps79
  go_wp2_with fail
  refine (unitValues_c _).mono ?_
  rintro e w2 ⟨b2, rfl, hb2m, hb2, hM2⟩
  clear hmm
  have hb2' : Below (w.heap.size + 1 + 1) ((w.alloc (.cells #[.int .i64 L, .int .i64 V, .slice A ws.length cap] 50)).alloc (.map #[] 0)) w2 := by simpa using hb2
  have hb2l : w.heap.size + 1 + 1 ≤ b2 := by simpa using hb2m
  have HS0 := Lib.hid ((MapV.made (w.alloc (.cells #[.int .i64 L, .int .i64 V, .slice A ws.length cap] 50))).below hb2' (by simp))
  have HB2 := Lib.hid (show Below (w.heap.size + 1) (w.alloc (.cells #[.int .i64 L, .int .i64 V, .slice A ws.length cap] 50)) w2 from ((Below.refl _ _).alloc (by simp) _).trans (hb2'.mono (by omega)))
  have HM2 := Lib.hid hM2
  have hz2 : w.heap.size + 1 + 1 ≤ w2.heap.size := by have := hb2'.size; simp at this; omega
  clear hb2 hb2' hb2m hM2
  go_wp2_with fail
  go_loopw [8, 15] (fun vp vk wr => ∃ (k : Nat) (s p : VF) (b n : Nat), k ≤ m ∧ vk = .int .i64 k ∧ vp = .map (some b) ∧ sumK y ws f k = some s ∧ powV y ws (k - 1) = some p ∧ w.heap.size + 1 < b ∧ n ≤ 900000 ∧ MapV wr b n p ∧ MapV wr (w.heap.size + 1) (k * ws.length) s ∧ Below (w.heap.size + 1) (w.alloc (.cells #[.int .i64 L, .int .i64 V, .slice A ws.length cap] 50)) wr) (fun _ vk _ => m - (intOf vk).toNat)
  case atStart => exact ⟨0, noneF, unitF, b2, 1, Nat.zero_le _, rfl, rfl, rfl, rfl, by omega, by omega, HM2.out, by rw [Nat.zero_mul]; have h := HS0.out; simp only [World.size_alloc] at h; exact h, HB2.out⟩
  case round =>
    obtain ⟨k, s, p, b, n, hk, rfl, rfl, hsk, hpk, hbw, hnb, hMp, hMs, hB⟩ := hrel
    have HNb := Lib.hid hnb
    have HSk := Lib.hid hsk
    have HPk := Lib.hid hpk
    have HMp := Lib.hid hMp
    have HMs := Lib.hid hMs
    have HB := Lib.hid hB
    have hzr := hB.size
    simp only [World.size_alloc] at hzr
    have hbb := hMp.lt
    have hkm : k * ws.length ≤ 6 * 100000 := Nat.mul_le_mul (by omega) hl
    have HGs := Lib.hid (sumK_good hsk)
    have HGp := Lib.hid (powV_goodW HU.out hpk)
    clear hsk hpk hMp hMs hB
    obtain ⟨wo, rfl⟩ : ∃ wo : World, wo = wr := ⟨_, rfl⟩
    by_cases hlt : k < m
    · have hBw := Lib.hid ((below1 w (.cells #[.int .i64 L, .int .i64 V, .slice A ws.length cap] 50)).trans (HB.out.mono (Nat.le_succ _)))
      have hx : ∀ j, wo.cell? ⟨w.heap.size, j, none⟩ = (w.alloc (.cells #[.int .i64 L, .int .i64 V, .slice A ws.length cap] 50)).cell? ⟨w.heap.size, j, none⟩ := fun j => HB.out.cell (p := ⟨w.heap.size, j, none⟩) (Nat.lt_succ_self _)
      have s0 : wo.cell? ⟨w.heap.size, 0, none⟩ = some (.int .i64 L) := (hx 0).trans (by go_simp)
      have s1 : wo.cell? ⟨w.heap.size, 1, none⟩ = some (.int .i64 V) := (hx 1).trans (by go_simp)
      have s2 : wo.cell? ⟨w.heap.size, 2, none⟩ = some (.slice A ws.length cap) := (hx 2).trans (by go_simp)
      have hwo : w.heap.size < wo.heap.size := by omega
      rcases HN.out.below hBw.out (Nat.le_refl _) with h | ⟨g, rfl, _, hgl, hFr⟩
      · exfalso
        have := numL_length f m
        rw [h] at this
        simp at this
        omega
      obtain ⟨c0, c1⟩ := hFr k (by rw [numL_length]; exact hlt)
      rw [numL_get] at c0 c1
      simp only [Nat.zero_add] at c0 c1
      have HIf := Lib.hid (HFr.out k hlt)
      have HNx := Lib.hid (fun q (hq : powV y ws k = some q) => sumK_next (f := f) HSk.out hq)
      have HNo := Lib.hid (fun (hq : powV y ws k = none) => sumK_dead (sumK_noP (f := f) hq) (show k + 1 ≤ m from hlt))
      have HDd := Lib.hid (fun (hq : sumK y ws f (k + 1) = none) => sumK_dead hq (show k + 1 ≤ m from hlt))
      obtain ⟨fa, hfa⟩ : ∃ fa, (f k).1 = fa := ⟨_, rfl⟩
      obtain ⟨fb, hfb⟩ : ∃ fb, (f k).2 = fb := ⟨_, rfl⟩
      rw [hfa] at c0 HIf
      rw [hfb] at c1 HIf
      simp only [hfa, hfb] at HNx
      clear hx hFr hfa hfb
      cases hq : powV y ws k with
      | none =>
        have HF := Lib.hid (HNo.out hq)
        have hk0 : k ≠ 0 := by
          intro e
          subst e
          rw [powV] at hq
          cases hq
        have hPn : prodV p y ws = none := by
          have := powV_next (k := k - 1) HPk.out
          rw [Nat.sub_add_cancel (by omega)] at this
          rw [← this]; exact hq
        have HPr := Lib.hid (fun W h1 h2 h3 => productFew_c L V A cap ws (by omega) HS.out p y (fun s q e => (HGp.out s q e).2.1) HY.out b n b1 n1 W h1 h2 h3)
        rw [hPn] at HPr
        have hki : (0 : Int) < (k : Int) := by omega
        clear hq hPn
        go_wp2_with fail
        refine (HPr.out _ ((HR.out.below hBw.out (Nat.le_refl _)).below (below1 wo _) (by omega)) (HMp.out.alloc _) ((HM1.out.below hBw.out hbl1).alloc _)).mono ?_
        rintro e w3 ⟨rfl, hb3⟩
        have HB3 := Lib.hid (hBw.out.trans (((below1 wo (.cells #[.int .i64 fa, .int .i64 fb] 44)).mono (by omega)).trans (hb3.mono (by simp; omega))))
        clear hb3
        go_wp2
        have e : o = none := HOut.out.symm.trans HF.out
        rw [e]
        exact ⟨rfl, rfl, HB3.out⟩
      | some p' =>
        have HAd := Lib.hid (HNx.out p' hq)
        have HGp' := Lib.hid (powV_goodW HU.out hq)
        have HQ := Lib.hid hq
        clear HNx HNo
        by_cases hk0 : k = 0
        · have hpp : p' = p := by
            have h1 := HPk.out
            have h2 := hq
            subst hk0
            exact Option.some.inj (h2.symm.trans h1)
          have hki : ¬ (0 : Int) < (k : Int) := by omega
          subst hpp
          clear hq hk0
          have hnle : n ≤ 900000 := HNb.out
          have HAm := Lib.hid (addMultiple_c L V A cap ws hl HS.out s p' HGs.out (fun t q e => (HGp'.out t q e).2.1) fa fb HIf.out (w.heap.size + 1) (k * ws.length) b n (by omega) (by omega) (wo.alloc (.cells #[.int .i64 fa, .int .i64 fb] 44)) ((HR.out.below hBw.out (Nat.le_refl _)).below (below1 wo _) (by omega)) (fun q e => by have := HA.out q e; omega) (HMs.out.alloc _) (HMp.out.alloc _))
          go_wp2_with fail
          refine HAm.out.mono ?_
          cases hs : addK p' fa fb ws s with
          | none =>
            rintro e w5 ⟨rfl, hG⟩
            have HF := Lib.hid (HDd.out (HAd.out.trans hs))
            have HB5 := Lib.hid ((hBw.out.trans ((below1 wo _).mono (by omega))).trans (below_of_grown hG (fun g e => by injection e with e; omega) (by simp; omega)))
            clear hG hs
            go_wp2
            have e : o = none := HOut.out.symm.trans HF.out
            rw [e]
            exact ⟨rfl, rfl, HB5.out⟩
          | some s' =>
            rintro e w5 ⟨rfl, hM5, hG⟩
            have HSn := Lib.hid (HAd.out.trans hs)
            have HB5 := Lib.hid ((HB.out.trans ((below1 wo _).mono (by omega))).trans (below_of_grown (B := w.heap.size + 1) hG (fun g e => by injection e with e; omega) (by simp; omega)))
            have HM5 := Lib.hid (show MapV w5 (w.heap.size + 1) ((k + 1) * ws.length) s' from by rw [Nat.add_mul, Nat.one_mul]; exact hM5)
            have HP5 := Lib.hid (MapV.grown (HMp.out.alloc _) hG (by intro e; injection e with e; omega))
            clear hG hs hM5
            go_wp2
            go_roundw
            case rel => exact ⟨k + 1, s', p', b, n, by omega, by go_num, rfl, HSn.out, by rw [Nat.add_sub_cancel]; exact HQ.out, by omega, hnle, HP5.out, HM5.out, HB5.out⟩
            case measure => simp [intOf]; omega
        · have hki : (0 : Int) < (k : Int) := by omega
          have hPn : prodV p y ws = some p' := by
            have := powV_next (k := k - 1) HPk.out
            rw [Nat.sub_add_cancel (by omega)] at this
            rw [← this]; exact hq
          have HPr := Lib.hid (fun W h1 h2 h3 => productFew_c L V A cap ws (by omega) HS.out p y (fun s q e => (HGp.out s q e).2.1) HY.out b n b1 n1 W h1 h2 h3)
          rw [hPn] at HPr
          clear hq hPn
          go_wp2_with fail
          refine (HPr.out _ ((HR.out.below hBw.out (Nat.le_refl _)).below (below1 wo _) (by omega)) (HMp.out.alloc _) ((HM1.out.below hBw.out hbl1).alloc _)).mono ?_
          rintro e w3 ⟨b3, n3, rfl, hb3l, hb3, hn3, hM3⟩
          have hb3' : Below wo.heap.size wo w3 := (below1 wo (.cells #[.int .i64 fa, .int .i64 fb] 44)).trans (hb3.mono (by simp))
          have hz3 := hb3'.size
          have hb3w : wo.heap.size < b3 := by have := hb3l; simp at this; omega
          have HB3 := Lib.hid (hBw.out.trans (hb3'.mono (by omega)))
          have HB31 := Lib.hid (HB.out.trans (hb3'.mono (by omega)))
          have HMs3 := Lib.hid (HMs.out.below hb3' (by omega))
          have HMp3 := Lib.hid hM3
          have hc3 := bcellB hb3
          have d0 : w3.cell? ⟨wo.heap.size, 0, none⟩ = some (.int .i64 fa) := (hc3.1 _ _ (by simp)).trans (by go_simp)
          have d1 : w3.cell? ⟨wo.heap.size, 1, none⟩ = some (.int .i64 fb) := (hc3.1 _ _ (by simp)).trans (by go_simp)
          have e0 : w3.cell? ⟨w.heap.size, 0, none⟩ = some (.int .i64 L) := (hb3'.cell (p := ⟨w.heap.size, 0, none⟩) hwo).trans s0
          have e1 : w3.cell? ⟨w.heap.size, 1, none⟩ = some (.int .i64 V) := (hb3'.cell (p := ⟨w.heap.size, 1, none⟩) hwo).trans s1
          have e2 : w3.cell? ⟨w.heap.size, 2, none⟩ = some (.slice A ws.length cap) := (hb3'.cell (p := ⟨w.heap.size, 2, none⟩) hwo).trans s2
          have hnle : n3 ≤ 900000 := by omega
          clear hb3 hb3' hM3 hc3 hb3l
          have HAm := Lib.hid (addMultiple_c L V A cap ws hl HS.out s p' HGs.out (fun t q e => (HGp'.out t q e).2.1) fa fb HIf.out (w.heap.size + 1) (k * ws.length) b3 n3 (by omega) (by omega) w3 (HR.out.below HB3.out (Nat.le_refl _)) (fun q e => by have := HA.out q e; omega) HMs3.out HMp3.out)
          go_wp2_with fail
          refine HAm.out.mono ?_
          cases hs : addK p' fa fb ws s with
          | none =>
            rintro e w5 ⟨rfl, hG⟩
            have HF := Lib.hid (HDd.out (HAd.out.trans hs))
            have HB5 := Lib.hid (HB3.out.trans (below_of_grown hG (fun g e => by injection e with e; omega) (by omega)))
            clear hG hs
            go_wp2
            have e : o = none := HOut.out.symm.trans HF.out
            rw [e]
            exact ⟨rfl, rfl, HB5.out⟩
          | some s' =>
            rintro e w5 ⟨rfl, hM5, hG⟩
            have HSn := Lib.hid (HAd.out.trans hs)
            have HB5 := Lib.hid (HB31.out.trans (below_of_grown (B := w.heap.size + 1) hG (fun g e => by injection e with e; omega) (by omega)))
            have HM5 := Lib.hid (show MapV w5 (w.heap.size + 1) ((k + 1) * ws.length) s' from by rw [Nat.add_mul, Nat.one_mul]; exact hM5)
            have HP5 := Lib.hid (MapV.grown HMp3.out hG (by intro e; injection e with e; omega))
            clear hG hs hM5
            go_wp2
            go_roundw
            case rel => exact ⟨k + 1, s', p', b3, n3, by omega, by go_num, rfl, HSn.out, by rw [Nat.add_sub_cancel]; exact HQ.out, by omega, hnle, HP5.out, HM5.out, HB5.out⟩
            case measure => simp [intOf]; omega
    · obtain rfl : k = m := by omega
      have HO2 := Lib.hid (HOut.out.symm.trans HSk.out)
      go_wp2
      rw [HO2.out]
      go_ret
      exact ⟨w.heap.size + 1, k * ws.length, rfl, by omega, (below1 w _).trans (HB.out.mono (Nat.le_succ _)), Nat.le_refl _, HMs.out⟩
end Go.Proofs.YteljpgoaaelbfaaGreatDoor

namespace Go.Proofs.YteljpgoaaelbfaaGreatDoor
open Go.RowKit

/-- a series' values times a number, less the unit -/
def lessV (x : VF) (a b : Int) (ws : List ByteArray) : Option VF := (addK x a b ws noneF).bind fun h => addK unitF (-1) 1 ws h
theorem lessV_none {x : VF} {a b : Int} {ws : List ByteArray} (h : addK x a b ws noneF = none) : lessV x a b ws = none := by unfold lessV; rw [h]; rfl
theorem lessV_some {x h : VF} {a b : Int} {ws : List ByteArray} (e : addK x a b ws noneF = some h) : lessV x a b ws = addK unitF (-1) 1 ws h := by unfold lessV; rw [e]; rfl
theorem lessV_good {x y : VF} {a b : Int} {ws : List ByteArray} (e : lessV x a b ws = some y) : GoodV ws y := by
  unfold lessV at e
  obtain ⟨h, h1, h2⟩ := Option.bind_eq_some_iff.1 e
  exact GoodV.addK (GoodV.addK (good_none ws) (fun _ h => h) h1) (fun _ h => h) h2
def expV (x : VF) (ws : List ByteArray) (N : Nat) : Option VF := sumK x ws expF (N + 1)
def logV (x : VF) (ws : List ByteArray) (N : Nat) : Option VF := (lessV x 1 1 ws).bind fun y => sumK y ws logF (N + 1)
theorem dead_few {f : FuncId} {args : Array Value} {w : World} {m : Nat} {R : Ending → World → Prop} (v : Value) (h : Calls Tryz.prog f args w (FewPost none m w)) (hp : ∀ w', Below w.heap.size w w' → R (.panicked [misP 3]) w') (_h : Hid False → R (.returned v) w) : Calls Tryz.prog f args w R := by
  refine h.mono ?_
  rintro e w' ⟨rfl, hb⟩
  exact hp w' hb

section
variable (L V : Int) (A : Option Addr) (cap : Nat) (ws : List ByteArray) (hl : ws.length ≤ 100000) (hs : ∀ s ∈ ws, s.size ≤ 1000) (x : VF) (hx : GoodV ws x) (b1 n1 : Nat) (w : World) (hr : SRow w A ws) (hA : ∀ p, A = some p → p.block < w.heap.size) (m1 : MapV w b1 n1 x)
include hl hs hx hr hA m1
set_option maxRecDepth 100000 in
set_option maxHeartbeats 4000000 in
theorem multiple_c (a b : Int) (ha : isF a b = true) :
    Calls Tryz.prog 33 #[.agg #[.int .i64 L, .int .i64 V, .slice A ws.length cap], .map (some b1), .agg #[.int .i64 a, .int .i64 b]] w (FewPost (addK x a b ws noneF) ws.length w) := by
  have hmm := @run_makeMap Tryz.prog
  obtain ⟨o, ho⟩ : ∃ o, addK x a b ws noneF = o := ⟨_, rfl⟩
  rw [ho]
  have HO := Lib.hid ho
  have HR := Lib.hid hr
  have HS := Lib.hid hs
  have HX := Lib.hid (show ∀ s p, x s = some p → isF p.1 p.2 = true from fun s p e => (hx s p e).2.1)
  have HM1 := Lib.hid m1
  have HA := Lib.hid hA
  have hbl1 := m1.lt
  clear hr hs hx m1 hA ho
  go_enter Tryz.func33, Tryz.ntmps33
  go_wp2_with fail
  have HB3 := Lib.hid (below3 w (.cells #[.int .i64 L, .int .i64 V, .slice A ws.length cap] 50) (.cells #[.int .i64 a, .int .i64 b] 44) (.map #[] 0))
  have hmade := MapV.made ((w.alloc (.cells #[.int .i64 L, .int .i64 V, .slice A ws.length cap] 50)).alloc (.cells #[.int .i64 a, .int .i64 b] 44))
  simp only [World.size_alloc] at hmade
  have HAm := Lib.hid (addMultiple_c L V A cap ws hl HS.out noneF x (good_none ws) HX.out a b ha (w.heap.size + 1 + 1) 0 b1 n1 (by omega) (by omega) _ (HR.out.below HB3.out (Nat.le_refl _)) (fun q e => by have := HA.out q e; omega) hmade (HM1.out.below HB3.out hbl1))
  rw [HO.out] at HAm
  clear hmm hmade
  refine HAm.out.mono ?_
  cases o with
  | none =>
    rintro e w5 ⟨rfl, hG⟩
    have HB5 := Lib.hid (HB3.out.trans (below_of_grown hG (fun g e => by injection e with e; omega) (by simp; omega)))
    clear hG
    go_wp2
    exact ⟨rfl, rfl, HB5.out⟩
  | some h =>
    rintro e w5 ⟨rfl, hM5, hG⟩
    have HB5 := Lib.hid (HB3.out.trans (below_of_grown hG (fun g e => by injection e with e; omega) (by simp; omega)))
    have HM5 := Lib.hid hM5
    clear hG hM5
    go_wp2
    go_ret
    exact ⟨w.heap.size + 1 + 1, 0 + ws.length, rfl, by omega, HB5.out, by omega, HM5.out⟩

end
end Go.Proofs.YteljpgoaaelbfaaGreatDoor

namespace Go.Proofs.YteljpgoaaelbfaaGreatDoor
open Go.RowKit

/-- a function that returns the first numbers, in a row of its own -/
def NumsF (f : Nat → Int × Int) (m : Nat) (W : World) (e : Ending) (w' : World) : Prop := ∃ (a : Option Addr) (c : Nat), e = .returned (.slice a m c) ∧ Below W.heap.size W w' ∧ NewR W.heap.size w'.heap.size w' a (numL f m)
theorem NumsF.of {f : Nat → Int × Int} {m : Nat} {W : World} : ∀ e w', NumsR (numL f m) W e w' → NumsF f m W e w' := by
  rintro e w' ⟨a, c, he, h1, h2⟩
  rw [numL_length] at he
  exact ⟨a, c, he, h1, h2⟩
theorem below_up {B C : Nat} {W1 W2 w' : World} (h : Below B W1 W2) (hz : B ≤ W2.heap.size) (hb : Below C W2 w') (hC : C = W2.heap.size) : Below B W1 w' := h.trans (hb.mono (by omega))

section
variable (L : Int) (N : Nat) (hN : N ≤ 5) (A : Option Addr) (cap : Nat) (ws : List ByteArray) (hl : ws.length ≤ 100000) (hs : ∀ s ∈ ws, s.size ≤ 1000) (hu : GoodV ws unitF) (x : VF) (hx : GoodV ws x) (b1 n1 : Nat) (w : World) (hr : SRow w A ws) (hA : ∀ p, A = some p → p.block < w.heap.size) (m1 : MapV w b1 n1 x)
include hN hl hs hu hx hr hA m1
set_option maxRecDepth 100000 in
set_option maxHeartbeats 4000000 in
theorem exponential_1 (h1 : expV x ws N = none) :
    Calls Tryz.prog 61 #[.agg #[.int .i64 L, .int .i64 N, .slice A ws.length cap], .map (some b1)] w (FewPost none ((N + 1) * ws.length) w) := by
  have HE := Lib.hid (show sumK x ws expF (N + 1) = none from h1)
  have HR := Lib.hid hr
  have HS := Lib.hid hs
  have HU := Lib.hid hu
  have HX := Lib.hid hx
  have HM1 := Lib.hid m1
  have HA := Lib.hid hA
  have hbl1 := m1.lt
  have HB0 := Lib.hid (below1 w (.cells #[.int .i64 L, .int .i64 N, .slice A ws.length cap] 50))
  have hz0 : (w.alloc (.cells #[.int .i64 L, .int .i64 N, .slice A ws.length cap] 50)).heap.size = w.heap.size + 1 := by simp
  have KS := Lib.hid (show ∀ w', Below (w.heap.size + 1) (w.alloc (.cells #[.int .i64 L, .int .i64 N, .slice A ws.length cap] 50)) w' → (w'.cell? ⟨w.heap.size, 0, none⟩ = some (.int .i64 L) ∧ w'.cell? ⟨w.heap.size, 1, none⟩ = some (.int .i64 N) ∧ w'.cell? ⟨w.heap.size, 2, none⟩ = some (.slice A ws.length cap)) from fun w' hw => ⟨(hw.cell (p := ⟨w.heap.size, 0, none⟩) (Nat.lt_succ_self _)).trans (by go_simp), (hw.cell (p := ⟨w.heap.size, 1, none⟩) (Nat.lt_succ_self _)).trans (by go_simp), (hw.cell (p := ⟨w.heap.size, 2, none⟩) (Nat.lt_succ_self _)).trans (by go_simp)⟩)
  clear hr hs hx m1 hA h1 hu
  go_enter Tryz.func61, Tryz.ntmps61
  go_upto_region 1 with fail
  go_region_held2 (fun w' => w'.cell? ⟨w.heap.size, 0, none⟩ = some (.int .i64 L) ∧ w'.cell? ⟨w.heap.size, 1, none⟩ = some (.int .i64 N) ∧ w'.cell? ⟨w.heap.size, 2, none⟩ = some (.slice A ws.length cap))
    (first | (exact KS.out _ (Below.drew (Below.refl _ _))) | (exact KS.out _ hb2) | (exact KS.out _ hb9) | fail)
    (first
      | (go_at_call 80; refine ((expNumbers_c N hN _).mono NumsF.of).mono ?_; rintro e w2 ⟨aN, cN, rfl, hb0, hNr⟩; have hb2 : Below (w.heap.size + 1) (w.alloc (.cells #[.int .i64 L, .int .i64 N, .slice A ws.length cap] 50)) w2 := ⟨hb0.os, hb0.tape, hb0.output, by have := hb0.size; simpa using this, fun j hj => hb0.block j (by simpa using hj)⟩)
      | (go_at_call 79; have hSp := sumOfPowers_c L N A cap ws hl HS.out HU.out x HX.out b1 n1 expF (N + 1) (by omega) (fun k hk => expF_isF (by omega)) aN cN w2 (HR.out.below (HB0.out.trans (hb2.mono (Nat.le_succ _))) (Nat.le_refl _)) (fun q e => Nat.lt_of_lt_of_le (HA.out q e) (HB0.out.trans (hb2.mono (Nat.le_succ _))).size) (HM1.out.below (HB0.out.trans (hb2.mono (Nat.le_succ _))) hbl1) (hNr.mono (Nat.zero_le _) (Nat.le_refl _)); rw [HE.out] at hSp; refine dead_few (.map none) hSp (fun w9 hb9 => ⟨rfl, ⟨rfl, HB0.out.trans ((hb2.mono (Nat.le_succ _)).trans (hb9.mono (HB0.out.trans (hb2.mono (Nat.le_succ _))).size))⟩⟩) ?_; intro hF)
      | fail)
  all_goals exact hF.out.elim
set_option maxRecDepth 100000 in
set_option maxHeartbeats 4000000 in
theorem exponential_2 (h : VF) (h1 : expV x ws N = some h) :
    Calls Tryz.prog 61 #[.agg #[.int .i64 L, .int .i64 N, .slice A ws.length cap], .map (some b1)] w (FewPost (some h) ((N + 1) * ws.length) w) := by
  have HE := Lib.hid (show sumK x ws expF (N + 1) = some h from h1)
  have HR := Lib.hid hr
  have HS := Lib.hid hs
  have HU := Lib.hid hu
  have HX := Lib.hid hx
  have HM1 := Lib.hid m1
  have HA := Lib.hid hA
  have hbl1 := m1.lt
  have HB0 := Lib.hid (below1 w (.cells #[.int .i64 L, .int .i64 N, .slice A ws.length cap] 50))
  have hz0 : (w.alloc (.cells #[.int .i64 L, .int .i64 N, .slice A ws.length cap] 50)).heap.size = w.heap.size + 1 := by simp
  have KS := Lib.hid (show ∀ w', Below (w.heap.size + 1) (w.alloc (.cells #[.int .i64 L, .int .i64 N, .slice A ws.length cap] 50)) w' → (w'.cell? ⟨w.heap.size, 0, none⟩ = some (.int .i64 L) ∧ w'.cell? ⟨w.heap.size, 1, none⟩ = some (.int .i64 N) ∧ w'.cell? ⟨w.heap.size, 2, none⟩ = some (.slice A ws.length cap)) from fun w' hw => ⟨(hw.cell (p := ⟨w.heap.size, 0, none⟩) (Nat.lt_succ_self _)).trans (by go_simp), (hw.cell (p := ⟨w.heap.size, 1, none⟩) (Nat.lt_succ_self _)).trans (by go_simp), (hw.cell (p := ⟨w.heap.size, 2, none⟩) (Nat.lt_succ_self _)).trans (by go_simp)⟩)
  clear hr hs hx m1 hA h1 hu
  go_enter Tryz.func61, Tryz.ntmps61
  go_upto_region 1 with fail
  go_region_held3 (fun w' => w'.cell? ⟨w.heap.size, 0, none⟩ = some (.int .i64 L) ∧ w'.cell? ⟨w.heap.size, 1, none⟩ = some (.int .i64 N) ∧ w'.cell? ⟨w.heap.size, 2, none⟩ = some (.slice A ws.length cap))
    (first | (exact KS.out _ (Below.drew (Below.refl _ _))) | (exact KS.out _ hb2) | (exact KS.out _ hb9) | fail)
    (first
      | (go_at_call 80; refine ((expNumbers_c N hN _).mono NumsF.of).mono ?_; rintro e w2 ⟨aN, cN, rfl, hb0, hNr⟩; have hb2 : Below (w.heap.size + 1) (w.alloc (.cells #[.int .i64 L, .int .i64 N, .slice A ws.length cap] 50)) w2 := ⟨hb0.os, hb0.tape, hb0.output, by have := hb0.size; simpa using this, fun j hj => hb0.block j (by simpa using hj)⟩)
      | (go_at_call 79; have hSp := sumOfPowers_c L N A cap ws hl HS.out HU.out x HX.out b1 n1 expF (N + 1) (by omega) (fun k hk => expF_isF (by omega)) aN cN w2 (HR.out.below (HB0.out.trans (hb2.mono (Nat.le_succ _))) (Nat.le_refl _)) (fun q e => Nat.lt_of_lt_of_le (HA.out q e) (HB0.out.trans (hb2.mono (Nat.le_succ _))).size) (HM1.out.below (HB0.out.trans (hb2.mono (Nat.le_succ _))) hbl1) (hNr.mono (Nat.zero_le _) (Nat.le_refl _)); rw [HE.out] at hSp; (with_reducible refine hSp.mono ?_); rintro e w9 ⟨mm, nn, rfl, hmm, hb9', hnn, hM9⟩; have hb9 := hb2.trans (hb9'.mono (show w.heap.size + 1 ≤ w2.heap.size by have := hb2.size; simpa using this)); have hmw : w.heap.size + 1 ≤ mm := Nat.le_trans (show w.heap.size + 1 ≤ w2.heap.size by have := hb2.size; simpa using this) hmm)
      | fail)
  all_goals
    have HM9 := Lib.hid hM9
    have HB9 := Lib.hid (HB0.out.trans (hb9.mono (Nat.le_succ _)))
    have hz9 := hb9.size
    clear hM9 hb9
    go_wp2
    go_ret
    exact ⟨mm, nn, rfl, by omega, HB9.out, hnn, HM9.out⟩
theorem exponential_c :
    Calls Tryz.prog 61 #[.agg #[.int .i64 L, .int .i64 N, .slice A ws.length cap], .map (some b1)] w (FewPost (expV x ws N) ((N + 1) * ws.length) w) := by
  cases h1 : expV x ws N with
  | none => exact exponential_1 L N hN A cap ws hl hs hu x hx b1 n1 w hr hA m1 h1
  | some h => exact exponential_2 L N hN A cap ws hl hs hu x hx b1 n1 w hr hA m1 h h1
end
end Go.Proofs.YteljpgoaaelbfaaGreatDoor
