/-
  Contracts of StepSignature, of the program and of its model; the program's closure: the exponential of the step's numbers, or a fraction does not fit and it panics.
-/
import Derived.Test.YtngpnbdndkddlaaDoorSigS
import Derived.Test.YtngpnbdndkddlaaDoorStepI
import Derived.Test.YtngpnbdndkddlaaDoorPathC
import Derived.Test.YtngpnbdndkddlaaDoorGate
import Derived.Test.YtngpnbdndkddlaaDoorEndOf
import Derived.Deep.RegionHeld2
import Derived.Deep.RegionHeld3
namespace Go.Proofs.YtngpnbdndkddlaaDoor
open Go.RowKit

theorem flat_one_row (zs : List Int) : flat [zs] = zs.length := by simp [flat]
theorem step_of_path {D : Int} {zs : List Int} (h : pathB D [zs] = true) : stepB D zs = true := (pathB_true h).2.2 0 (by simp)
/-- a row of one header is a path of one step -/
theorem one_row (w : World) (lo hi : Nat) (a : Option Addr) (cap : Nat) (zs : List Int) (hr : IRow lo hi w a zs) (hh : hi ≤ w.heap.size) : PRow 0 (w.heap.size + 1) (w.alloc (.cells #[.slice a zs.length cap] 22)) (some ⟨w.heap.size, 0, none⟩) [zs] :=
  .inr ⟨w.heap.size, 0, rfl, Nat.zero_le _, Nat.lt_succ_self _, fun i hi' => by
    obtain rfl : i = 0 := by simpa using hi'
    exact ⟨a, cap, by go_simp, (hr.below (below1 w _) hh).mono (Nat.zero_le _) (by omega)⟩⟩
set_option maxRecDepth 100000 in
set_option maxHeartbeats 4000000 in
theorem sStp_1 (L V : Int) (lo hi : Nat) (a : Option Addr) (cap : Nat) (zs : List Int) (hl : zs.length ≤ 1048576) (c : Int) (hc : codeP L V [zs] = c) (hn : c ≠ 0) (w : World) (hr : IRow lo hi w a zs) (hh : hi ≤ w.heap.size) :
    Calls Tryd.prog 7 #[.int .i64 L, .int .i64 V, .slice a zs.length cap] w (SerPost 0 0 [] c w) := by
  have HR := Lib.hid hr
  have HC := Lib.hid hc
  have hnb : (c != 0) = true := by simpa using hn
  clear hr hc hn
  go_enter Tryd.func7, Tryd.ntmps7
  have hq := one_row (w.alloc (.cells #[.int .i64 0, .int .i64 0, .slice none 0 0] 25)) lo hi a cap zs (HR.out.below (below1 w _) hh) (by simp; omega)
  simp only [World.size_alloc] at hq
  go_wp2_with fail
  refine (l04Code1_c 0 (w.heap.size + 1 + 1) L V (some ⟨w.heap.size + 1, 0, none⟩) 1 [zs] (by simp) (by rw [flat_one_row]; exact hl) (w.heap.size + 1 + 1) _ _ (hq.below (below1 _ _) (by simp)) (by go_simp)).mono ?_
  rw [HC.out]
  rintro e w1 ⟨rfl, hb⟩
  have hT := (((T3.new w 0 0 none 0 0 25).alloc (.cells #[.slice a zs.length cap] 22)).alloc (.cells #[.slice (some ⟨w.heap.size + 1, 0, none⟩) 1 1] 41)).next hb
  have HW1 := Lib.hid ((below3 w (.cells #[.int .i64 0, .int .i64 0, .slice none 0 0] 25) (.cells #[.slice a zs.length cap] 22) (.cells #[.slice (some ⟨w.heap.size + 1, 0, none⟩) 1 1] 41)).trans (hb.mono (by simp; omega)))
  clear hq
  obtain ⟨hz1, r0, r1, r2, z0, z1, z2⟩ := id hT
  clear hb hT
  go_wp2
  refine bodyPost_ret (v := .tuple #[.agg #[.int .i64 0, .int .i64 0, .slice none 0 0], .int .i64 c]) (by simp [results, Tryd.results7, go_sem, r0, r1, r2]) rfl (SerPost.err c rfl ?_)
  have hW := HW1.out
  go_grown
set_option maxRecDepth 100000 in
set_option maxHeartbeats 4000000 in
theorem sStp_no (D N : Nat) (hD : 1 ≤ D ∧ D ≤ 3) (hN : 1 ≤ N ∧ N ≤ 5) (lo hi : Nat) (a : Option Addr) (cap : Nat) (zs : List Int) (hl : zs.length ≤ 1048576) (hp : pathB D [zs] = true) (hc : codeP D N [zs] = 0) (hq : expV (stepV zs) (allW D N) N = none) (w : World) (hr : IRow lo hi w a zs) (hh : hi ≤ w.heap.size) :
    Calls Tryd.prog 7 #[.int .i64 D, .int .i64 N, .slice a zs.length cap] w (SerPost 0 0 [] 3 w) := by
  have hst := step_of_path hp
  have hzl := (stepB_true hst).1
  have HEx := Lib.hid (fun aQ cQ W r => l02Exp_c D N hD hN.2 aQ cQ (stepV zs) (stepV_good hD hN.1 hst) (stepT zs D) (step_terms hD hN.1 zs) W r)
  rw [hq] at HEx
  have HStp := Lib.hid (fun b off (c : Nat) W hb ht => l04Step_c D N hD.2 b off c zs (by omega) W hb ht)
  have HR := Lib.hid hr
  have HC := Lib.hid hc
  have HZ := Lib.hid hzl
  clear hr hc hq hst hzl hp
  go_enter Tryd.func7, Tryd.ntmps7
  have hq := one_row (w.alloc (.cells #[.int .i64 0, .int .i64 0, .slice none 0 0] 25)) lo hi a cap zs (HR.out.below (below1 w _) hh) (by simp; omega)
  simp only [World.size_alloc] at hq
  go_wp2_with fail
  refine (l04Code1_c 0 (w.heap.size + 1 + 1) D N (some ⟨w.heap.size + 1, 0, none⟩) 1 [zs] (by simp) (by rw [flat_one_row]; exact hl) (w.heap.size + 1 + 1) _ _ (hq.below (below1 _ _) (by simp)) (by go_simp)).mono ?_
  rw [HC.out]
  rintro e w1 ⟨rfl, hb⟩
  have hT := (((T3.new w 0 0 none 0 0 25).alloc (.cells #[.slice a zs.length cap] 22)).alloc (.cells #[.slice (some ⟨w.heap.size + 1, 0, none⟩) 1 1] 41)).next hb
  have HW1 := Lib.hid ((below3 w (.cells #[.int .i64 0, .int .i64 0, .slice none 0 0] 25) (.cells #[.slice a zs.length cap] 22) (.cells #[.slice (some ⟨w.heap.size + 1, 0, none⟩) 1 1] 41)).trans (hb.mono (by simp; omega)))
  clear hq
  have HT := Lib.hid hT
  have hz1 := hT.1
  have HR1 := Lib.hid (HR.out.below HW1.out hh)
  clear hb hT
  rcases HR1.out with h0 | ⟨b, off, rfl, hlo, hhi, hII⟩
  · have := HZ.out
    rw [h0] at this
    simp at this
    omega
  have HSc := Lib.hid (HStp.out b off cap w1 (by have := HW1.out.size; omega) hII)
  clear hII
  go_wp2_with fail
  refine HSc.out.mono ?_
  rintro e w2 ⟨a2, c2, rfl, hb2, hN2⟩
  have HT2 := Lib.hid (HT.out.next hb2)
  have HW2 := Lib.hid (HW1.out.trans (hb2.mono HW1.out.size))
  have HE2 := Lib.hid (HEx.out a2 c2 w2 hN2.row)
  have hz2 := hb2.size
  clear hb2 hN2
  go_wp2_with fail
  refine HE2.out.mono ?_
  rintro e w3 ⟨rfl, hb3⟩
  have hT3 := HT2.out.next hb3
  have HW3 := Lib.hid (HW2.out.trans (hb3.mono HW2.out.size))
  obtain ⟨hzr, r0, r1, r2, z0, z1, z2⟩ := id hT3
  clear hb3 hT3
  go_wp2
  refine bodyPost_ret (v := .tuple #[.agg #[.int .i64 0, .int .i64 0, .slice none 0 0], .int .i64 3]) (by simp [results, Tryd.results7, go_sem, r0, r1, r2, hzr]) rfl (SerPost.err 3 rfl ?_)
  have hW := HW3.out
  go_grown
set_option maxRecDepth 100000 in
set_option maxHeartbeats 4000000 in
theorem sStp_yes (D N : Nat) (hD : 1 ≤ D ∧ D ≤ 3) (hN : 1 ≤ N ∧ N ≤ 5) (lo hi : Nat) (a : Option Addr) (cap : Nat) (zs : List Int) (hl : zs.length ≤ 1048576) (hp : pathB D [zs] = true) (hc : codeP D N [zs] = 0) (h : VF) (hq : expV (stepV zs) (allW D N) N = some h) (w : World) (hr : IRow lo hi w a zs) (hh : hi ≤ w.heap.size) :
    Calls Tryd.prog 7 #[.int .i64 D, .int .i64 N, .slice a zs.length cap] w (SerPost D N (termsOf h (allW D N)) 0 w) := by
  have hst := step_of_path hp
  have hzl := (stepB_true hst).1
  have HEx := Lib.hid (fun aQ cQ W r => l02Exp_c D N hD hN.2 aQ cQ (stepV zs) (stepV_good hD hN.1 hst) (stepT zs D) (step_terms hD hN.1 zs) W r)
  rw [hq] at HEx
  have HStp := Lib.hid (fun b off (c : Nat) W hb ht => l04Step_c D N hD.2 b off c zs (by omega) W hb ht)
  have HR := Lib.hid hr
  have HC := Lib.hid hc
  have HZ := Lib.hid hzl
  clear hr hc hq hst hzl hp
  go_enter Tryd.func7, Tryd.ntmps7
  have hq := one_row (w.alloc (.cells #[.int .i64 0, .int .i64 0, .slice none 0 0] 25)) lo hi a cap zs (HR.out.below (below1 w _) hh) (by simp; omega)
  simp only [World.size_alloc] at hq
  go_wp2_with fail
  refine (l04Code1_c 0 (w.heap.size + 1 + 1) D N (some ⟨w.heap.size + 1, 0, none⟩) 1 [zs] (by simp) (by rw [flat_one_row]; exact hl) (w.heap.size + 1 + 1) _ _ (hq.below (below1 _ _) (by simp)) (by go_simp)).mono ?_
  rw [HC.out]
  rintro e w1 ⟨rfl, hb⟩
  have hT := (((T3.new w 0 0 none 0 0 25).alloc (.cells #[.slice a zs.length cap] 22)).alloc (.cells #[.slice (some ⟨w.heap.size + 1, 0, none⟩) 1 1] 41)).next hb
  have HW1 := Lib.hid ((below3 w (.cells #[.int .i64 0, .int .i64 0, .slice none 0 0] 25) (.cells #[.slice a zs.length cap] 22) (.cells #[.slice (some ⟨w.heap.size + 1, 0, none⟩) 1 1] 41)).trans (hb.mono (by simp; omega)))
  clear hq
  have HT := Lib.hid hT
  have hz1 := hT.1
  have HR1 := Lib.hid (HR.out.below HW1.out hh)
  clear hb hT
  rcases HR1.out with h0 | ⟨b, off, rfl, hlo, hhi, hII⟩
  · have := HZ.out
    rw [h0] at this
    simp at this
    omega
  have HSc := Lib.hid (HStp.out b off cap w1 (by have := HW1.out.size; omega) hII)
  clear hII
  go_wp2_with fail
  refine HSc.out.mono ?_
  rintro e w2 ⟨a2, c2, rfl, hb2, hN2⟩
  have HT2 := Lib.hid (HT.out.next hb2)
  have HW2 := Lib.hid (HW1.out.trans (hb2.mono HW1.out.size))
  have HE2 := Lib.hid (HEx.out a2 c2 w2 hN2.row)
  have hz2 := hb2.size
  clear hb2 hN2
  go_wp2_with fail
  refine HE2.out.mono ?_
  rintro e w3 ⟨a4, c4, rfl, hb3, hN4⟩
  have hT3 := HT2.out.next hb3
  have HW3 := Lib.hid (HW2.out.trans (hb3.mono HW2.out.size))
  have HN4 := Lib.hid hN4
  have hz4 := hb3.size
  obtain ⟨hzr, r0, r1, r2, z0, z1, z2⟩ := id hT3
  clear hb3 hT3 hN4
  go_wp2
  refine bodyPost_ret (v := .tuple #[.agg #[.int .i64 D, .int .i64 N, .slice a4 (termsOf h (allW D N)).length c4], .int .i64 0]) (by simp [results, Tryd.results7, go_sem, r0, r1, r2, hzr]) rfl ⟨a4, c4, rfl, ?_, ?_⟩
  · have hW := HW3.out
    go_grown
  · first
      | exact (((HN4.out.far1s (by omega)).far1s (by omega)).far1s (by omega)).mono (by omega) (by simp)
      | exact ((((HN4.out.below (below1 _ _) (by simp)).far1s (by omega)).far1s (by omega)).far1s (by omega)).mono (by omega) (by simp)
      | exact ((((HN4.out.far1s (by omega)).far1s (by omega)).far1s (by omega)).below (below1 _ _) (by simp)).mono (by omega) (by simp)
set_option maxRecDepth 100000 in
set_option maxHeartbeats 4000000 in
theorem stpWork_no (D N : Nat) (hD : 1 ≤ D ∧ D ≤ 3) (hN : 1 ≤ N ∧ N ≤ 5) (p px : Nat) (aS a1 : Option Addr) (cS c1 lo hi : Nat) (zs : List Int) (hst : stepB D zs = true) (hv : expV (stepV zs) (allW D N) N = none) (w : World) (hp : p < w.heap.size) (hpx : px < w.heap.size) (s0 : w.cell? ⟨p, 0, none⟩ = some (.int .i64 D)) (s1 : w.cell? ⟨p, 1, none⟩ = some (.int .i64 N)) (s2 : w.cell? ⟨p, 2, none⟩ = some (.slice aS (allW D N).length cS)) (x0 : w.cell? ⟨px, 0, none⟩ = some (.slice a1 zs.length c1)) (hrs : SRow w aS (allW D N)) (hr1 : IRow lo hi w a1 zs) (hh : hi ≤ w.heap.size) :
    Calls Tryd.prog 34 #[.pointer (some ⟨p, 0, none⟩), .pointer (some ⟨px, 0, none⟩)] w (WorkPost (expV (stepV zs) (allW D N) N) w) := by
  have hfew := allW_few (D := D) hD.2 (n := N) hN.2
  have HWl := Lib.hid (show (allW D N).length ≤ 100000 by omega)
  have HWs := Lib.hid (show ∀ s ∈ allW D N, s.size ≤ 1000 from fun s hs => by have := allW_size D N s hs; omega)
  have HU := Lib.hid (good_unit D N)
  have hsb := stepB_true hst
  have HGx := Lib.hid (show GoodV (allW D N) (stepF (zs.getD 0 0) (zs.getD 1 0) (zs.getD 2 0)) from stepV_good hD hN.1 hst)
  have hbd : ∀ i, -1000000000 ≤ zs.getD i 0 ∧ zs.getD i 0 ≤ 1000000000 := fun i => by
    by_cases hi : i < zs.length
    · have := hsb.2 i hi
      rw [List.getD_eq_getElem?_getD, List.getElem?_eq_getElem hi]
      show -1000000000 ≤ zs[i] ∧ zs[i] ≤ 1000000000
      omega
    · rw [List.getD_eq_getElem?_getD, List.getElem?_eq_none (by omega)]
      decide
  have b0 := hbd 0
  have b1 := hbd 1
  have b2 := hbd 2
  have HV := Lib.hid hv
  have HVx := Lib.hid (show expV (stepF (zs.getD 0 0) (zs.getD 1 0) (zs.getD 2 0)) (allW D N) N = none from hv)
  have HAa := Lib.hid (show ∀ p, aS = some p → p.block < w.heap.size from fun p e => by
    rcases hrs with h | ⟨b, o, e2, h3, _⟩
    · obtain ⟨r, hr, _⟩ := allW_head D N
      rw [hr] at h
      cases h
    · rw [e2] at e
      injection e with e
      rw [← e]
      exact h3)
  have HRS := Lib.hid hrs
  have HR1 := Lib.hid hr1
  have hzl : zs.length ≤ 1000 := by omega
  have hcnt : (N + 1) * (allW D N).length ≤ 1048576 := Nat.le_trans (Nat.mul_le_mul (show N + 1 ≤ 6 by omega) (show (allW D N).length ≤ 1458 by omega)) (by omega)
  have KS := Lib.hid (show ∀ w', Below w.heap.size w w' → (w'.cell? ⟨p, 0, none⟩ = some (.int .i64 D) ∧ w'.cell? ⟨p, 1, none⟩ = some (.int .i64 N) ∧ w'.cell? ⟨p, 2, none⟩ = some (.slice aS (allW D N).length cS) ∧ w'.cell? ⟨px, 0, none⟩ = some (.slice a1 zs.length c1)) from fun w' hb => ⟨(hb.cell (p := ⟨p, 0, none⟩) hp).trans s0, (hb.cell (p := ⟨p, 1, none⟩) hp).trans s1, (hb.cell (p := ⟨p, 2, none⟩) hp).trans s2, (hb.cell (p := ⟨px, 0, none⟩) hpx).trans x0⟩)
  have HMv := Lib.hid (show Calls Tryd.prog 36 #[.slice a1 zs.length c1] w.drew fun e w' => e = .returned (.agg #[.int .i64 (zs.getD 0 0), .int .i64 (zs.getD 1 0), .int .i64 (zs.getD 2 0)]) ∧ Below w.drew.heap.size w.drew w' from moveOf_c lo hi a1 c1 zs hzl w.drew hr1 hh)
  clear hv hrs hr1 s0 s1 s2 x0 hst hsb hbd
  generalize zs.getD 0 0 = y0 at HMv HGx b0 HVx
  generalize zs.getD 1 0 = y1 at HMv HGx b1 HVx
  generalize zs.getD 2 0 = y2 at HMv HGx b2 HVx
  go_enter Tryd.func34, Tryd.ntmps34
  go_upto_region 1 with fail
  go_region_held2 (fun w' => w'.cell? ⟨p, 0, none⟩ = some (.int .i64 D) ∧ w'.cell? ⟨p, 1, none⟩ = some (.int .i64 N) ∧ w'.cell? ⟨p, 2, none⟩ = some (.slice aS (allW D N).length cS) ∧ w'.cell? ⟨px, 0, none⟩ = some (.slice a1 zs.length c1))
    (first | (exact KS.out _ (Below.drew (Below.refl _ _))) | (exact KS.out _ hb1) | (exact KS.out _ hb3) | fail)
    (first
      | (go_at_call 36; (with_reducible refine HMv.out.mono ?_); rintro e w1 ⟨rfl, hb1'⟩; have hb1 : Below w.heap.size w w1 := ⟨hb1'.os, hb1'.tape, hb1'.output, hb1'.size, hb1'.block⟩)
      | (go_at_call 35; have hPr := stepSignature_c D N hN.2 aS cS (allW D N) HWl.out HWs.out HU.out y0 y1 y2 b0 b1 b2 HGx.out w1 (HRS.out.below hb1 (Nat.le_refl _)) (fun p e => Nat.lt_of_lt_of_le (HAa.out p e) hb1.size); rw [HVx.out] at hPr; refine dead_few (.map none) hPr (fun w3 hb3 => ⟨rfl, by rw [HV.out]; exact ⟨rfl, hb1.trans (hb3.mono hb1.size)⟩⟩) ?_; intro hF)
      | fail)
  all_goals exact hF.out.elim
set_option maxRecDepth 100000 in
set_option maxHeartbeats 4000000 in
theorem stpWork_yes (D N : Nat) (hD : 1 ≤ D ∧ D ≤ 3) (hN : 1 ≤ N ∧ N ≤ 5) (p px : Nat) (aS a1 : Option Addr) (cS c1 lo hi : Nat) (zs : List Int) (hst : stepB D zs = true) (h : VF) (hv : expV (stepV zs) (allW D N) N = some h) (w : World) (hp : p < w.heap.size) (hpx : px < w.heap.size) (s0 : w.cell? ⟨p, 0, none⟩ = some (.int .i64 D)) (s1 : w.cell? ⟨p, 1, none⟩ = some (.int .i64 N)) (s2 : w.cell? ⟨p, 2, none⟩ = some (.slice aS (allW D N).length cS)) (x0 : w.cell? ⟨px, 0, none⟩ = some (.slice a1 zs.length c1)) (hrs : SRow w aS (allW D N)) (hr1 : IRow lo hi w a1 zs) (hh : hi ≤ w.heap.size) :
    Calls Tryd.prog 34 #[.pointer (some ⟨p, 0, none⟩), .pointer (some ⟨px, 0, none⟩)] w (WorkPost (expV (stepV zs) (allW D N) N) w) := by
  have hfew := allW_few (D := D) hD.2 (n := N) hN.2
  have HWl := Lib.hid (show (allW D N).length ≤ 100000 by omega)
  have HWs := Lib.hid (show ∀ s ∈ allW D N, s.size ≤ 1000 from fun s hs => by have := allW_size D N s hs; omega)
  have HU := Lib.hid (good_unit D N)
  have hsb := stepB_true hst
  have HGx := Lib.hid (show GoodV (allW D N) (stepF (zs.getD 0 0) (zs.getD 1 0) (zs.getD 2 0)) from stepV_good hD hN.1 hst)
  have hbd : ∀ i, -1000000000 ≤ zs.getD i 0 ∧ zs.getD i 0 ≤ 1000000000 := fun i => by
    by_cases hi : i < zs.length
    · have := hsb.2 i hi
      rw [List.getD_eq_getElem?_getD, List.getElem?_eq_getElem hi]
      show -1000000000 ≤ zs[i] ∧ zs[i] ≤ 1000000000
      omega
    · rw [List.getD_eq_getElem?_getD, List.getElem?_eq_none (by omega)]
      decide
  have b0 := hbd 0
  have b1 := hbd 1
  have b2 := hbd 2
  have HV := Lib.hid hv
  have HVx := Lib.hid (show expV (stepF (zs.getD 0 0) (zs.getD 1 0) (zs.getD 2 0)) (allW D N) N = some h from hv)
  have HAa := Lib.hid (show ∀ p, aS = some p → p.block < w.heap.size from fun p e => by
    rcases hrs with h | ⟨b, o, e2, h3, _⟩
    · obtain ⟨r, hr, _⟩ := allW_head D N
      rw [hr] at h
      cases h
    · rw [e2] at e
      injection e with e
      rw [← e]
      exact h3)
  have HRS := Lib.hid hrs
  have HR1 := Lib.hid hr1
  have hzl : zs.length ≤ 1000 := by omega
  have hcnt : (N + 1) * (allW D N).length ≤ 1048576 := Nat.le_trans (Nat.mul_le_mul (show N + 1 ≤ 6 by omega) (show (allW D N).length ≤ 1458 by omega)) (by omega)
  have KS := Lib.hid (show ∀ w', Below w.heap.size w w' → (w'.cell? ⟨p, 0, none⟩ = some (.int .i64 D) ∧ w'.cell? ⟨p, 1, none⟩ = some (.int .i64 N) ∧ w'.cell? ⟨p, 2, none⟩ = some (.slice aS (allW D N).length cS) ∧ w'.cell? ⟨px, 0, none⟩ = some (.slice a1 zs.length c1)) from fun w' hb => ⟨(hb.cell (p := ⟨p, 0, none⟩) hp).trans s0, (hb.cell (p := ⟨p, 1, none⟩) hp).trans s1, (hb.cell (p := ⟨p, 2, none⟩) hp).trans s2, (hb.cell (p := ⟨px, 0, none⟩) hpx).trans x0⟩)
  have HMv := Lib.hid (show Calls Tryd.prog 36 #[.slice a1 zs.length c1] w.drew fun e w' => e = .returned (.agg #[.int .i64 (zs.getD 0 0), .int .i64 (zs.getD 1 0), .int .i64 (zs.getD 2 0)]) ∧ Below w.drew.heap.size w.drew w' from moveOf_c lo hi a1 c1 zs hzl w.drew hr1 hh)
  clear hv hrs hr1 s0 s1 s2 x0 hst hsb hbd
  generalize zs.getD 0 0 = y0 at HMv HGx b0 HVx
  generalize zs.getD 1 0 = y1 at HMv HGx b1 HVx
  generalize zs.getD 2 0 = y2 at HMv HGx b2 HVx
  go_enter Tryd.func34, Tryd.ntmps34
  go_upto_region 1 with fail
  go_region_held3 (fun w' => w'.cell? ⟨p, 0, none⟩ = some (.int .i64 D) ∧ w'.cell? ⟨p, 1, none⟩ = some (.int .i64 N) ∧ w'.cell? ⟨p, 2, none⟩ = some (.slice aS (allW D N).length cS) ∧ w'.cell? ⟨px, 0, none⟩ = some (.slice a1 zs.length c1))
    (first | (exact KS.out _ (Below.drew (Below.refl _ _))) | (exact KS.out _ hb1) | (exact KS.out _ hb3) | fail)
    (first
      | (go_at_call 36; (with_reducible refine HMv.out.mono ?_); rintro e w1 ⟨rfl, hb1'⟩; have hb1 : Below w.heap.size w w1 := ⟨hb1'.os, hb1'.tape, hb1'.output, hb1'.size, hb1'.block⟩)
      | (go_at_call 35; have hPr := stepSignature_c D N hN.2 aS cS (allW D N) HWl.out HWs.out HU.out y0 y1 y2 b0 b1 b2 HGx.out w1 (HRS.out.below hb1 (Nat.le_refl _)) (fun p e => Nat.lt_of_lt_of_le (HAa.out p e) hb1.size); rw [HVx.out] at hPr; (with_reducible refine hPr.mono ?_); rintro e w3 ⟨m3, n3, rfl, hm3, hb3', hn3, hM3⟩; have hb3 := hb1.trans (hb3'.mono hb1.size))
      | fail)
  all_goals
    go_wp2
    rw [HV.out]
    go_ret
    exact ⟨m3, n3, rfl, Nat.le_trans hb1.size hm3, hb3, by omega, hM3⟩
set_option maxRecDepth 100000 in
set_option maxHeartbeats 4000000 in
theorem iStp_1 (L V : Int) (lo hi : Nat) (a : Option Addr) (cap : Nat) (zs : List Int) (hl : zs.length ≤ 1048576) (c : Int) (hc : codeP L V [zs] = c) (hn : c ≠ 0) (w : World) (hr : IRow lo hi w a zs) (hh : hi ≤ w.heap.size) :
    Calls Tryd.prog 9 #[.int .i64 L, .int .i64 V, .slice a zs.length cap] w (SerPost 0 0 [] c w) := by
  have HR := Lib.hid hr
  have HC := Lib.hid hc
  have hnb : (c != 0) = true := by simpa using hn
  clear hr hc hn
  go_enter Tryd.func9, Tryd.ntmps9
  have hq := one_row ((w.alloc (.cells #[.slice a zs.length cap] 22)).alloc (.cells #[.int .i64 0, .int .i64 0, .slice none 0 0] 25)) lo hi a cap zs (HR.out.below (below2 w _ _) hh) (by simp; omega)
  simp only [World.size_alloc] at hq
  go_wp2_with fail
  refine (checkPaths1_c 0 (w.heap.size + 1 + 1 + 1) L V (some ⟨w.heap.size + 1 + 1, 0, none⟩) 1 [zs] (by simp) (by rw [flat_one_row]; exact hl) (w.heap.size + 1 + 1 + 1) _ _ (hq.below (below1 _ _) (by simp)) (by go_simp)).mono ?_
  rw [HC.out]
  rintro e w1 ⟨rfl, hb⟩
  have hT := (((T3.new (w.alloc (.cells #[.slice a zs.length cap] 22)) 0 0 none 0 0 25).alloc (.cells #[.slice a zs.length cap] 22)).alloc (.cells #[.slice (some ⟨w.heap.size + 1 + 1, 0, none⟩) 1 1] 41)).next hb
  have HW1 := Lib.hid ((below4 w (.cells #[.slice a zs.length cap] 22) (.cells #[.int .i64 0, .int .i64 0, .slice none 0 0] 25) (.cells #[.slice a zs.length cap] 22) (.cells #[.slice (some ⟨w.heap.size + 1 + 1, 0, none⟩) 1 1] 41)).trans (hb.mono (by simp; omega)))
  simp only [World.size_alloc] at hT
  clear hq
  obtain ⟨hz1, r0, r1, r2, z0, z1, z2⟩ := id hT
  clear hb hT
  go_wp2
  refine bodyPost_ret (v := .tuple #[.agg #[.int .i64 0, .int .i64 0, .slice none 0 0], .int .i64 c]) (by simp [results, Tryd.results9, go_sem, r0, r1, r2]) rfl (SerPost.err c rfl ?_)
  have hW := HW1.out
  go_grown
set_option maxRecDepth 100000 in
set_option maxHeartbeats 4000000 in
theorem iStp_no (D N : Nat) (hD : 1 ≤ D ∧ D ≤ 3) (hN : 1 ≤ N ∧ N ≤ 5) (lo hi : Nat) (a : Option Addr) (cap : Nat) (zs : List Int) (hl : zs.length ≤ 1048576) (hp : pathB D [zs] = true) (hc : codeP D N [zs] = 0) (hq : expV (stepV zs) (allW D N) N = none) (w : World) (hr : IRow lo hi w a zs) (hh : hi ≤ w.heap.size) :
    Calls Tryd.prog 9 #[.int .i64 D, .int .i64 N, .slice a zs.length cap] w (SerPost 0 0 [] 3 w) := by
  have hmf : ∀ (fn : Fn) (first cap : Array Value) (w : World), (Instr.makeFunc fn first cap).run Tryd.prog w = .ok (.func fn first cap) w := fun _ _ _ _ => rfl
  have hfew := allW_few (D := D) (by omega) (n := N) (by omega)
  have HWl := Lib.hid (show (allW D N).length ≤ 1048576 by omega)
  have HWs := Lib.hid (show ∀ s ∈ allW D N, s.size ≤ 1048576 from fun s hs => by have := allW_size D N s hs; omega)
  have HSt := Lib.hid (step_of_path hp)
  have HQ := Lib.hid hq
  have HR := Lib.hid hr
  have HC := Lib.hid hc
  clear hr hc hp hq hfew
  go_enter Tryd.func9, Tryd.ntmps9
  have hq := one_row ((w.alloc (.cells #[.slice a zs.length cap] 22)).alloc (.cells #[.int .i64 0, .int .i64 0, .slice none 0 0] 25)) lo hi a cap zs (HR.out.below (below2 w _ _) hh) (by simp; omega)
  simp only [World.size_alloc] at hq
  go_wp2_with fail
  refine (checkPaths1_c 0 (w.heap.size + 1 + 1 + 1) D N (some ⟨w.heap.size + 1 + 1, 0, none⟩) 1 [zs] (by simp) (by rw [flat_one_row]; exact hl) (w.heap.size + 1 + 1 + 1) _ _ (hq.below (below1 _ _) (by simp)) (by go_simp)).mono ?_
  rw [HC.out]
  rintro e w1 ⟨rfl, hb⟩
  have hT := (((T3.new (w.alloc (.cells #[.slice a zs.length cap] 22)) 0 0 none 0 0 25).alloc (.cells #[.slice a zs.length cap] 22)).alloc (.cells #[.slice (some ⟨w.heap.size + 1 + 1, 0, none⟩) 1 1] 41)).next hb
  have HW1 := Lib.hid ((below4 w (.cells #[.slice a zs.length cap] 22) (.cells #[.int .i64 0, .int .i64 0, .slice none 0 0] 25) (.cells #[.slice a zs.length cap] 22) (.cells #[.slice (some ⟨w.heap.size + 1 + 1, 0, none⟩) 1 1] 41)).trans (hb.mono (by simp; omega)))
  simp only [World.size_alloc] at hT
  clear hq
  have bc := bcellB hb
  have x0 : w1.cell? ⟨w.heap.size, 0, none⟩ = some (.slice a zs.length cap) := (bc.1 _ _ (by simp; omega)).trans (by go_simp)
  have HT := Lib.hid hT
  have hz1 := hT.1
  clear hb hT bc
  go_wp2_with fail
  refine (spaceOf_c D N (by omega) (by omega) _).mono ?_
  rintro e w4 ⟨aS, cS, rfl, hb4, hN4⟩
  have HW4 := Lib.hid (HW1.out.trans (hb4.mono HW1.out.size))
  have HT4 := Lib.hid (HT.out.next hb4)
  have hz4 := hb4.size
  have v0 := (hb4.cell (p := ⟨w.heap.size, 0, none⟩) (by show w.heap.size < _; omega)).trans x0
  have hba := below1 w4 (.cells #[.int .i64 D, .int .i64 N, .slice aS (allW D N).length cS] 55)
  have HW5 := Lib.hid (HW4.out.trans (hba.mono HW4.out.size))
  have HT5 := Lib.hid (HT4.out.next hba)
  have Kx0 := (hba.cell (p := ⟨w.heap.size, 0, none⟩) (by show w.heap.size < _; omega)).trans v0
  have Ks0 : (w4.alloc (.cells #[.int .i64 D, .int .i64 N, .slice aS (allW D N).length cS] 55)).cell? ⟨w4.heap.size, 0, none⟩ = some (.int .i64 D) := by go_simp
  have Ks1 : (w4.alloc (.cells #[.int .i64 D, .int .i64 N, .slice aS (allW D N).length cS] 55)).cell? ⟨w4.heap.size, 1, none⟩ = some (.int .i64 N) := by go_simp
  have Ks2 : (w4.alloc (.cells #[.int .i64 D, .int .i64 N, .slice aS (allW D N).length cS] 55)).cell? ⟨w4.heap.size, 2, none⟩ = some (.slice aS (allW D N).length cS) := by go_simp
  have HNs := Lib.hid (hN4.row.below hba (Nat.le_refl _))
  have hzz : (w4.alloc (.cells #[.int .i64 D, .int .i64 N, .slice aS (allW D N).length cS] 55)).heap.size = w4.heap.size + 1 := by simp
  have HWork := Lib.hid (fun W (hW : Below (w4.alloc (.cells #[.int .i64 D, .int .i64 N, .slice aS (allW D N).length cS] 55)).heap.size (w4.alloc (.cells #[.int .i64 D, .int .i64 N, .slice aS (allW D N).length cS] 55)) W) => (HQ.out ▸ stpWork_no D N hD hN w4.heap.size w.heap.size aS a cS cap lo hi zs HSt.out HQ.out W (by have := hW.size; omega) (by have := hW.size; omega) ((hW.cell (p := ⟨w4.heap.size, 0, none⟩) (by show w4.heap.size < _; omega)).trans Ks0) ((hW.cell (p := ⟨w4.heap.size, 1, none⟩) (by show w4.heap.size < _; omega)).trans Ks1) ((hW.cell (p := ⟨w4.heap.size, 2, none⟩) (by show w4.heap.size < _; omega)).trans Ks2) ((hW.cell (p := ⟨w.heap.size, 0, none⟩) (by show w.heap.size < _; omega)).trans Kx0) (HNs.out.below hW (Nat.le_refl _)) (HR.out.below (HW5.out.trans (hW.mono (by omega))) hh) (by have := hW.size; omega) : Calls Tryd.prog 34 #[.pointer (some ⟨w4.heap.size, 0, none⟩), .pointer (some ⟨w.heap.size, 0, none⟩)] W (WorkPost (none) W)))
  have HDoor := Lib.hid (door_no D N aS (allW D N).length cS 34 #[.pointer (some ⟨w4.heap.size, 0, none⟩), .pointer (some ⟨w.heap.size, 0, none⟩)] (fun _ => by kernel_rfl) (w4.alloc (.cells #[.int .i64 D, .int .i64 N, .slice aS (allW D N).length cS] 55)) HWork.out)
  clear hb4 hN4 x0 v0 Kx0 Ks0 Ks1 Ks2 hba
  go_wp2_with fail
  refine HDoor.out.mono ?_
  rintro e w6 ⟨rfl, hb6⟩
  have hT6 := HT5.out.next hb6
  have HW6 := Lib.hid (HW5.out.trans (hb6.mono HW5.out.size))
  obtain ⟨hzr, r0, r1, r2, z0, z1, z2⟩ := id hT6
  clear hb6 hT6
  go_wp2
  refine bodyPost_ret (v := .tuple #[.agg #[.int .i64 0, .int .i64 0, .slice none 0 0], .int .i64 3]) (by simp [results, Tryd.results9, go_sem, r0, r1, r2]) rfl (SerPost.err 3 rfl ?_)
  have hW := HW6.out
  go_grown
set_option maxRecDepth 100000 in
set_option maxHeartbeats 4000000 in
theorem iStp_yes (D N : Nat) (hD : 1 ≤ D ∧ D ≤ 3) (hN : 1 ≤ N ∧ N ≤ 5) (lo hi : Nat) (a : Option Addr) (cap : Nat) (zs : List Int) (hl : zs.length ≤ 1048576) (hp : pathB D [zs] = true) (hc : codeP D N [zs] = 0) (h : VF) (hq : expV (stepV zs) (allW D N) N = some h) (w : World) (hr : IRow lo hi w a zs) (hh : hi ≤ w.heap.size) :
    Calls Tryd.prog 9 #[.int .i64 D, .int .i64 N, .slice a zs.length cap] w (SerPost D N (termsOf h (allW D N)) 0 w) := by
  have hmf : ∀ (fn : Fn) (first cap : Array Value) (w : World), (Instr.makeFunc fn first cap).run Tryd.prog w = .ok (.func fn first cap) w := fun _ _ _ _ => rfl
  have hfew := allW_few (D := D) (by omega) (n := N) (by omega)
  have HWl := Lib.hid (show (allW D N).length ≤ 1048576 by omega)
  have HWs := Lib.hid (show ∀ s ∈ allW D N, s.size ≤ 1048576 from fun s hs => by have := allW_size D N s hs; omega)
  have HSt := Lib.hid (step_of_path hp)
  have HQ := Lib.hid hq
  have HR := Lib.hid hr
  have HC := Lib.hid hc
  clear hr hc hp hq hfew
  go_enter Tryd.func9, Tryd.ntmps9
  have hq := one_row ((w.alloc (.cells #[.slice a zs.length cap] 22)).alloc (.cells #[.int .i64 0, .int .i64 0, .slice none 0 0] 25)) lo hi a cap zs (HR.out.below (below2 w _ _) hh) (by simp; omega)
  simp only [World.size_alloc] at hq
  go_wp2_with fail
  refine (checkPaths1_c 0 (w.heap.size + 1 + 1 + 1) D N (some ⟨w.heap.size + 1 + 1, 0, none⟩) 1 [zs] (by simp) (by rw [flat_one_row]; exact hl) (w.heap.size + 1 + 1 + 1) _ _ (hq.below (below1 _ _) (by simp)) (by go_simp)).mono ?_
  rw [HC.out]
  rintro e w1 ⟨rfl, hb⟩
  have hT := (((T3.new (w.alloc (.cells #[.slice a zs.length cap] 22)) 0 0 none 0 0 25).alloc (.cells #[.slice a zs.length cap] 22)).alloc (.cells #[.slice (some ⟨w.heap.size + 1 + 1, 0, none⟩) 1 1] 41)).next hb
  have HW1 := Lib.hid ((below4 w (.cells #[.slice a zs.length cap] 22) (.cells #[.int .i64 0, .int .i64 0, .slice none 0 0] 25) (.cells #[.slice a zs.length cap] 22) (.cells #[.slice (some ⟨w.heap.size + 1 + 1, 0, none⟩) 1 1] 41)).trans (hb.mono (by simp; omega)))
  simp only [World.size_alloc] at hT
  clear hq
  have bc := bcellB hb
  have x0 : w1.cell? ⟨w.heap.size, 0, none⟩ = some (.slice a zs.length cap) := (bc.1 _ _ (by simp; omega)).trans (by go_simp)
  have HT := Lib.hid hT
  have hz1 := hT.1
  clear hb hT bc
  go_wp2_with fail
  refine (spaceOf_c D N (by omega) (by omega) _).mono ?_
  rintro e w4 ⟨aS, cS, rfl, hb4, hN4⟩
  have HW4 := Lib.hid (HW1.out.trans (hb4.mono HW1.out.size))
  have HT4 := Lib.hid (HT.out.next hb4)
  have hz4 := hb4.size
  have v0 := (hb4.cell (p := ⟨w.heap.size, 0, none⟩) (by show w.heap.size < _; omega)).trans x0
  have hba := below1 w4 (.cells #[.int .i64 D, .int .i64 N, .slice aS (allW D N).length cS] 55)
  have HW5 := Lib.hid (HW4.out.trans (hba.mono HW4.out.size))
  have HT5 := Lib.hid (HT4.out.next hba)
  have Kx0 := (hba.cell (p := ⟨w.heap.size, 0, none⟩) (by show w.heap.size < _; omega)).trans v0
  have Ks0 : (w4.alloc (.cells #[.int .i64 D, .int .i64 N, .slice aS (allW D N).length cS] 55)).cell? ⟨w4.heap.size, 0, none⟩ = some (.int .i64 D) := by go_simp
  have Ks1 : (w4.alloc (.cells #[.int .i64 D, .int .i64 N, .slice aS (allW D N).length cS] 55)).cell? ⟨w4.heap.size, 1, none⟩ = some (.int .i64 N) := by go_simp
  have Ks2 : (w4.alloc (.cells #[.int .i64 D, .int .i64 N, .slice aS (allW D N).length cS] 55)).cell? ⟨w4.heap.size, 2, none⟩ = some (.slice aS (allW D N).length cS) := by go_simp
  have HNs := Lib.hid (hN4.row.below hba (Nat.le_refl _))
  have hzz : (w4.alloc (.cells #[.int .i64 D, .int .i64 N, .slice aS (allW D N).length cS] 55)).heap.size = w4.heap.size + 1 := by simp
  have HWork := Lib.hid (fun W (hW : Below (w4.alloc (.cells #[.int .i64 D, .int .i64 N, .slice aS (allW D N).length cS] 55)).heap.size (w4.alloc (.cells #[.int .i64 D, .int .i64 N, .slice aS (allW D N).length cS] 55)) W) => (HQ.out ▸ stpWork_yes D N hD hN w4.heap.size w.heap.size aS a cS cap lo hi zs HSt.out h HQ.out W (by have := hW.size; omega) (by have := hW.size; omega) ((hW.cell (p := ⟨w4.heap.size, 0, none⟩) (by show w4.heap.size < _; omega)).trans Ks0) ((hW.cell (p := ⟨w4.heap.size, 1, none⟩) (by show w4.heap.size < _; omega)).trans Ks1) ((hW.cell (p := ⟨w4.heap.size, 2, none⟩) (by show w4.heap.size < _; omega)).trans Ks2) ((hW.cell (p := ⟨w.heap.size, 0, none⟩) (by show w.heap.size < _; omega)).trans Kx0) (HNs.out.below hW (Nat.le_refl _)) (HR.out.below (HW5.out.trans (hW.mono (by omega))) hh) (by have := hW.size; omega) : Calls Tryd.prog 34 #[.pointer (some ⟨w4.heap.size, 0, none⟩), .pointer (some ⟨w.heap.size, 0, none⟩)] W (WorkPost (some h) W)))
  have HDoor := Lib.hid (door_yes D N aS cS (allW D N) HWl.out HWs.out h 34 #[.pointer (some ⟨w4.heap.size, 0, none⟩), .pointer (some ⟨w.heap.size, 0, none⟩)] (fun _ => by kernel_rfl) (w4.alloc (.cells #[.int .i64 D, .int .i64 N, .slice aS (allW D N).length cS] 55)) HWork.out HNs.out)
  clear hb4 hN4 x0 v0 Kx0 Ks0 Ks1 Ks2 hba
  go_wp2_with fail
  refine HDoor.out.mono ?_
  rintro e w6 ⟨a4, c4, rfl, hb6, hN6⟩
  have hT6 := HT5.out.next hb6
  have HW6 := Lib.hid (HW5.out.trans (hb6.mono HW5.out.size))
  have HN4 := Lib.hid hN6
  have hz6 := hb6.size
  obtain ⟨hzr, r0, r1, r2, z0, z1, z2⟩ := id hT6
  clear hb6 hT6 hN6
  go_wp2
  refine bodyPost_ret (v := .tuple #[.agg #[.int .i64 D, .int .i64 N, .slice a4 (termsOf h (allW D N)).length c4], .int .i64 0]) (by simp [results, Tryd.results9, go_sem, r0, r1, r2]) rfl ⟨a4, c4, rfl, ?_, ?_⟩
  · have hW := HW6.out
    go_grown
  · exact (((HN4.out.far1s (by omega)).far1s (by omega)).far1s (by omega)).mono (by omega) (by simp)
end Go.Proofs.YtngpnbdndkddlaaDoor
