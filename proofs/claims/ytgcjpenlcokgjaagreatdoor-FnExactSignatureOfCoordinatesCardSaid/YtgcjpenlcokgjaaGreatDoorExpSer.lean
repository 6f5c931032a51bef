/-
  Contracts of ExponentialOf, of the program and of its model: both return the same series and code.
  The program's ExponentialOf at a series without constant whose list is handed over as it comes.
-/
import Derived.Test.YtgcjpenlcokgjaaGreatDoorExpM
import Derived.Test.YtgcjpenlcokgjaaGreatDoorSopF
import Derived.Test.YtgcjpenlcokgjaaGreatDoorGate
import Derived.Test.YtgcjpenlcokgjaaGreatDoorConst
import Derived.Deep.RegionHeld2
namespace Go.Proofs.YtgcjpenlcokgjaaGreatDoor
open Go.RowKit

set_option maxRecDepth 100000 in
set_option maxHeartbeats 4000000 in
theorem expWork_no (D N : Nat) (hD : 1 ≤ D ∧ D ≤ 3) (hN : N ≤ 5) (p px : Nat) (aS a1 : Option Addr) (cS c1 : Nat) (xs : List Tm) (h1 : serB D N xs = true) (hl1 : xs.length ≤ 1048576) (hs1 : ∀ i (h : i < xs.length), (xs[i]).s.size ≤ maxLen) (hv : expV (valV xs xs.length) (allW D N) N = none) (w : World) (hp : p < w.heap.size) (hpx : px < w.heap.size) (s0 : w.cell? ⟨p, 0, none⟩ = some (.int .i64 D)) (s1 : w.cell? ⟨p, 1, none⟩ = some (.int .i64 N)) (s2 : w.cell? ⟨p, 2, none⟩ = some (.slice aS (allW D N).length cS)) (x0 : w.cell? ⟨px, 0, none⟩ = some (.int .i64 D)) (x1 : w.cell? ⟨px, 1, none⟩ = some (.int .i64 N)) (x2 : w.cell? ⟨px, 2, none⟩ = some (.slice a1 xs.length c1)) (hrs : SRow w aS (allW D N)) (hr1 : Row w a1 xs) :
    Calls Tryz.prog 87 #[.pointer (some ⟨p, 0, none⟩), .pointer (some ⟨px, 0, none⟩)] w (WorkPost (expV (valV xs xs.length) (allW D N) N) w) := by
  have hfew := allW_few (D := D) hD.2 (n := N) hN
  have HWl := Lib.hid (show (allW D N).length ≤ 100000 by omega)
  have HWs := Lib.hid (show ∀ s ∈ allW D N, s.size ≤ 1000 from fun s hs => by have := allW_size D N s hs; omega)
  have G1 := good_valV h1
  have HG1 := Lib.hid G1.1
  have HGu := Lib.hid (good_unit D N)
  have HS1 := Lib.hid hs1
  have HV := Lib.hid hv
  have HAa := Lib.hid (show ∀ p, aS = some p → p.block < w.heap.size from fun p e => by
    rcases hrs with h | ⟨b, o, e2, h3, _⟩
    · obtain ⟨r, hr, _⟩ := allW_head D N
      rw [hr] at h
      cases h
    · rw [e2] at e
      injection e with e
      rw [← e]
      exact h3)
  have HRS := Lib.hid hrs
  have HR1 := Lib.hid hr1
  have hcnt : (N + 1) * (allW D N).length ≤ 1048576 := Nat.le_trans (Nat.mul_le_mul (show N + 1 ≤ 6 by omega) (show (allW D N).length ≤ 1458 by omega)) (by omega)
  have KS := Lib.hid (show ∀ w', Below w.heap.size w w' → (w'.cell? ⟨p, 0, none⟩ = some (.int .i64 D) ∧ w'.cell? ⟨p, 1, none⟩ = some (.int .i64 N) ∧ w'.cell? ⟨p, 2, none⟩ = some (.slice aS (allW D N).length cS) ∧ w'.cell? ⟨px, 0, none⟩ = some (.int .i64 D) ∧ w'.cell? ⟨px, 1, none⟩ = some (.int .i64 N) ∧ w'.cell? ⟨px, 2, none⟩ = some (.slice a1 xs.length c1)) from fun w' hb => ⟨(hb.cell (p := ⟨p, 0, none⟩) hp).trans s0, (hb.cell (p := ⟨p, 1, none⟩) hp).trans s1, (hb.cell (p := ⟨p, 2, none⟩) hp).trans s2, (hb.cell (p := ⟨px, 0, none⟩) hpx).trans x0, (hb.cell (p := ⟨px, 1, none⟩) hpx).trans x1, (hb.cell (p := ⟨px, 2, none⟩) hpx).trans x2⟩)
  clear hs1 hv hrs hr1 h1 G1 s0 s1 s2 x0 x1 x2
  go_enter Tryz.func87, Tryz.ntmps87
  go_upto_region 1 with fail
  go_region_held2 (fun w' => w'.cell? ⟨p, 0, none⟩ = some (.int .i64 D) ∧ w'.cell? ⟨p, 1, none⟩ = some (.int .i64 N) ∧ w'.cell? ⟨p, 2, none⟩ = some (.slice aS (allW D N).length cS) ∧ w'.cell? ⟨px, 0, none⟩ = some (.int .i64 D) ∧ w'.cell? ⟨px, 1, none⟩ = some (.int .i64 N) ∧ w'.cell? ⟨px, 2, none⟩ = some (.slice a1 xs.length c1))
    (first | (exact KS.out _ (Below.drew (Below.refl _ _))) | (exact KS.out _ hb1) | (exact KS.out _ hb3) | fail)
    (first
      | (go_at_call 40; have hRd : Row w.drew a1 xs := HR1.out; (with_reducible refine (valuesOf_c D N a1 c1 xs hl1 HS1.out w.drew hRd).mono ?_); rintro e w1 ⟨m1, rfl, hm1, hb1', hM1⟩; have hb1 : Below w.heap.size w w1 := ⟨hb1'.os, hb1'.tape, hb1'.output, hb1'.size, hb1'.block⟩; have hbl1 := hM1.lt)
      | (go_at_call 88; have hPr := exponential_c D N (by omega) aS cS (allW D N) HWl.out HWs.out HGu.out _ HG1.out m1 _ w1 (HRS.out.below hb1 (Nat.le_refl _)) (fun p e => Nat.lt_of_lt_of_le (HAa.out p e) hb1.size) hM1; rw [HV.out] at hPr; refine dead_few (.map none) hPr (fun w3 hb3 => ⟨rfl, by rw [HV.out]; exact ⟨rfl, hb1.trans (hb3.mono hb1.size)⟩⟩) ?_; intro hF)
      | fail)
  all_goals exact hF.out.elim
set_option maxRecDepth 100000 in
set_option maxHeartbeats 4000000 in
theorem expWork_yes (D N : Nat) (hD : 1 ≤ D ∧ D ≤ 3) (hN : N ≤ 5) (p px : Nat) (aS a1 : Option Addr) (cS c1 : Nat) (xs : List Tm) (h1 : serB D N xs = true) (hl1 : xs.length ≤ 1048576) (hs1 : ∀ i (h : i < xs.length), (xs[i]).s.size ≤ maxLen) (h : VF) (hv : expV (valV xs xs.length) (allW D N) N = some h) (w : World) (hp : p < w.heap.size) (hpx : px < w.heap.size) (s0 : w.cell? ⟨p, 0, none⟩ = some (.int .i64 D)) (s1 : w.cell? ⟨p, 1, none⟩ = some (.int .i64 N)) (s2 : w.cell? ⟨p, 2, none⟩ = some (.slice aS (allW D N).length cS)) (x0 : w.cell? ⟨px, 0, none⟩ = some (.int .i64 D)) (x1 : w.cell? ⟨px, 1, none⟩ = some (.int .i64 N)) (x2 : w.cell? ⟨px, 2, none⟩ = some (.slice a1 xs.length c1)) (hrs : SRow w aS (allW D N)) (hr1 : Row w a1 xs) :
    Calls Tryz.prog 87 #[.pointer (some ⟨p, 0, none⟩), .pointer (some ⟨px, 0, none⟩)] w (WorkPost (expV (valV xs xs.length) (allW D N) N) w) := by
  have hfew := allW_few (D := D) hD.2 (n := N) hN
  have HWl := Lib.hid (show (allW D N).length ≤ 100000 by omega)
  have HWs := Lib.hid (show ∀ s ∈ allW D N, s.size ≤ 1000 from fun s hs => by have := allW_size D N s hs; omega)
  have G1 := good_valV h1
  have HG1 := Lib.hid G1.1
  have HGu := Lib.hid (good_unit D N)
  have HS1 := Lib.hid hs1
  have HV := Lib.hid hv
  have HAa := Lib.hid (show ∀ p, aS = some p → p.block < w.heap.size from fun p e => by
    rcases hrs with h | ⟨b, o, e2, h3, _⟩
    · obtain ⟨r, hr, _⟩ := allW_head D N
      rw [hr] at h
      cases h
    · rw [e2] at e
      injection e with e
      rw [← e]
      exact h3)
  have HRS := Lib.hid hrs
  have HR1 := Lib.hid hr1
  have hcnt : (N + 1) * (allW D N).length ≤ 1048576 := Nat.le_trans (Nat.mul_le_mul (show N + 1 ≤ 6 by omega) (show (allW D N).length ≤ 1458 by omega)) (by omega)
  have KS := Lib.hid (show ∀ w', Below w.heap.size w w' → (w'.cell? ⟨p, 0, none⟩ = some (.int .i64 D) ∧ w'.cell? ⟨p, 1, none⟩ = some (.int .i64 N) ∧ w'.cell? ⟨p, 2, none⟩ = some (.slice aS (allW D N).length cS) ∧ w'.cell? ⟨px, 0, none⟩ = some (.int .i64 D) ∧ w'.cell? ⟨px, 1, none⟩ = some (.int .i64 N) ∧ w'.cell? ⟨px, 2, none⟩ = some (.slice a1 xs.length c1)) from fun w' hb => ⟨(hb.cell (p := ⟨p, 0, none⟩) hp).trans s0, (hb.cell (p := ⟨p, 1, none⟩) hp).trans s1, (hb.cell (p := ⟨p, 2, none⟩) hp).trans s2, (hb.cell (p := ⟨px, 0, none⟩) hpx).trans x0, (hb.cell (p := ⟨px, 1, none⟩) hpx).trans x1, (hb.cell (p := ⟨px, 2, none⟩) hpx).trans x2⟩)
  clear hs1 hv hrs hr1 h1 G1 s0 s1 s2 x0 x1 x2
  go_enter Tryz.func87, Tryz.ntmps87
  go_upto_region 1 with fail
  go_region_held3 (fun w' => w'.cell? ⟨p, 0, none⟩ = some (.int .i64 D) ∧ w'.cell? ⟨p, 1, none⟩ = some (.int .i64 N) ∧ w'.cell? ⟨p, 2, none⟩ = some (.slice aS (allW D N).length cS) ∧ w'.cell? ⟨px, 0, none⟩ = some (.int .i64 D) ∧ w'.cell? ⟨px, 1, none⟩ = some (.int .i64 N) ∧ w'.cell? ⟨px, 2, none⟩ = some (.slice a1 xs.length c1))
    (first | (exact KS.out _ (Below.drew (Below.refl _ _))) | (exact KS.out _ hb1) | (exact KS.out _ hb3) | fail)
    (first
      | (go_at_call 40; have hRd : Row w.drew a1 xs := HR1.out; (with_reducible refine (valuesOf_c D N a1 c1 xs hl1 HS1.out w.drew hRd).mono ?_); rintro e w1 ⟨m1, rfl, hm1, hb1', hM1⟩; have hb1 : Below w.heap.size w w1 := ⟨hb1'.os, hb1'.tape, hb1'.output, hb1'.size, hb1'.block⟩; have hbl1 := hM1.lt)
      | (go_at_call 88; have hPr := exponential_c D N (by omega) aS cS (allW D N) HWl.out HWs.out HGu.out _ HG1.out m1 _ w1 (HRS.out.below hb1 (Nat.le_refl _)) (fun p e => Nat.lt_of_lt_of_le (HAa.out p e) hb1.size) hM1; rw [HV.out] at hPr; (with_reducible refine hPr.mono ?_); rintro e w3 ⟨m3, n3, rfl, hm3, hb3', hn3, hM3⟩; have hb3 := hb1.trans (hb3'.mono hb1.size))
      | fail)
  all_goals
    go_wp2
    rw [HV.out]
    go_ret
    exact ⟨m3, n3, rfl, Nat.le_trans hb1.size hm3, hb3, by omega, hM3⟩
set_option maxRecDepth 100000 in
set_option maxHeartbeats 4000000 in
theorem iExp_1 (L V : Int) (g1 : Nat) (xs : List Tm) (hl1 : xs.length ≤ 1048576) (hs1 : ∀ i (h : i < xs.length), (xs[i]).s.size ≤ maxLen) (h1 : serB L V xs = false) (w : World) (hb1 : g1 < w.heap.size) (t1 : TermsIn w g1 0 xs) :
    Calls Tryz.prog 46 #[.agg #[.int .i64 L, .int .i64 V, .slice (some ⟨g1, 0, none⟩) xs.length xs.length]] w (SerPost 0 0 [] 1 w) := by
  have HT1 := Lib.hid t1
  have HS1 := Lib.hid hs1
  have HH := Lib.hid h1
  clear t1 hs1 h1
  go_enter Tryz.func46, Tryz.ntmps46
  go_wp2_with fail
  have HWb := Lib.hid (below2 w (.cells #[.int .i64 L, .int .i64 V, .slice (some ⟨g1, 0, none⟩) xs.length xs.length] 26) (.cells #[.int .i64 0, .int .i64 0, .slice none 0 0] 26))
  refine (iConst_c L V g1 0 xs.length xs _ hl1 HS1.out (by simp; omega) (HT1.out.below HWb.out hb1) _ _ _ (coef_1 HH.out)).mono ?_
  rintro e w1 ⟨rfl, hb⟩
  have hT := (show T3 ((w.alloc (.cells #[.int .i64 L, .int .i64 V, .slice (some ⟨g1, 0, none⟩) xs.length xs.length] 26)).alloc (.cells #[.int .i64 0, .int .i64 0, .slice none 0 0] 26)) (w.heap.size + 1) (.int .i64 0) (.int .i64 0) (.slice none 0 0) from by have h := T3.new (w.alloc (.cells #[.int .i64 L, .int .i64 V, .slice (some ⟨g1, 0, none⟩) xs.length xs.length] 26)) 0 0 none 0 0 26; rw [World.size_alloc] at h; exact h).next hb
  have HW1 := Lib.hid (HWb.out.trans (hb.mono (by simp; omega)))
  obtain ⟨hz1, r0, r1, r2, z0, z1, z2⟩ := id hT
  clear hb hT
  go_wp2
  refine bodyPost_ret (v := .tuple #[.agg #[.int .i64 0, .int .i64 0, .slice none 0 0], .int .i64 1]) (by simp [results, Tryz.results46, go_sem, r0, r1, r2, hz1]) rfl (SerPost.err 1 rfl ?_)
  have hW := HW1.out
  go_grown
set_option maxRecDepth 100000 in
set_option maxHeartbeats 4000000 in
theorem iExp_2 (D N : Nat) (p q : Int) (g1 : Nat) (xs : List Tm) (hl1 : xs.length ≤ 1048576) (hs1 : ∀ i (h : i < xs.length), (xs[i]).s.size ≤ maxLen) (h1 : serB D N xs = true) (hv : valL [] xs = (p, q)) (hp : p ≠ 0) (w : World) (hb1 : g1 < w.heap.size) (t1 : TermsIn w g1 0 xs) :
    Calls Tryz.prog 46 #[.agg #[.int .i64 D, .int .i64 N, .slice (some ⟨g1, 0, none⟩) xs.length xs.length]] w (SerPost 0 0 [] 5 w) := by
  have HT1 := Lib.hid t1
  have HS1 := Lib.hid hs1
  have HH := Lib.hid h1
  have HVc := Lib.hid (show coefR D N xs { data := #[] } = (p, q, 0) from by rw [coef_3 h1 (const_ok h1)]; show ((valL [] xs).1, (valL [] xs).2, (0 : Int)) = _; rw [hv])
  have HQ1 := Lib.hid (show p = 0 → q = 1 from fun e => by have h := val_isF h1; rw [hv] at h; subst e; exact isF_zero h)
  have hpb : (p == 0) = false := by simpa using hp
  clear t1 hs1 h1 hv hp
  go_enter Tryz.func46, Tryz.ntmps46
  go_wp2_with fail
  have HWb := Lib.hid (below2 w (.cells #[.int .i64 D, .int .i64 N, .slice (some ⟨g1, 0, none⟩) xs.length xs.length] 26) (.cells #[.int .i64 0, .int .i64 0, .slice none 0 0] 26))
  refine (iConst_c D N g1 0 xs.length xs _ hl1 HS1.out (by simp; omega) (HT1.out.below HWb.out hb1) _ _ _ HVc.out).mono ?_
  rintro e w1 ⟨rfl, hb⟩
  have hT := (show T3 ((w.alloc (.cells #[.int .i64 D, .int .i64 N, .slice (some ⟨g1, 0, none⟩) xs.length xs.length] 26)).alloc (.cells #[.int .i64 0, .int .i64 0, .slice none 0 0] 26)) (w.heap.size + 1) (.int .i64 0) (.int .i64 0) (.slice none 0 0) from by have h := T3.new (w.alloc (.cells #[.int .i64 D, .int .i64 N, .slice (some ⟨g1, 0, none⟩) xs.length xs.length] 26)) 0 0 none 0 0 26; rw [World.size_alloc] at h; exact h).next hb
  have HW1 := Lib.hid (HWb.out.trans (hb.mono (by simp; omega)))
  have bc := bcellB hb
  have x0 : w1.cell? ⟨w.heap.size, 0, none⟩ = some (.int .i64 D) := (bc.1 _ _ (by simp; omega)).trans (by go_simp)
  have x1 : w1.cell? ⟨w.heap.size, 1, none⟩ = some (.int .i64 N) := (bc.1 _ _ (by simp; omega)).trans (by go_simp)
  have x2 : w1.cell? ⟨w.heap.size, 2, none⟩ = some (.slice (some ⟨g1, 0, none⟩) xs.length xs.length) := (bc.1 _ _ (by simp; omega)).trans (by go_simp)
  have HT := Lib.hid hT
  have hz1 := hT.1
  clear hb bc hT
  go_wp2_with fail
  refine (isZero_named hpb HQ1.out _).mono ?_
  rintro e w3 ⟨rfl, hb3⟩
  have hbx : Below w1.heap.size w1 w3 := below_step (below1 w1 (.cells #[.int .i64 p, .int .i64 q] 58)) hb3 (Nat.le_refl _)
  have HT3 := Lib.hid (HT.out.next hbx)
  have HW3 := Lib.hid (HW1.out.trans (hbx.mono HW1.out.size))
  have u0 := (hbx.cell (p := ⟨w.heap.size, 0, none⟩) (by show w.heap.size < _; omega)).trans x0
  have u1 := (hbx.cell (p := ⟨w.heap.size, 1, none⟩) (by show w.heap.size < _; omega)).trans x1
  have u2 := (hbx.cell (p := ⟨w.heap.size, 2, none⟩) (by show w.heap.size < _; omega)).trans x2
  have hz3 := hbx.size
  clear hb3 hbx x0 x1 x2
  obtain ⟨hzr, r0, r1, r2, z0, z1, z2⟩ := id HT3.out
  clear u0 u1 u2
  go_wp2
  refine bodyPost_ret (v := .tuple #[.agg #[.int .i64 0, .int .i64 0, .slice none 0 0], .int .i64 5]) (by simp [results, Tryz.results46, go_sem, r0, r1, r2]) rfl (SerPost.err 5 rfl ?_)
  have hW := HW3.out
  go_grown
set_option maxRecDepth 100000 in
set_option maxHeartbeats 4000000 in
theorem iExp_3no (D N : Nat) (p q : Int) (g1 : Nat) (xs : List Tm) (hl1 : xs.length ≤ 1048576) (hs1 : ∀ i (h : i < xs.length), (xs[i]).s.size ≤ maxLen) (h1 : serB D N xs = true) (hv : valL [] xs = (p, q)) (hp : p = 0) (hv' : expV (valV xs xs.length) (allW D N) N = none) (w : World) (hb1 : g1 < w.heap.size) (t1 : TermsIn w g1 0 xs) :
    Calls Tryz.prog 46 #[.agg #[.int .i64 D, .int .i64 N, .slice (some ⟨g1, 0, none⟩) xs.length xs.length]] w (SerPost 0 0 [] 3 w) := by
  have HT1 := Lib.hid t1
  have HS1 := Lib.hid hs1
  have HH := Lib.hid h1
  have HVc := Lib.hid (show coefR D N xs { data := #[] } = (p, q, 0) from by rw [coef_3 h1 (const_ok h1)]; show ((valL [] xs).1, (valL [] xs).2, (0 : Int)) = _; rw [hv])
  have HQ1 := Lib.hid (show p = 0 → q = 1 from fun e => by have h := val_isF h1; rw [hv] at h; subst e; exact isF_zero h)
  have hpb : (p == 0) = true := by simpa using hp
  have hsh : shapeB (D : Int) (N : Int) = true := by unfold serB at h1; rw [Bool.and_eq_true] at h1; exact h1.1
  have hDN := shape_out hsh
  have hmf : ∀ (fn : Fn) (first cap : Array Value) (w : World), (Instr.makeFunc fn first cap).run Tryz.prog w = .ok (.func fn first cap) w := fun _ _ _ _ => rfl
  have hfew := allW_few (D := D) (by omega) (n := N) (by omega)
  have HWl := Lib.hid (show (allW D N).length ≤ 1048576 by omega)
  have HWs := Lib.hid (show ∀ s ∈ allW D N, s.size ≤ 1048576 from fun s hs => by have := allW_size D N s hs; omega)
  have HV := Lib.hid hv'
  clear t1 hs1 h1 hv hv' hsh hp
  go_enter Tryz.func46, Tryz.ntmps46
  go_wp2_with fail
  have HWb := Lib.hid (below2 w (.cells #[.int .i64 D, .int .i64 N, .slice (some ⟨g1, 0, none⟩) xs.length xs.length] 26) (.cells #[.int .i64 0, .int .i64 0, .slice none 0 0] 26))
  refine (iConst_c D N g1 0 xs.length xs _ hl1 HS1.out (by simp; omega) (HT1.out.below HWb.out hb1) _ _ _ HVc.out).mono ?_
  rintro e w1 ⟨rfl, hb⟩
  have hT := (show T3 ((w.alloc (.cells #[.int .i64 D, .int .i64 N, .slice (some ⟨g1, 0, none⟩) xs.length xs.length] 26)).alloc (.cells #[.int .i64 0, .int .i64 0, .slice none 0 0] 26)) (w.heap.size + 1) (.int .i64 0) (.int .i64 0) (.slice none 0 0) from by have h := T3.new (w.alloc (.cells #[.int .i64 D, .int .i64 N, .slice (some ⟨g1, 0, none⟩) xs.length xs.length] 26)) 0 0 none 0 0 26; rw [World.size_alloc] at h; exact h).next hb
  have HW1 := Lib.hid (HWb.out.trans (hb.mono (by simp; omega)))
  have bc := bcellB hb
  have x0 : w1.cell? ⟨w.heap.size, 0, none⟩ = some (.int .i64 D) := (bc.1 _ _ (by simp; omega)).trans (by go_simp)
  have x1 : w1.cell? ⟨w.heap.size, 1, none⟩ = some (.int .i64 N) := (bc.1 _ _ (by simp; omega)).trans (by go_simp)
  have x2 : w1.cell? ⟨w.heap.size, 2, none⟩ = some (.slice (some ⟨g1, 0, none⟩) xs.length xs.length) := (bc.1 _ _ (by simp; omega)).trans (by go_simp)
  have HT := Lib.hid hT
  have hz1 := hT.1
  clear hb bc hT
  go_wp2_with fail
  refine (isZero_named hpb HQ1.out _).mono ?_
  rintro e w3 ⟨rfl, hb3⟩
  have hbx : Below w1.heap.size w1 w3 := below_step (below1 w1 (.cells #[.int .i64 p, .int .i64 q] 58)) hb3 (Nat.le_refl _)
  have HT3 := Lib.hid (HT.out.next hbx)
  have HW3 := Lib.hid (HW1.out.trans (hbx.mono HW1.out.size))
  have u0 := (hbx.cell (p := ⟨w.heap.size, 0, none⟩) (by show w.heap.size < _; omega)).trans x0
  have u1 := (hbx.cell (p := ⟨w.heap.size, 1, none⟩) (by show w.heap.size < _; omega)).trans x1
  have u2 := (hbx.cell (p := ⟨w.heap.size, 2, none⟩) (by show w.heap.size < _; omega)).trans x2
  have hz3 := hbx.size
  clear hb3 hbx x0 x1 x2
  go_wp2_with fail
  refine (spaceOf_c D N (by omega) (by omega) _).mono ?_
  rintro e w4 ⟨aS, cS, rfl, hb4, hN4⟩
  have HW4 := Lib.hid (HW3.out.trans (hb4.mono HW3.out.size))
  have HT4 := Lib.hid (HT3.out.next hb4)
  have hz4 := hb4.size
  have v0 := (hb4.cell (p := ⟨w.heap.size, 0, none⟩) (by show w.heap.size < _; omega)).trans u0
  have v1 := (hb4.cell (p := ⟨w.heap.size, 1, none⟩) (by show w.heap.size < _; omega)).trans u1
  have v2 := (hb4.cell (p := ⟨w.heap.size, 2, none⟩) (by show w.heap.size < _; omega)).trans u2
  have hba := below1 w4 (.cells #[.int .i64 D, .int .i64 N, .slice aS (allW D N).length cS] 64)
  have HW5 := Lib.hid (HW4.out.trans (hba.mono HW4.out.size))
  have HT5 := Lib.hid (HT4.out.next hba)
  have Kx0 := (hba.cell (p := ⟨w.heap.size, 0, none⟩) (by show w.heap.size < _; omega)).trans v0
  have Kx1 := (hba.cell (p := ⟨w.heap.size, 1, none⟩) (by show w.heap.size < _; omega)).trans v1
  have Kx2 := (hba.cell (p := ⟨w.heap.size, 2, none⟩) (by show w.heap.size < _; omega)).trans v2
  have Ks0 : (w4.alloc (.cells #[.int .i64 D, .int .i64 N, .slice aS (allW D N).length cS] 64)).cell? ⟨w4.heap.size, 0, none⟩ = some (.int .i64 D) := by go_simp
  have Ks1 : (w4.alloc (.cells #[.int .i64 D, .int .i64 N, .slice aS (allW D N).length cS] 64)).cell? ⟨w4.heap.size, 1, none⟩ = some (.int .i64 N) := by go_simp
  have Ks2 : (w4.alloc (.cells #[.int .i64 D, .int .i64 N, .slice aS (allW D N).length cS] 64)).cell? ⟨w4.heap.size, 2, none⟩ = some (.slice aS (allW D N).length cS) := by go_simp
  have HNs := Lib.hid (hN4.row.below hba (Nat.le_refl _))
  have hzz : (w4.alloc (.cells #[.int .i64 D, .int .i64 N, .slice aS (allW D N).length cS] 64)).heap.size = w4.heap.size + 1 := by simp
  have HDoor := Lib.hid (door_no D N aS (allW D N).length cS 87 #[.pointer (some ⟨w4.heap.size, 0, none⟩), .pointer (some ⟨w.heap.size, 0, none⟩)] (fun _ => by kernel_rfl) (w4.alloc (.cells #[.int .i64 D, .int .i64 N, .slice aS (allW D N).length cS] 64)) (fun W hW => by have hk := expWork_no D N (by omega) (by omega) w4.heap.size w.heap.size aS (some ⟨g1, 0, none⟩) cS xs.length xs HH.out hl1 HS1.out HV.out W (by have := hW.size; omega) (by have := hW.size; omega) ((hW.cell (p := ⟨w4.heap.size, 0, none⟩) (by show w4.heap.size < _; omega)).trans Ks0) ((hW.cell (p := ⟨w4.heap.size, 1, none⟩) (by show w4.heap.size < _; omega)).trans Ks1) ((hW.cell (p := ⟨w4.heap.size, 2, none⟩) (by show w4.heap.size < _; omega)).trans Ks2) ((hW.cell (p := ⟨w.heap.size, 0, none⟩) (by show w.heap.size < _; omega)).trans Kx0) ((hW.cell (p := ⟨w.heap.size, 1, none⟩) (by show w.heap.size < _; omega)).trans Kx1) ((hW.cell (p := ⟨w.heap.size, 2, none⟩) (by show w.heap.size < _; omega)).trans Kx2) (HNs.out.below hW (Nat.le_refl _)) (.inr ⟨g1, 0, rfl, by have := hW.size; omega, HT1.out.below (HW5.out.trans (hW.mono (by omega))) hb1⟩); rw [HV.out] at hk; exact hk))
  clear hb4 hN4 u0 u1 u2 v0 v1 v2 Kx0 Kx1 Kx2 Ks0 Ks1 Ks2 hba
  go_wp2_with fail
  refine HDoor.out.mono ?_
  rintro e w6 ⟨rfl, hb6⟩
  have hT6 := HT5.out.next hb6
  have HW6 := Lib.hid (HW5.out.trans (hb6.mono HW5.out.size))
  obtain ⟨hzr, r0, r1, r2, z0, z1, z2⟩ := id hT6
  clear hb6 hT6
  go_wp2
  refine bodyPost_ret (v := .tuple #[.agg #[.int .i64 0, .int .i64 0, .slice none 0 0], .int .i64 3]) (by simp [results, Tryz.results46, go_sem, r0, r1, r2]) rfl (SerPost.err 3 rfl ?_)
  have hW := HW6.out
  go_grown
set_option maxRecDepth 100000 in
set_option maxHeartbeats 4000000 in
theorem iExp_3yes (D N : Nat) (p q : Int) (g1 : Nat) (xs : List Tm) (hl1 : xs.length ≤ 1048576) (hs1 : ∀ i (h : i < xs.length), (xs[i]).s.size ≤ maxLen) (h1 : serB D N xs = true) (hv : valL [] xs = (p, q)) (hp : p = 0) (h : VF) (hv' : expV (valV xs xs.length) (allW D N) N = some h) (w : World) (hb1 : g1 < w.heap.size) (t1 : TermsIn w g1 0 xs) :
    Calls Tryz.prog 46 #[.agg #[.int .i64 D, .int .i64 N, .slice (some ⟨g1, 0, none⟩) xs.length xs.length]] w (SerPost D N (termsOf h (allW D N)) 0 w) := by
  have HT1 := Lib.hid t1
  have HS1 := Lib.hid hs1
  have HH := Lib.hid h1
  have HVc := Lib.hid (show coefR D N xs { data := #[] } = (p, q, 0) from by rw [coef_3 h1 (const_ok h1)]; show ((valL [] xs).1, (valL [] xs).2, (0 : Int)) = _; rw [hv])
  have HQ1 := Lib.hid (show p = 0 → q = 1 from fun e => by have h := val_isF h1; rw [hv] at h; subst e; exact isF_zero h)
  have hpb : (p == 0) = true := by simpa using hp
  have hsh : shapeB (D : Int) (N : Int) = true := by unfold serB at h1; rw [Bool.and_eq_true] at h1; exact h1.1
  have hDN := shape_out hsh
  have hmf : ∀ (fn : Fn) (first cap : Array Value) (w : World), (Instr.makeFunc fn first cap).run Tryz.prog w = .ok (.func fn first cap) w := fun _ _ _ _ => rfl
  have hfew := allW_few (D := D) (by omega) (n := N) (by omega)
  have HWl := Lib.hid (show (allW D N).length ≤ 1048576 by omega)
  have HWs := Lib.hid (show ∀ s ∈ allW D N, s.size ≤ 1048576 from fun s hs => by have := allW_size D N s hs; omega)
  have HV := Lib.hid hv'
  clear t1 hs1 h1 hv hv' hsh hp
  go_enter Tryz.func46, Tryz.ntmps46
  go_wp2_with fail
  have HWb := Lib.hid (below2 w (.cells #[.int .i64 D, .int .i64 N, .slice (some ⟨g1, 0, none⟩) xs.length xs.length] 26) (.cells #[.int .i64 0, .int .i64 0, .slice none 0 0] 26))
  refine (iConst_c D N g1 0 xs.length xs _ hl1 HS1.out (by simp; omega) (HT1.out.below HWb.out hb1) _ _ _ HVc.out).mono ?_
  rintro e w1 ⟨rfl, hb⟩
  have hT := (show T3 ((w.alloc (.cells #[.int .i64 D, .int .i64 N, .slice (some ⟨g1, 0, none⟩) xs.length xs.length] 26)).alloc (.cells #[.int .i64 0, .int .i64 0, .slice none 0 0] 26)) (w.heap.size + 1) (.int .i64 0) (.int .i64 0) (.slice none 0 0) from by have h := T3.new (w.alloc (.cells #[.int .i64 D, .int .i64 N, .slice (some ⟨g1, 0, none⟩) xs.length xs.length] 26)) 0 0 none 0 0 26; rw [World.size_alloc] at h; exact h).next hb
  have HW1 := Lib.hid (HWb.out.trans (hb.mono (by simp; omega)))
  have bc := bcellB hb
  have x0 : w1.cell? ⟨w.heap.size, 0, none⟩ = some (.int .i64 D) := (bc.1 _ _ (by simp; omega)).trans (by go_simp)
  have x1 : w1.cell? ⟨w.heap.size, 1, none⟩ = some (.int .i64 N) := (bc.1 _ _ (by simp; omega)).trans (by go_simp)
  have x2 : w1.cell? ⟨w.heap.size, 2, none⟩ = some (.slice (some ⟨g1, 0, none⟩) xs.length xs.length) := (bc.1 _ _ (by simp; omega)).trans (by go_simp)
  have HT := Lib.hid hT
  have hz1 := hT.1
  clear hb bc hT
  go_wp2_with fail
  refine (isZero_named hpb HQ1.out _).mono ?_
  rintro e w3 ⟨rfl, hb3⟩
  have hbx : Below w1.heap.size w1 w3 := below_step (below1 w1 (.cells #[.int .i64 p, .int .i64 q] 58)) hb3 (Nat.le_refl _)
  have HT3 := Lib.hid (HT.out.next hbx)
  have HW3 := Lib.hid (HW1.out.trans (hbx.mono HW1.out.size))
  have u0 := (hbx.cell (p := ⟨w.heap.size, 0, none⟩) (by show w.heap.size < _; omega)).trans x0
  have u1 := (hbx.cell (p := ⟨w.heap.size, 1, none⟩) (by show w.heap.size < _; omega)).trans x1
  have u2 := (hbx.cell (p := ⟨w.heap.size, 2, none⟩) (by show w.heap.size < _; omega)).trans x2
  have hz3 := hbx.size
  clear hb3 hbx x0 x1 x2
  go_wp2_with fail
  refine (spaceOf_c D N (by omega) (by omega) _).mono ?_
  rintro e w4 ⟨aS, cS, rfl, hb4, hN4⟩
  have HW4 := Lib.hid (HW3.out.trans (hb4.mono HW3.out.size))
  have HT4 := Lib.hid (HT3.out.next hb4)
  have hz4 := hb4.size
  have v0 := (hb4.cell (p := ⟨w.heap.size, 0, none⟩) (by show w.heap.size < _; omega)).trans u0
  have v1 := (hb4.cell (p := ⟨w.heap.size, 1, none⟩) (by show w.heap.size < _; omega)).trans u1
  have v2 := (hb4.cell (p := ⟨w.heap.size, 2, none⟩) (by show w.heap.size < _; omega)).trans u2
  have hba := below1 w4 (.cells #[.int .i64 D, .int .i64 N, .slice aS (allW D N).length cS] 64)
  have HW5 := Lib.hid (HW4.out.trans (hba.mono HW4.out.size))
  have HT5 := Lib.hid (HT4.out.next hba)
  have Kx0 := (hba.cell (p := ⟨w.heap.size, 0, none⟩) (by show w.heap.size < _; omega)).trans v0
  have Kx1 := (hba.cell (p := ⟨w.heap.size, 1, none⟩) (by show w.heap.size < _; omega)).trans v1
  have Kx2 := (hba.cell (p := ⟨w.heap.size, 2, none⟩) (by show w.heap.size < _; omega)).trans v2
  have Ks0 : (w4.alloc (.cells #[.int .i64 D, .int .i64 N, .slice aS (allW D N).length cS] 64)).cell? ⟨w4.heap.size, 0, none⟩ = some (.int .i64 D) := by go_simp
  have Ks1 : (w4.alloc (.cells #[.int .i64 D, .int .i64 N, .slice aS (allW D N).length cS] 64)).cell? ⟨w4.heap.size, 1, none⟩ = some (.int .i64 N) := by go_simp
  have Ks2 : (w4.alloc (.cells #[.int .i64 D, .int .i64 N, .slice aS (allW D N).length cS] 64)).cell? ⟨w4.heap.size, 2, none⟩ = some (.slice aS (allW D N).length cS) := by go_simp
  have HNs := Lib.hid (hN4.row.below hba (Nat.le_refl _))
  have hzz : (w4.alloc (.cells #[.int .i64 D, .int .i64 N, .slice aS (allW D N).length cS] 64)).heap.size = w4.heap.size + 1 := by simp
  have HDoor := Lib.hid (door_yes D N aS cS (allW D N) HWl.out HWs.out h 87 #[.pointer (some ⟨w4.heap.size, 0, none⟩), .pointer (some ⟨w.heap.size, 0, none⟩)] (fun _ => by kernel_rfl) (w4.alloc (.cells #[.int .i64 D, .int .i64 N, .slice aS (allW D N).length cS] 64)) (fun W hW => by have hk := expWork_yes D N (by omega) (by omega) w4.heap.size w.heap.size aS (some ⟨g1, 0, none⟩) cS xs.length xs HH.out hl1 HS1.out h HV.out W (by have := hW.size; omega) (by have := hW.size; omega) ((hW.cell (p := ⟨w4.heap.size, 0, none⟩) (by show w4.heap.size < _; omega)).trans Ks0) ((hW.cell (p := ⟨w4.heap.size, 1, none⟩) (by show w4.heap.size < _; omega)).trans Ks1) ((hW.cell (p := ⟨w4.heap.size, 2, none⟩) (by show w4.heap.size < _; omega)).trans Ks2) ((hW.cell (p := ⟨w.heap.size, 0, none⟩) (by show w.heap.size < _; omega)).trans Kx0) ((hW.cell (p := ⟨w.heap.size, 1, none⟩) (by show w.heap.size < _; omega)).trans Kx1) ((hW.cell (p := ⟨w.heap.size, 2, none⟩) (by show w.heap.size < _; omega)).trans Kx2) (HNs.out.below hW (Nat.le_refl _)) (.inr ⟨g1, 0, rfl, by have := hW.size; omega, HT1.out.below (HW5.out.trans (hW.mono (by omega))) hb1⟩); rw [HV.out] at hk; exact hk) HNs.out)
  clear hb4 hN4 u0 u1 u2 v0 v1 v2 Kx0 Kx1 Kx2 Ks0 Ks1 Ks2 hba
  go_wp2_with fail
  refine HDoor.out.mono ?_
  rintro e w6 ⟨a6, c6, rfl, hb6, hN6⟩
  have hT6 := HT5.out.next hb6
  have HW6 := Lib.hid (HW5.out.trans (hb6.mono HW5.out.size))
  have HN6 := Lib.hid hN6
  have hzw : w.heap.size + 1 < w4.heap.size := HT4.out.1
  obtain ⟨hzr, r0, r1, r2, z0, z1, z2⟩ := id hT6
  clear hb6 hT6 hN6
  go_wp2
  refine bodyPost_ret (v := .tuple #[.agg #[.int .i64 D, .int .i64 N, .slice a6 (termsOf h (allW D N)).length c6], .int .i64 0]) (by simp [results, Tryz.results46, go_sem, r0, r1, r2]) rfl ⟨a6, c6, rfl, ?_, ?_⟩
  · have hW := HW6.out
    go_grown
  · exact (((HN6.out.far1s (by omega)).far1s (by omega)).far1s (by omega)).mono (by omega) (by simp)
end Go.Proofs.YtgcjpenlcokgjaaGreatDoor

namespace Go.Proofs.YtgcjpenlcokgjaaGreatDoor
open Go.RowKit

set_option maxRecDepth 100000 in
set_option maxHeartbeats 4000000 in
theorem iExpR_no (D N : Nat) (p q : Int) (a1 : Option Addr) (c1 : Nat) (xs : List Tm) (hl1 : xs.length ≤ 1048576) (hs1 : ∀ i (h : i < xs.length), (xs[i]).s.size ≤ maxLen) (h1 : serB D N xs = true) (hv : valL [] xs = (p, q)) (hp : p = 0) (hv' : expV (valV xs xs.length) (allW D N) N = none) (w : World) (hr : Row w a1 xs) :
    Calls Tryz.prog 46 #[.agg #[.int .i64 D, .int .i64 N, .slice a1 xs.length c1]] w (SerPost 0 0 [] 3 w) := by
  have HT1 := Lib.hid hr
  have HS1 := Lib.hid hs1
  have HH := Lib.hid h1
  have HCr := Lib.hid (fun W hr' => (show Calls Tryz.prog 85 #[.agg #[.int .i64 D, .int .i64 N, .slice a1 xs.length c1]] W fun e w' => e = .returned (.tuple #[.agg #[.int .i64 p, .int .i64 q], .int .i64 0]) ∧ Below W.heap.size W w' from by have h := iConst_row D N a1 c1 xs hl1 hs1 h1 W hr'; rw [hv] at h; exact h))
  have HQ1 := Lib.hid (show p = 0 → q = 1 from fun e => by have h := val_isF h1; rw [hv] at h; subst e; exact isF_zero h)
  have hpb : (p == 0) = true := by simpa using hp
  have hsh : shapeB (D : Int) (N : Int) = true := by unfold serB at h1; rw [Bool.and_eq_true] at h1; exact h1.1
  have hDN := shape_out hsh
  have hmf : ∀ (fn : Fn) (first cap : Array Value) (w : World), (Instr.makeFunc fn first cap).run Tryz.prog w = .ok (.func fn first cap) w := fun _ _ _ _ => rfl
  have hfew := allW_few (D := D) (by omega) (n := N) (by omega)
  have HWl := Lib.hid (show (allW D N).length ≤ 1048576 by omega)
  have HWs := Lib.hid (show ∀ s ∈ allW D N, s.size ≤ 1048576 from fun s hs => by have := allW_size D N s hs; omega)
  have HV := Lib.hid hv'
  clear hr hs1 h1 hv hv' hsh hp
  go_enter Tryz.func46, Tryz.ntmps46
  go_wp2_with fail
  have HWb := Lib.hid (below2 w (.cells #[.int .i64 D, .int .i64 N, .slice a1 xs.length c1] 26) (.cells #[.int .i64 0, .int .i64 0, .slice none 0 0] 26))
  refine (HCr.out _ (HT1.out.below HWb.out)).mono ?_
  rintro e w1 ⟨rfl, hb⟩
  have hT := (show T3 ((w.alloc (.cells #[.int .i64 D, .int .i64 N, .slice a1 xs.length c1] 26)).alloc (.cells #[.int .i64 0, .int .i64 0, .slice none 0 0] 26)) (w.heap.size + 1) (.int .i64 0) (.int .i64 0) (.slice none 0 0) from by have h := T3.new (w.alloc (.cells #[.int .i64 D, .int .i64 N, .slice a1 xs.length c1] 26)) 0 0 none 0 0 26; rw [World.size_alloc] at h; exact h).next hb
  have HW1 := Lib.hid (HWb.out.trans (hb.mono (by simp; omega)))
  have bc := bcellB hb
  have x0 : w1.cell? ⟨w.heap.size, 0, none⟩ = some (.int .i64 D) := (bc.1 _ _ (by simp; omega)).trans (by go_simp)
  have x1 : w1.cell? ⟨w.heap.size, 1, none⟩ = some (.int .i64 N) := (bc.1 _ _ (by simp; omega)).trans (by go_simp)
  have x2 : w1.cell? ⟨w.heap.size, 2, none⟩ = some (.slice a1 xs.length c1) := (bc.1 _ _ (by simp; omega)).trans (by go_simp)
  have HT := Lib.hid hT
  have hz1 := hT.1
  clear hb bc hT
  go_wp2_with fail
  refine (isZero_named hpb HQ1.out _).mono ?_
  rintro e w3 ⟨rfl, hb3⟩
  have hbx : Below w1.heap.size w1 w3 := below_step (below1 w1 (.cells #[.int .i64 p, .int .i64 q] 58)) hb3 (Nat.le_refl _)
  have HT3 := Lib.hid (HT.out.next hbx)
  have HW3 := Lib.hid (HW1.out.trans (hbx.mono HW1.out.size))
  have u0 := (hbx.cell (p := ⟨w.heap.size, 0, none⟩) (by show w.heap.size < _; omega)).trans x0
  have u1 := (hbx.cell (p := ⟨w.heap.size, 1, none⟩) (by show w.heap.size < _; omega)).trans x1
  have u2 := (hbx.cell (p := ⟨w.heap.size, 2, none⟩) (by show w.heap.size < _; omega)).trans x2
  have hz3 := hbx.size
  clear hb3 hbx x0 x1 x2
  go_wp2_with fail
  refine (spaceOf_c D N (by omega) (by omega) _).mono ?_
  rintro e w4 ⟨aS, cS, rfl, hb4, hN4⟩
  have HW4 := Lib.hid (HW3.out.trans (hb4.mono HW3.out.size))
  have HT4 := Lib.hid (HT3.out.next hb4)
  have hz4 := hb4.size
  have v0 := (hb4.cell (p := ⟨w.heap.size, 0, none⟩) (by show w.heap.size < _; omega)).trans u0
  have v1 := (hb4.cell (p := ⟨w.heap.size, 1, none⟩) (by show w.heap.size < _; omega)).trans u1
  have v2 := (hb4.cell (p := ⟨w.heap.size, 2, none⟩) (by show w.heap.size < _; omega)).trans u2
  have hba := below1 w4 (.cells #[.int .i64 D, .int .i64 N, .slice aS (allW D N).length cS] 64)
  have HW5 := Lib.hid (HW4.out.trans (hba.mono HW4.out.size))
  have HT5 := Lib.hid (HT4.out.next hba)
  have Kx0 := (hba.cell (p := ⟨w.heap.size, 0, none⟩) (by show w.heap.size < _; omega)).trans v0
  have Kx1 := (hba.cell (p := ⟨w.heap.size, 1, none⟩) (by show w.heap.size < _; omega)).trans v1
  have Kx2 := (hba.cell (p := ⟨w.heap.size, 2, none⟩) (by show w.heap.size < _; omega)).trans v2
  have Ks0 : (w4.alloc (.cells #[.int .i64 D, .int .i64 N, .slice aS (allW D N).length cS] 64)).cell? ⟨w4.heap.size, 0, none⟩ = some (.int .i64 D) := by go_simp
  have Ks1 : (w4.alloc (.cells #[.int .i64 D, .int .i64 N, .slice aS (allW D N).length cS] 64)).cell? ⟨w4.heap.size, 1, none⟩ = some (.int .i64 N) := by go_simp
  have Ks2 : (w4.alloc (.cells #[.int .i64 D, .int .i64 N, .slice aS (allW D N).length cS] 64)).cell? ⟨w4.heap.size, 2, none⟩ = some (.slice aS (allW D N).length cS) := by go_simp
  have HNs := Lib.hid (hN4.row.below hba (Nat.le_refl _))
  have hzz : (w4.alloc (.cells #[.int .i64 D, .int .i64 N, .slice aS (allW D N).length cS] 64)).heap.size = w4.heap.size + 1 := by simp
  have HDoor := Lib.hid (door_no D N aS (allW D N).length cS 87 #[.pointer (some ⟨w4.heap.size, 0, none⟩), .pointer (some ⟨w.heap.size, 0, none⟩)] (fun _ => by kernel_rfl) (w4.alloc (.cells #[.int .i64 D, .int .i64 N, .slice aS (allW D N).length cS] 64)) (fun W hW => by have hk := expWork_no D N (by omega) (by omega) w4.heap.size w.heap.size aS a1 cS c1 xs HH.out hl1 HS1.out HV.out W (by have := hW.size; omega) (by have := hW.size; omega) ((hW.cell (p := ⟨w4.heap.size, 0, none⟩) (by show w4.heap.size < _; omega)).trans Ks0) ((hW.cell (p := ⟨w4.heap.size, 1, none⟩) (by show w4.heap.size < _; omega)).trans Ks1) ((hW.cell (p := ⟨w4.heap.size, 2, none⟩) (by show w4.heap.size < _; omega)).trans Ks2) ((hW.cell (p := ⟨w.heap.size, 0, none⟩) (by show w.heap.size < _; omega)).trans Kx0) ((hW.cell (p := ⟨w.heap.size, 1, none⟩) (by show w.heap.size < _; omega)).trans Kx1) ((hW.cell (p := ⟨w.heap.size, 2, none⟩) (by show w.heap.size < _; omega)).trans Kx2) (HNs.out.below hW (Nat.le_refl _)) (HT1.out.below (HW5.out.trans (hW.mono (by omega)))); rw [HV.out] at hk; exact hk))
  clear hb4 hN4 u0 u1 u2 v0 v1 v2 Kx0 Kx1 Kx2 Ks0 Ks1 Ks2 hba
  go_wp2_with fail
  refine HDoor.out.mono ?_
  rintro e w6 ⟨rfl, hb6⟩
  have hT6 := HT5.out.next hb6
  have HW6 := Lib.hid (HW5.out.trans (hb6.mono HW5.out.size))
  obtain ⟨hzr, r0, r1, r2, z0, z1, z2⟩ := id hT6
  clear hb6 hT6
  go_wp2
  refine bodyPost_ret (v := .tuple #[.agg #[.int .i64 0, .int .i64 0, .slice none 0 0], .int .i64 3]) (by simp [results, Tryz.results46, go_sem, r0, r1, r2]) rfl (SerPost.err 3 rfl ?_)
  have hW := HW6.out
  go_grown
set_option maxRecDepth 100000 in
set_option maxHeartbeats 4000000 in
theorem iExpR_yes (D N : Nat) (p q : Int) (a1 : Option Addr) (c1 : Nat) (xs : List Tm) (hl1 : xs.length ≤ 1048576) (hs1 : ∀ i (h : i < xs.length), (xs[i]).s.size ≤ maxLen) (h1 : serB D N xs = true) (hv : valL [] xs = (p, q)) (hp : p = 0) (h : VF) (hv' : expV (valV xs xs.length) (allW D N) N = some h) (w : World) (hr : Row w a1 xs) :
    Calls Tryz.prog 46 #[.agg #[.int .i64 D, .int .i64 N, .slice a1 xs.length c1]] w (SerPost D N (termsOf h (allW D N)) 0 w) := by
  have HT1 := Lib.hid hr
  have HS1 := Lib.hid hs1
  have HH := Lib.hid h1
  have HCr := Lib.hid (fun W hr' => (show Calls Tryz.prog 85 #[.agg #[.int .i64 D, .int .i64 N, .slice a1 xs.length c1]] W fun e w' => e = .returned (.tuple #[.agg #[.int .i64 p, .int .i64 q], .int .i64 0]) ∧ Below W.heap.size W w' from by have h := iConst_row D N a1 c1 xs hl1 hs1 h1 W hr'; rw [hv] at h; exact h))
  have HQ1 := Lib.hid (show p = 0 → q = 1 from fun e => by have h := val_isF h1; rw [hv] at h; subst e; exact isF_zero h)
  have hpb : (p == 0) = true := by simpa using hp
  have hsh : shapeB (D : Int) (N : Int) = true := by unfold serB at h1; rw [Bool.and_eq_true] at h1; exact h1.1
  have hDN := shape_out hsh
  have hmf : ∀ (fn : Fn) (first cap : Array Value) (w : World), (Instr.makeFunc fn first cap).run Tryz.prog w = .ok (.func fn first cap) w := fun _ _ _ _ => rfl
  have hfew := allW_few (D := D) (by omega) (n := N) (by omega)
  have HWl := Lib.hid (show (allW D N).length ≤ 1048576 by omega)
  have HWs := Lib.hid (show ∀ s ∈ allW D N, s.size ≤ 1048576 from fun s hs => by have := allW_size D N s hs; omega)
  have HV := Lib.hid hv'
  clear hr hs1 h1 hv hv' hsh hp
  go_enter Tryz.func46, Tryz.ntmps46
  go_wp2_with fail
  have HWb := Lib.hid (below2 w (.cells #[.int .i64 D, .int .i64 N, .slice a1 xs.length c1] 26) (.cells #[.int .i64 0, .int .i64 0, .slice none 0 0] 26))
  refine (HCr.out _ (HT1.out.below HWb.out)).mono ?_
  rintro e w1 ⟨rfl, hb⟩
  have hT := (show T3 ((w.alloc (.cells #[.int .i64 D, .int .i64 N, .slice a1 xs.length c1] 26)).alloc (.cells #[.int .i64 0, .int .i64 0, .slice none 0 0] 26)) (w.heap.size + 1) (.int .i64 0) (.int .i64 0) (.slice none 0 0) from by have h := T3.new (w.alloc (.cells #[.int .i64 D, .int .i64 N, .slice a1 xs.length c1] 26)) 0 0 none 0 0 26; rw [World.size_alloc] at h; exact h).next hb
  have HW1 := Lib.hid (HWb.out.trans (hb.mono (by simp; omega)))
  have bc := bcellB hb
  have x0 : w1.cell? ⟨w.heap.size, 0, none⟩ = some (.int .i64 D) := (bc.1 _ _ (by simp; omega)).trans (by go_simp)
  have x1 : w1.cell? ⟨w.heap.size, 1, none⟩ = some (.int .i64 N) := (bc.1 _ _ (by simp; omega)).trans (by go_simp)
  have x2 : w1.cell? ⟨w.heap.size, 2, none⟩ = some (.slice a1 xs.length c1) := (bc.1 _ _ (by simp; omega)).trans (by go_simp)
  have HT := Lib.hid hT
  have hz1 := hT.1
  clear hb bc hT
  go_wp2_with fail
  refine (isZero_named hpb HQ1.out _).mono ?_
  rintro e w3 ⟨rfl, hb3⟩
  have hbx : Below w1.heap.size w1 w3 := below_step (below1 w1 (.cells #[.int .i64 p, .int .i64 q] 58)) hb3 (Nat.le_refl _)
  have HT3 := Lib.hid (HT.out.next hbx)
  have HW3 := Lib.hid (HW1.out.trans (hbx.mono HW1.out.size))
  have u0 := (hbx.cell (p := ⟨w.heap.size, 0, none⟩) (by show w.heap.size < _; omega)).trans x0
  have u1 := (hbx.cell (p := ⟨w.heap.size, 1, none⟩) (by show w.heap.size < _; omega)).trans x1
  have u2 := (hbx.cell (p := ⟨w.heap.size, 2, none⟩) (by show w.heap.size < _; omega)).trans x2
  have hz3 := hbx.size
  clear hb3 hbx x0 x1 x2
  go_wp2_with fail
  refine (spaceOf_c D N (by omega) (by omega) _).mono ?_
  rintro e w4 ⟨aS, cS, rfl, hb4, hN4⟩
  have HW4 := Lib.hid (HW3.out.trans (hb4.mono HW3.out.size))
  have HT4 := Lib.hid (HT3.out.next hb4)
  have hz4 := hb4.size
  have v0 := (hb4.cell (p := ⟨w.heap.size, 0, none⟩) (by show w.heap.size < _; omega)).trans u0
  have v1 := (hb4.cell (p := ⟨w.heap.size, 1, none⟩) (by show w.heap.size < _; omega)).trans u1
  have v2 := (hb4.cell (p := ⟨w.heap.size, 2, none⟩) (by show w.heap.size < _; omega)).trans u2
  have hba := below1 w4 (.cells #[.int .i64 D, .int .i64 N, .slice aS (allW D N).length cS] 64)
  have HW5 := Lib.hid (HW4.out.trans (hba.mono HW4.out.size))
  have HT5 := Lib.hid (HT4.out.next hba)
  have Kx0 := (hba.cell (p := ⟨w.heap.size, 0, none⟩) (by show w.heap.size < _; omega)).trans v0
  have Kx1 := (hba.cell (p := ⟨w.heap.size, 1, none⟩) (by show w.heap.size < _; omega)).trans v1
  have Kx2 := (hba.cell (p := ⟨w.heap.size, 2, none⟩) (by show w.heap.size < _; omega)).trans v2
  have Ks0 : (w4.alloc (.cells #[.int .i64 D, .int .i64 N, .slice aS (allW D N).length cS] 64)).cell? ⟨w4.heap.size, 0, none⟩ = some (.int .i64 D) := by go_simp
  have Ks1 : (w4.alloc (.cells #[.int .i64 D, .int .i64 N, .slice aS (allW D N).length cS] 64)).cell? ⟨w4.heap.size, 1, none⟩ = some (.int .i64 N) := by go_simp
  have Ks2 : (w4.alloc (.cells #[.int .i64 D, .int .i64 N, .slice aS (allW D N).length cS] 64)).cell? ⟨w4.heap.size, 2, none⟩ = some (.slice aS (allW D N).length cS) := by go_simp
  have HNs := Lib.hid (hN4.row.below hba (Nat.le_refl _))
  have hzz : (w4.alloc (.cells #[.int .i64 D, .int .i64 N, .slice aS (allW D N).length cS] 64)).heap.size = w4.heap.size + 1 := by simp
  have HDoor := Lib.hid (door_yes D N aS cS (allW D N) HWl.out HWs.out h 87 #[.pointer (some ⟨w4.heap.size, 0, none⟩), .pointer (some ⟨w.heap.size, 0, none⟩)] (fun _ => by kernel_rfl) (w4.alloc (.cells #[.int .i64 D, .int .i64 N, .slice aS (allW D N).length cS] 64)) (fun W hW => by have hk := expWork_yes D N (by omega) (by omega) w4.heap.size w.heap.size aS a1 cS c1 xs HH.out hl1 HS1.out h HV.out W (by have := hW.size; omega) (by have := hW.size; omega) ((hW.cell (p := ⟨w4.heap.size, 0, none⟩) (by show w4.heap.size < _; omega)).trans Ks0) ((hW.cell (p := ⟨w4.heap.size, 1, none⟩) (by show w4.heap.size < _; omega)).trans Ks1) ((hW.cell (p := ⟨w4.heap.size, 2, none⟩) (by show w4.heap.size < _; omega)).trans Ks2) ((hW.cell (p := ⟨w.heap.size, 0, none⟩) (by show w.heap.size < _; omega)).trans Kx0) ((hW.cell (p := ⟨w.heap.size, 1, none⟩) (by show w.heap.size < _; omega)).trans Kx1) ((hW.cell (p := ⟨w.heap.size, 2, none⟩) (by show w.heap.size < _; omega)).trans Kx2) (HNs.out.below hW (Nat.le_refl _)) (HT1.out.below (HW5.out.trans (hW.mono (by omega)))); rw [HV.out] at hk; exact hk) HNs.out)
  clear hb4 hN4 u0 u1 u2 v0 v1 v2 Kx0 Kx1 Kx2 Ks0 Ks1 Ks2 hba
  go_wp2_with fail
  refine HDoor.out.mono ?_
  rintro e w6 ⟨a6, c6, rfl, hb6, hN6⟩
  have hT6 := HT5.out.next hb6
  have HW6 := Lib.hid (HW5.out.trans (hb6.mono HW5.out.size))
  have HN6 := Lib.hid hN6
  have hzw : w.heap.size + 1 < w4.heap.size := HT4.out.1
  obtain ⟨hzr, r0, r1, r2, z0, z1, z2⟩ := id hT6
  clear hb6 hT6 hN6
  go_wp2
  refine bodyPost_ret (v := .tuple #[.agg #[.int .i64 D, .int .i64 N, .slice a6 (termsOf h (allW D N)).length c6], .int .i64 0]) (by simp [results, Tryz.results46, go_sem, r0, r1, r2]) rfl ⟨a6, c6, rfl, ?_, ?_⟩
  · have hW := HW6.out
    go_grown
  · exact (((HN6.out.far1s (by omega)).far1s (by omega)).far1s (by omega)).mono (by omega) (by simp)
end Go.Proofs.YtgcjpenlcokgjaaGreatDoor
