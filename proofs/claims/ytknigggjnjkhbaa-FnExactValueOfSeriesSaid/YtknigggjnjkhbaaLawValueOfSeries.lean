/-
  'FnExactValueOfSeries' returns true at every input for which the two functions' contracts stand: the program's ValueOfSeries and its model's return the same matrix and code, in memory of its own, and both arguments read as before.
-/
import Derived.Test.YtknigggjnjkhbaaFmL
import Derived.Test.YtknigggjnjkhbaaOpenR
import Derived.Deep.RegionHeld3
namespace Go.Proofs.Ytknigggjnjkhbaa
open Go.RowKit
set_option linter.unusedVariables false
set_option linter.unusedSimpArgs false

theorem Cs.outsideQ {lo hi : Nat} {w w' : World} {l : List (Nat × Nat × Value)} (h : Cs w l) (hg : Outside lo hi w w') (hr : ∀ p ∈ l, p.1 < lo ∨ hi ≤ p.1) : Cs w' l := fun p hp => ⟨Nat.lt_of_lt_of_le (h p hp).1 hg.size, (hg.cell (h p hp).1 (hr p hp)).trans (h p hp).2⟩
theorem RowB.outsideQ {lo hi hh : Nat} {w w' : World} {a : Option Addr} {ts : List Tm} (h : RowB hh w a ts) (hg : Outside lo hi w w') (h1 : hh ≤ lo) (h2 : hh ≤ w.heap.size) : RowB hh w' a ts := h.below (hg.below (B := hh) h1 h2) (Nat.le_refl _)
/-- what a function that returns a matrix of fractions and a code comes to -/
def GQPost (l : Nat) (F : QF) (c : Int) (W : World) (e : Ending) (w' : World) : Prop :=
  ∃ (a : Option Addr) (k : Nat), e = .returned (.tuple #[.slice a l k, .int .i64 c]) ∧ Below W.heap.size W w' ∧ NewG W.heap.size w'.heap.size w' a l F

set_option maxRecDepth 100000 in
set_option maxHeartbeats 16000000 in
theorem law_ValueOfSeries (L V : Int) (a : Option Addr) (cap : Nat) (xs : List Tm) (hl1 : xs.length ≤ maxLen) (hs1 : ∀ i (h : i < xs.length), (xs[i]).s.size ≤ maxLen) (aT : Option Addr) (cT : Nat) (ts : Tabs) (hl : ts.length ≤ maxLen) (hs : ∀ i (h : i < ts.length), (ts[i]).length ≤ maxLen ∧ ∀ j (h2 : j < (ts[i]).length), ((ts[i])[j]).length ≤ maxLen) (w : World) (hr1 : Row w a xs) (hr : TRow 0 w.heap.size w aT ts) (l : Nat) (F : QF) (c' : Int) (hl6 : l ≤ 6)
    (hS : ∀ (W : World) (bX : Option Addr) (kX : Nat) (bT : Option Addr) (kT : Nat), xs.length ≤ 1048576 → ts.length ≤ 1048576 → sz3 ts ≤ 1048576 → Row W bX xs → TRow 0 W.heap.size W bT ts → Calls Try.prog 7 #[.agg #[.int .i64 L, .int .i64 V, .slice bX xs.length kX], .slice bT ts.length kT] W (GQPost l F c' W))
    (hI : ∀ (W : World) (bX : Option Addr) (kX : Nat) (bT : Option Addr) (kT : Nat), xs.length ≤ 1048576 → ts.length ≤ 1048576 → sz3 ts ≤ 1048576 → Row W bX xs → TRow 0 W.heap.size W bT ts → Calls Try.prog 10 #[.agg #[.int .i64 L, .int .i64 V, .slice bX xs.length kX], .slice bT ts.length kT] W (GQPost l F c' W))
    : Calls Try.prog 3 #[.agg #[.int .i64 L, .int .i64 V, .slice a xs.length cap], .slice aT ts.length cT] w fun e w' => e = .returned (.bool true) ∧ Below w.heap.size w w' := by
  have HSp := Lib.hid hS
  have HIm := Lib.hid hI
  have HS1 := Lib.hid hs1
  have HS := Lib.hid hs
  obtain ⟨sq, hsq⟩ : ∃ sq, l * l = sq := ⟨_, rfl⟩
  have hsq36 : sq ≤ 36 := by rw [← hsq]; exact Nat.mul_le_mul hl6 hl6
  have HEq := Lib.hid (fun lo1 hi1 lo2 hi2 a1 a2 c1 c2 W M1 M2 => eqG_c lo1 hi1 lo2 hi2 l hl6 a1 a2 c1 c2 F W M1 M2)
  have HMk := Lib.hid (fun lo hi a c W (M : NewG lo hi W a l F) => (show Calls Try.prog 16 #[.slice a l c, .int .i64 1] W (MarkGR lo hi a l (markQ l 1) (1 + 2 * (sq : Int)) W) from by have h := markG_c lo hi l hl6 a c F 1 (by omega) W M; rw [hsq] at h; exact h))
  have HHd := Lib.hid (fun lo hi a c W (M : NewG lo hi W a l (markQ l 1)) => (show Calls Try.prog 17 #[.slice a l c, .int .i64 1] W (fun e w' => e = .returned (.int .i64 (1 + 2 * (sq : Int))) ∧ Below W.heap.size W w') from by have h := heldG_c lo hi l hl6 a c 1 (by omega) W M; rw [hsq] at h; exact h))
  have hmm : (0 : Int) ≤ 1 + 2 * (sq : Int) := by omega
  have R_0 := Lib.hid (hr.below (below1 w (.cells #[.int .i64 L, .int .i64 V, .slice a xs.length cap] 24)) (Nat.le_refl _))
  have A_0 := Lib.hid ((RowB.of_row hr1).below (below1 w (.cells #[.int .i64 L, .int .i64 V, .slice a xs.length cap] 24)) (Nat.le_refl _))
  have C_0 := Lib.hid ((Cs.nil w).box3 (.int .i64 L) (.int .i64 V) (.slice a xs.length cap) 24)
  have B_0 := Lib.hid (below1 w (.cells #[.int .i64 L, .int .i64 V, .slice a xs.length cap] 24))
  clear hS hI hs1 hs hr1 hr hsq
  go_enter Try.func3, Try.ntmps3
  have q0 := (C_0.out).get 0 rfl
  have q1 := (C_0.out).get 1 rfl
  have q2 := (C_0.out).get 2 rfl
  go_wp2_with fail
  refine (szSeries_c L V a xs.length cap 1048576 _ (szTermS_row a cap xs hl1 HS1.out 1048576 (by omega) _ (((A_0.out).row (by (try simp only [World.size_alloc]); omega)).below (below1 _ _)))).mono ?_
  clear q0 q1 q2
  rintro e w1 ⟨he, hb1⟩
  have hz1 := hb1.size
  (try simp only [World.size_alloc] at hz1)
  have R_1 := Lib.hid ((R_0.out).below hb1 (by (try simp only [World.size_alloc]); omega))
  have A_1 := Lib.hid ((A_0.out).below hb1 (by (try simp only [World.size_alloc]); omega))
  have C_1 := Lib.hid ((C_0.out).below hb1 (Nat.le_refl _))
  have B_1 := Lib.hid ((B_0.out).trans (hb1.mono (by (try simp only [World.size_alloc]); omega)))
  rcases he with rfl | ⟨r, hr0, hr1, hfit, rfl⟩
  · go_wp2
    go_ret
    exact ⟨rfl, B_1.out⟩
  have hlx : xs.length ≤ 1048576 := by omega
  clear hb1 hfit
  go_wp2_with fail
  refine (szInt64SSS_c 0 w.heap.size aT cT ts hl HS.out r (by omega) _ (R_1.out) (by (try simp only [World.size_alloc]); omega)).mono ?_
  rintro e w2 ⟨he, hb2⟩
  have hz2 := hb2.size
  (try simp only [World.size_alloc] at hz2)
  have R_2 := Lib.hid ((R_1.out).below hb2 (by (try simp only [World.size_alloc]); omega))
  have A_2 := Lib.hid ((A_1.out).below hb2 (by (try simp only [World.size_alloc]); omega))
  have C_2 := Lib.hid ((C_1.out).below hb2 (Nat.le_refl _))
  have B_2 := Lib.hid ((B_1.out).trans (hb2.mono (by (try simp only [World.size_alloc]); omega)))
  rcases he with rfl | ⟨r2, hr02, hr12, rfl⟩
  · go_wp2
    go_ret
    exact ⟨rfl, B_2.out⟩
  have hl2 : ts.length ≤ 1048576 := by omega
  have hs2 : sz3 ts ≤ 1048576 := by omega
  have hff := flat3_sz3 ts
  clear hb2
  have q0 := (C_2.out).get 0 rfl
  have q1 := (C_2.out).get 1 rfl
  have q2 := (C_2.out).get 2 rfl
  go_wp2_with fail
  refine (toSeries_row L V a cap xs hlx _ ((A_2.out).row (by (try simp only [World.size_alloc]); omega))).mono ?_
  clear q0 q1 q2
  rintro e w3 ⟨gs, rfl, hb3, hN3⟩
  have hz3 := hb3.size
  (try simp only [World.size_alloc] at hz3)
  have R_3 := Lib.hid ((R_2.out).below hb3 (by (try simp only [World.size_alloc]); omega))
  have A_3 := Lib.hid ((A_2.out).below hb3 (by (try simp only [World.size_alloc]); omega))
  have C_3 := Lib.hid ((C_2.out).below hb3 (Nat.le_refl _))
  have B_3 := Lib.hid ((B_2.out).trans (hb3.mono (by (try simp only [World.size_alloc]); omega)))
  have Ss_3 := Lib.hid hN3
  clear hb3 hN3
  go_wp2_with fail
  refine (toInt64SSS_c 0 w.heap.size aT cT ts hl2 hs2 _ (R_3.out) (by (try simp only [World.size_alloc]); omega)).mono ?_
  rintro e w4 ⟨ps, rfl, hb4, hN4⟩
  have hz4 := hb4.size
  (try simp only [World.size_alloc] at hz4)
  have R_4 := Lib.hid ((R_3.out).below hb4 (by (try simp only [World.size_alloc]); omega))
  have A_4 := Lib.hid ((A_3.out).below hb4 (by (try simp only [World.size_alloc]); omega))
  have C_4 := Lib.hid ((C_3.out).below hb4 (Nat.le_refl _))
  have Ss_4 := Lib.hid ((Ss_3.out).below hb4 (by (try simp only [World.size_alloc]); omega))
  have B_4 := Lib.hid ((B_3.out).trans (hb4.mono (by (try simp only [World.size_alloc]); omega)))
  have Ts_4 := Lib.hid hN4
  clear hb4 hN4
  go_wp2_with fail
  refine (HSp.out _ (some ⟨gs, 0, none⟩) xs.length ps _ hlx hl2 hs2 (Ss_4.out).row ((Ts_4.out).row.mono (by (try simp only [World.size_alloc]); omega) (by (try simp only [World.size_alloc]); omega))).mono ?_
  rintro e w5 ⟨aw, kw, rfl, hb5, hN5⟩
  have hz5 := hb5.size
  (try simp only [World.size_alloc] at hz5)
  have R_5 := Lib.hid ((R_4.out).below hb5 (by (try simp only [World.size_alloc]); omega))
  have A_5 := Lib.hid ((A_4.out).below hb5 (by (try simp only [World.size_alloc]); omega))
  have C_5 := Lib.hid ((C_4.out).below hb5 (Nat.le_refl _))
  have B_5 := Lib.hid ((B_4.out).trans (hb5.mono (by (try simp only [World.size_alloc]); omega)))
  have K_5 := Lib.hid hN5
  clear hb5 hN5
  clear HSp
  have q0 := (C_5.out).get 0 rfl
  have q1 := (C_5.out).get 1 rfl
  have q2 := (C_5.out).get 2 rfl
  go_wp2_with fail
  refine (toSeries_row L V a cap xs hlx _ ((A_5.out).row (by (try simp only [World.size_alloc]); omega))).mono ?_
  clear q0 q1 q2
  rintro e w6 ⟨gx, rfl, hb6, hN6⟩
  have hz6 := hb6.size
  (try simp only [World.size_alloc] at hz6)
  have R_6 := Lib.hid ((R_5.out).below hb6 (by (try simp only [World.size_alloc]); omega))
  have A_6 := Lib.hid ((A_5.out).below hb6 (by (try simp only [World.size_alloc]); omega))
  have C_6 := Lib.hid ((C_5.out).below hb6 (Nat.le_refl _))
  have K_6 := Lib.hid ((K_5.out).below hb6 (by (try simp only [World.size_alloc]); omega))
  have B_6 := Lib.hid ((B_5.out).trans (hb6.mono (by (try simp only [World.size_alloc]); omega)))
  have Sx_6 := Lib.hid hN6
  clear hb6 hN6
  have hbx := below1 w6 (.cells #[.int .i64 L, .int .i64 V, .slice (some ⟨gx, 0, none⟩) xs.length xs.length] 33)
  have R_b := Lib.hid ((R_6.out).below hbx (by (try simp only [World.size_alloc]); omega))
  have A_b := Lib.hid ((A_6.out).below hbx (by (try simp only [World.size_alloc]); omega))
  have C_b := Lib.hid ((C_6.out).box3 (.int .i64 L) (.int .i64 V) (.slice (some ⟨gx, 0, none⟩) xs.length xs.length) 33)
  have K_b := Lib.hid ((K_6.out).below hbx (by (try simp only [World.size_alloc]); omega))
  have Sx_b := Lib.hid ((Sx_6.out).below hbx (by (try simp only [World.size_alloc]); omega))
  have B_b := Lib.hid ((B_6.out).trans (hbx.mono (by (try simp only [World.size_alloc]); omega)))
  clear hbx
  go_wp2_with fail
  refine (toInt64SSS_c 0 w.heap.size aT cT ts hl2 hs2 _ (R_b.out) (by (try simp only [World.size_alloc]); omega)).mono ?_
  rintro e w7 ⟨px, rfl, hb7, hN7⟩
  have hz7 := hb7.size
  (try simp only [World.size_alloc] at hz7)
  have R_7 := Lib.hid ((R_b.out).below hb7 (by (try simp only [World.size_alloc]); omega))
  have A_7 := Lib.hid ((A_b.out).below hb7 (by (try simp only [World.size_alloc]); omega))
  have C_7 := Lib.hid ((C_b.out).below hb7 (Nat.le_refl _))
  have K_7 := Lib.hid ((K_b.out).below hb7 (by (try simp only [World.size_alloc]); omega))
  have Sx_7 := Lib.hid ((Sx_b.out).below hb7 (by (try simp only [World.size_alloc]); omega))
  have B_7 := Lib.hid ((B_b.out).trans (hb7.mono (by (try simp only [World.size_alloc]); omega)))
  have Tx_7 := Lib.hid hN7
  clear hb7 hN7
  have q0 := (C_7.out).get 0 rfl
  have q1 := (C_7.out).get 1 rfl
  have q2 := (C_7.out).get 2 rfl
  go_wp2_with fail
  refine (HIm.out _ (some ⟨gx, 0, none⟩) xs.length px _ hlx hl2 hs2 (Sx_7.out).row ((Tx_7.out).row.mono (by (try simp only [World.size_alloc]); omega) (by (try simp only [World.size_alloc]); omega))).mono ?_
  clear q0 q1 q2
  rintro e w8 ⟨ag, kg, rfl, hb8, hN8⟩
  have hz8 := hb8.size
  (try simp only [World.size_alloc] at hz8)
  have R_8 := Lib.hid ((R_7.out).below hb8 (by (try simp only [World.size_alloc]); omega))
  have A_8 := Lib.hid ((A_7.out).below hb8 (by (try simp only [World.size_alloc]); omega))
  have C_8 := Lib.hid ((C_7.out).below hb8 (Nat.le_refl _))
  have K_8 := Lib.hid ((K_7.out).below hb8 (by (try simp only [World.size_alloc]); omega))
  have Sx_8 := Lib.hid ((Sx_7.out).below hb8 (by (try simp only [World.size_alloc]); omega))
  have Tx_8 := Lib.hid ((Tx_7.out).below hb8 (by (try simp only [World.size_alloc]); omega))
  have B_8 := Lib.hid ((B_7.out).trans (hb8.mono (by (try simp only [World.size_alloc]); omega)))
  have G_8 := Lib.hid hN8
  clear hb8 hN8
  go_wp2_with fail
  refine (HEq.out _ _ _ _ ag aw _ _ _ (G_8.out) (K_8.out)).mono ?_
  rintro e w9 ⟨rfl, hb9⟩
  have hz9 := hb9.size
  (try simp only [World.size_alloc] at hz9)
  have R_9 := Lib.hid ((R_8.out).below hb9 (by (try simp only [World.size_alloc]); omega))
  have A_9 := Lib.hid ((A_8.out).below hb9 (by (try simp only [World.size_alloc]); omega))
  have C_9 := Lib.hid ((C_8.out).below hb9 (Nat.le_refl _))
  have K_9 := Lib.hid ((K_8.out).below hb9 (by (try simp only [World.size_alloc]); omega))
  have Sx_9 := Lib.hid ((Sx_8.out).below hb9 (by (try simp only [World.size_alloc]); omega))
  have Tx_9 := Lib.hid ((Tx_8.out).below hb9 (by (try simp only [World.size_alloc]); omega))
  have G_9 := Lib.hid ((G_8.out).below hb9 (by (try simp only [World.size_alloc]); omega))
  have B_9 := Lib.hid ((B_8.out).trans (hb9.mono (by (try simp only [World.size_alloc]); omega)))
  clear hb9
  have HTo := Lib.hid (fun W (hW : Below w9.heap.size w9 W) => toSeries_row L V a cap xs hlx W ((A_9.out).below hW (by (try simp only [World.size_alloc]); omega) |>.row (by have := hW.size; omega)))
  have HEs := Lib.hid (fun g7 W (r1 : Row W (some ⟨gx, 0, none⟩) xs) (r2 : Row W (some ⟨g7, 0, none⟩) xs) => eqSeries_row L V (some ⟨gx, 0, none⟩) (some ⟨g7, 0, none⟩) xs.length xs.length xs hlx W r1 r2)
  have HSx := Lib.hid (fun W (hW : Below w9.heap.size w9 W) => ((Sx_9.out).below hW (by (try simp only [World.size_alloc]); omega)).row)
  have q0 := (C_9.out).get 0 rfl
  have q1 := (C_9.out).get 1 rfl
  have q2 := (C_9.out).get 2 rfl
  have q3 := (C_9.out).get 3 rfl
  have q4 := (C_9.out).get 4 rfl
  have q5 := (C_9.out).get 5 rfl
  have hC6 := C_9.out
  have hlt0 : w.heap.size < w9.heap.size := (hC6 _ (List.mem_cons_of_mem _ (List.mem_cons_of_mem _ (List.mem_cons_of_mem _ (List.mem_cons_self ..))))).1
  have hlt1 : w6.heap.size < w9.heap.size := (hC6 _ (List.mem_cons_self ..)).1
  have KS := Lib.hid (show ∀ w', Below w9.heap.size w9 w' → (w'.cell? ⟨w6.heap.size, 0, none⟩ = some (.int .i64 L) ∧ w'.cell? ⟨w6.heap.size, 1, none⟩ = some (.int .i64 V) ∧ w'.cell? ⟨w6.heap.size, 2, none⟩ = some (.slice (some ⟨gx, 0, none⟩) xs.length xs.length) ∧ w'.cell? ⟨w.heap.size, 0, none⟩ = some (.int .i64 L) ∧ w'.cell? ⟨w.heap.size, 1, none⟩ = some (.int .i64 V) ∧ w'.cell? ⟨w.heap.size, 2, none⟩ = some (.slice a xs.length cap)) from fun w' hb => ⟨(hb.cell (p := ⟨w6.heap.size, 0, none⟩) hlt1).trans q0, (hb.cell (p := ⟨w6.heap.size, 1, none⟩) hlt1).trans q1, (hb.cell (p := ⟨w6.heap.size, 2, none⟩) hlt1).trans q2, (hb.cell (p := ⟨w.heap.size, 0, none⟩) hlt0).trans q3, (hb.cell (p := ⟨w.heap.size, 1, none⟩) hlt0).trans q4, (hb.cell (p := ⟨w.heap.size, 2, none⟩) hlt0).trans q5⟩)
  clear hC6
  go_upto_region 14 with fail
  go_cut [58] (fun s9 wy => s9 = .bool false ∧ Below w9.heap.size w9 wy)
  case first =>
    go_region_held3 (fun w' => w'.cell? ⟨w6.heap.size, 0, none⟩ = some (.int .i64 L) ∧ w'.cell? ⟨w6.heap.size, 1, none⟩ = some (.int .i64 V) ∧ w'.cell? ⟨w6.heap.size, 2, none⟩ = some (.slice (some ⟨gx, 0, none⟩) xs.length xs.length) ∧ w'.cell? ⟨w.heap.size, 0, none⟩ = some (.int .i64 L) ∧ w'.cell? ⟨w.heap.size, 1, none⟩ = some (.int .i64 V) ∧ w'.cell? ⟨w.heap.size, 2, none⟩ = some (.slice a xs.length cap))
      ((refine KS.out _ ?_; repeat' (first | with_reducible assumption | with_reducible exact Below.refl _ _ | (with_reducible refine Below.drew ?_) | (with_reducible refine Below.setCell ?_ (by (try dsimp only); omega) _) | (with_reducible refine Below.alloc ?_ (by (try simp only [World.size_setCell]); (try simp only [World.size_drew]); (try simp only [World.size_alloc]); (try simp only [World.size_setCell]); (try simp only [World.size_alloc]); omega) _))))
      (first
        | (go_at_call 8; (with_reducible refine (HTo.out _ ?_).mono ?_); (focus repeat' (first | with_reducible assumption | with_reducible exact Below.refl _ _ | (with_reducible refine Below.drew ?_) | (with_reducible refine Below.setCell ?_ (by (try dsimp only); omega) _) | (with_reducible refine Below.alloc ?_ (by (try simp only [World.size_setCell]); (try simp only [World.size_drew]); (try simp only [World.size_alloc]); (try simp only [World.size_setCell]); (try simp only [World.size_alloc]); omega) _))); rintro e wp ⟨g7, rfl, hb0, hN7⟩; have hbp : Below w9.heap.size w9 wp := below_step (by repeat' (first | with_reducible assumption | with_reducible exact Below.refl _ _ | (with_reducible refine Below.drew ?_) | (with_reducible refine Below.setCell ?_ (by (try dsimp only); omega) _) | (with_reducible refine Below.alloc ?_ (by (try simp only [World.size_setCell]); (try simp only [World.size_drew]); (try simp only [World.size_alloc]); (try simp only [World.size_setCell]); (try simp only [World.size_alloc]); omega) _))) hb0 (Nat.le_refl _))
        | (go_at_call 12; (with_reducible refine (HEs.out g7 _ ?_ ?_).mono ?_); (exact HSx.out _ (by repeat' (first | with_reducible assumption | with_reducible exact Below.refl _ _ | (with_reducible refine Below.drew ?_) | (with_reducible refine Below.setCell ?_ (by (try dsimp only); omega) _) | (with_reducible refine Below.alloc ?_ (by (try simp only [World.size_setCell]); (try simp only [World.size_drew]); (try simp only [World.size_alloc]); (try simp only [World.size_setCell]); (try simp only [World.size_alloc]); omega) _)))); (exact hN7.row); rintro e wq ⟨rfl, hb0⟩; have hbq : Below w9.heap.size w9 wq := below_step (by repeat' (first | with_reducible assumption | with_reducible exact Below.refl _ _ | (with_reducible refine Below.drew ?_) | (with_reducible refine Below.setCell ?_ (by (try dsimp only); omega) _) | (with_reducible refine Below.alloc ?_ (by (try simp only [World.size_setCell]); (try simp only [World.size_drew]); (try simp only [World.size_alloc]); (try simp only [World.size_setCell]); (try simp only [World.size_alloc]); omega) _))) hb0 (Nat.le_refl _))
        | fail)
    all_goals (go_wp2_with fail; go_meet)
    all_goals exact ⟨rfl, hbq⟩
  case rest =>
    obtain ⟨rfl, hb10⟩ := hcut
    obtain ⟨w10, rfl⟩ : ∃ w10 : World, w10 = wc := ⟨_, rfl⟩
    clear q0 q1 q2 q3 q4 q5 KS HTo HEs HSx
    have hz10 := hb10.size
    (try simp only [World.size_alloc] at hz10)
    have R_10 := Lib.hid ((R_9.out).below hb10 (by (try simp only [World.size_alloc]); omega))
    have A_10 := Lib.hid ((A_9.out).below hb10 (by (try simp only [World.size_alloc]); omega))
    have C_10 := Lib.hid ((C_9.out).below hb10 (Nat.le_refl _))
    have K_10 := Lib.hid ((K_9.out).below hb10 (by (try simp only [World.size_alloc]); omega))
    have Sx_10 := Lib.hid ((Sx_9.out).below hb10 (by (try simp only [World.size_alloc]); omega))
    have Tx_10 := Lib.hid ((Tx_9.out).below hb10 (by (try simp only [World.size_alloc]); omega))
    have G_10 := Lib.hid ((G_9.out).below hb10 (by (try simp only [World.size_alloc]); omega))
    have B_10 := Lib.hid ((B_9.out).trans (hb10.mono (by (try simp only [World.size_alloc]); omega)))
    clear hb10
    go_wp2_with fail
    refine (toInt64SSS_c 0 w.heap.size aT cT ts hl2 hs2 _ (R_10.out) (by (try simp only [World.size_alloc]); omega)).mono ?_
    rintro e w11 ⟨py, rfl, hb11, hN11⟩
    have hz11 := hb11.size
    (try simp only [World.size_alloc] at hz11)
    have R_11 := Lib.hid ((R_10.out).below hb11 (by (try simp only [World.size_alloc]); omega))
    have A_11 := Lib.hid ((A_10.out).below hb11 (by (try simp only [World.size_alloc]); omega))
    have C_11 := Lib.hid ((C_10.out).below hb11 (Nat.le_refl _))
    have K_11 := Lib.hid ((K_10.out).below hb11 (by (try simp only [World.size_alloc]); omega))
    have Sx_11 := Lib.hid ((Sx_10.out).below hb11 (by (try simp only [World.size_alloc]); omega))
    have Tx_11 := Lib.hid ((Tx_10.out).below hb11 (by (try simp only [World.size_alloc]); omega))
    have G_11 := Lib.hid ((G_10.out).below hb11 (by (try simp only [World.size_alloc]); omega))
    have B_11 := Lib.hid ((B_10.out).trans (hb11.mono (by (try simp only [World.size_alloc]); omega)))
    have Ty_11 := Lib.hid hN11
    clear hb11 hN11
    go_wp2_with fail
    refine (eqInt64SSS_row _ _ _ _ px py _ _ ts hl2 hs2 _ (Tx_11.out).row (Ty_11.out).row (by (try simp only [World.size_alloc]); omega) (by (try simp only [World.size_alloc]); omega)).mono ?_
    rintro e w12 ⟨rfl, hb12⟩
    have hz12 := hb12.size
    (try simp only [World.size_alloc] at hz12)
    have R_12 := Lib.hid ((R_11.out).below hb12 (by (try simp only [World.size_alloc]); omega))
    have A_12 := Lib.hid ((A_11.out).below hb12 (by (try simp only [World.size_alloc]); omega))
    have C_12 := Lib.hid ((C_11.out).below hb12 (Nat.le_refl _))
    have K_12 := Lib.hid ((K_11.out).below hb12 (by (try simp only [World.size_alloc]); omega))
    have Sx_12 := Lib.hid ((Sx_11.out).below hb12 (by (try simp only [World.size_alloc]); omega))
    have Tx_12 := Lib.hid ((Tx_11.out).below hb12 (by (try simp only [World.size_alloc]); omega))
    have G_12 := Lib.hid ((G_11.out).below hb12 (by (try simp only [World.size_alloc]); omega))
    have B_12 := Lib.hid ((B_11.out).trans (hb12.mono (by (try simp only [World.size_alloc]); omega)))
    clear hb12
    have q0 := (C_12.out).get 0 rfl
    have q1 := (C_12.out).get 1 rfl
    have q2 := (C_12.out).get 2 rfl
    go_wp2_with fail
    refine (markSeries_row L V (w5.heap.size) (w6.heap.size) (some ⟨gx, 0, none⟩) xs.length xs 1 (by omega) (by omega) _ (Sx_12.out)).mono ?_
    clear q0 q1 q2
    rintro e w13 ⟨r3, rfl, hG3, hR3, hN3⟩
    have hO13 := Outside.of_grown hG3 hR3
    have hz13 := hO13.size
    (try simp only [World.size_alloc] at hz13)
    have R_13 := Lib.hid ((R_12.out).outside hO13 (by (try simp only [World.size_alloc]); omega) (by (try simp only [World.size_alloc]); omega))
    have A_13 := Lib.hid ((A_12.out).outsideQ hO13 (by (try simp only [World.size_alloc]); omega) (by (try simp only [World.size_alloc]); omega))
    have C_13 := Lib.hid ((C_12.out).outsideQ hO13 (fun p hp => by simp only [List.mem_cons, List.not_mem_nil, or_false] at hp; rcases hp with rfl | rfl | rfl | rfl | rfl | rfl <;> ((try simp only [World.size_alloc]); omega)))
    have K_13 := Lib.hid ((K_12.out).aside hO13 (by (try simp only [World.size_alloc]); omega))
    have Tx_13 := Lib.hid ((Tx_12.out).outside hO13 (by (try simp only [World.size_alloc]); omega))
    have G_13 := Lib.hid ((G_12.out).aside hO13 (by (try simp only [World.size_alloc]); omega))
    have B_13 := Lib.hid ((B_12.out).trans (hO13.below (B := w.heap.size) (by (try simp only [World.size_alloc]); omega) (by (try simp only [World.size_alloc]); omega)))
    clear hO13 hG3 hR3 hN3
    go_wp2_with fail
    refine (markInt64SSS_row ((w6.alloc (.cells #[.int .i64 L, .int .i64 V, .slice (some ⟨gx, 0, none⟩) xs.length xs.length] 33)).heap.size) (w7.heap.size) px _ ts (1 + 3 * (xs.length : Int)) (by omega) (by omega) hl2 hs2 _ (Tx_13.out)).mono ?_
    rintro e w14 ⟨rfl, hO14, hN14⟩
    have hz14 := hO14.size
    (try simp only [World.size_alloc] at hz14)
    have R_14 := Lib.hid ((R_13.out).outside hO14 (by (try simp only [World.size_alloc]); omega) (by (try simp only [World.size_alloc]); omega))
    have A_14 := Lib.hid ((A_13.out).outsideQ hO14 (by (try simp only [World.size_alloc]); omega) (by (try simp only [World.size_alloc]); omega))
    have C_14 := Lib.hid ((C_13.out).outsideQ hO14 (fun p hp => by simp only [List.mem_cons, List.not_mem_nil, or_false] at hp; rcases hp with rfl | rfl | rfl | rfl | rfl | rfl <;> ((try simp only [World.size_alloc]); omega)))
    have K_14 := Lib.hid ((K_13.out).aside hO14 (by (try simp only [World.size_alloc]); omega))
    have G_14 := Lib.hid ((G_13.out).aside hO14 (by (try simp only [World.size_alloc]); omega))
    have B_14 := Lib.hid ((B_13.out).trans (hO14.below (B := w.heap.size) (by (try simp only [World.size_alloc]); omega) (by (try simp only [World.size_alloc]); omega)))
    clear hO14 hN14
    have hkk : (0 : Int) ≤ 1 + 3 * (xs.length : Int) + (flat3 ts : Int) := by omega
    go_wp2_with fail
    refine (HEq.out _ _ _ _ ag aw _ _ _ (G_14.out) (K_14.out)).mono ?_
    rintro e w15 ⟨rfl, hb15⟩
    have hz15 := hb15.size
    (try simp only [World.size_alloc] at hz15)
    have R_15 := Lib.hid ((R_14.out).below hb15 (by (try simp only [World.size_alloc]); omega))
    have A_15 := Lib.hid ((A_14.out).below hb15 (by (try simp only [World.size_alloc]); omega))
    have C_15 := Lib.hid ((C_14.out).below hb15 (Nat.le_refl _))
    have K_15 := Lib.hid ((K_14.out).below hb15 (by (try simp only [World.size_alloc]); omega))
    have G_15 := Lib.hid ((G_14.out).below hb15 (by (try simp only [World.size_alloc]); omega))
    have B_15 := Lib.hid ((B_14.out).trans (hb15.mono (by (try simp only [World.size_alloc]); omega)))
    clear hb15
    go_wp2_with fail
    refine (HMk.out (w7.heap.size) (w8.heap.size) ag _ _ (G_15.out)).mono ?_
    rintro e w16 ⟨rfl, hO16, hN16⟩
    have hz16 := hO16.size
    (try simp only [World.size_alloc] at hz16)
    have R_16 := Lib.hid ((R_15.out).outside hO16 (by (try simp only [World.size_alloc]); omega) (by (try simp only [World.size_alloc]); omega))
    have A_16 := Lib.hid ((A_15.out).outsideQ hO16 (by (try simp only [World.size_alloc]); omega) (by (try simp only [World.size_alloc]); omega))
    have C_16 := Lib.hid ((C_15.out).outsideQ hO16 (fun p hp => by simp only [List.mem_cons, List.not_mem_nil, or_false] at hp; rcases hp with rfl | rfl | rfl | rfl | rfl | rfl <;> ((try simp only [World.size_alloc]); omega)))
    have K_16 := Lib.hid ((K_15.out).aside hO16 (by (try simp only [World.size_alloc]); omega))
    have B_16 := Lib.hid ((B_15.out).trans (hO16.below (B := w.heap.size) (by (try simp only [World.size_alloc]); omega) (by (try simp only [World.size_alloc]); omega)))
    have M_16 := Lib.hid hN16
    clear hO16 hN16
    go_wp2_with fail
    refine (HHd.out (w7.heap.size) (w8.heap.size) ag _ _ (M_16.out)).mono ?_
    rintro e w17 ⟨rfl, hb17⟩
    have hz17 := hb17.size
    (try simp only [World.size_alloc] at hz17)
    have R_17 := Lib.hid ((R_16.out).below hb17 (by (try simp only [World.size_alloc]); omega))
    have A_17 := Lib.hid ((A_16.out).below hb17 (by (try simp only [World.size_alloc]); omega))
    have C_17 := Lib.hid ((C_16.out).below hb17 (Nat.le_refl _))
    have K_17 := Lib.hid ((K_16.out).below hb17 (by (try simp only [World.size_alloc]); omega))
    have M_17 := Lib.hid ((M_16.out).below hb17 (by (try simp only [World.size_alloc]); omega))
    have B_17 := Lib.hid ((B_16.out).trans (hb17.mono (by (try simp only [World.size_alloc]); omega)))
    clear hb17
    have q3 := (C_17.out).get 3 rfl
    have q4 := (C_17.out).get 4 rfl
    have q5 := (C_17.out).get 5 rfl
    go_wp2_with fail
    refine (toSeries_row L V a cap xs hlx _ ((A_17.out).row (by (try simp only [World.size_alloc]); omega))).mono ?_
    clear q3 q4 q5
    rintro e w18 ⟨gz, rfl, hb18, hN18⟩
    have hz18 := hb18.size
    (try simp only [World.size_alloc] at hz18)
    have R_18 := Lib.hid ((R_17.out).below hb18 (by (try simp only [World.size_alloc]); omega))
    have A_18 := Lib.hid ((A_17.out).below hb18 (by (try simp only [World.size_alloc]); omega))
    have C_18 := Lib.hid ((C_17.out).below hb18 (Nat.le_refl _))
    have K_18 := Lib.hid ((K_17.out).below hb18 (by (try simp only [World.size_alloc]); omega))
    have M_18 := Lib.hid ((M_17.out).below hb18 (by (try simp only [World.size_alloc]); omega))
    have B_18 := Lib.hid ((B_17.out).trans (hb18.mono (by (try simp only [World.size_alloc]); omega)))
    have Sz_18 := Lib.hid hN18
    clear hb18 hN18
    go_wp2_with fail
    refine (toInt64SSS_c 0 w.heap.size aT cT ts hl2 hs2 _ (R_18.out) (by (try simp only [World.size_alloc]); omega)).mono ?_
    rintro e w19 ⟨pz, rfl, hb19, hN19⟩
    have hz19 := hb19.size
    (try simp only [World.size_alloc] at hz19)
    have R_19 := Lib.hid ((R_18.out).below hb19 (by (try simp only [World.size_alloc]); omega))
    have A_19 := Lib.hid ((A_18.out).below hb19 (by (try simp only [World.size_alloc]); omega))
    have C_19 := Lib.hid ((C_18.out).below hb19 (Nat.le_refl _))
    have K_19 := Lib.hid ((K_18.out).below hb19 (by (try simp only [World.size_alloc]); omega))
    have M_19 := Lib.hid ((M_18.out).below hb19 (by (try simp only [World.size_alloc]); omega))
    have Sz_19 := Lib.hid ((Sz_18.out).below hb19 (by (try simp only [World.size_alloc]); omega))
    have B_19 := Lib.hid ((B_18.out).trans (hb19.mono (by (try simp only [World.size_alloc]); omega)))
    have Tz_19 := Lib.hid hN19
    clear hb19 hN19
    go_wp2_with fail
    refine (HIm.out _ (some ⟨gz, 0, none⟩) xs.length pz _ hlx hl2 hs2 (Sz_19.out).row ((Tz_19.out).row.mono (by (try simp only [World.size_alloc]); omega) (by (try simp only [World.size_alloc]); omega))).mono ?_
    rintro e w20 ⟨ah, kh, rfl, hb20, hN20⟩
    have hz20 := hb20.size
    (try simp only [World.size_alloc] at hz20)
    have R_20 := Lib.hid ((R_19.out).below hb20 (by (try simp only [World.size_alloc]); omega))
    have A_20 := Lib.hid ((A_19.out).below hb20 (by (try simp only [World.size_alloc]); omega))
    have C_20 := Lib.hid ((C_19.out).below hb20 (Nat.le_refl _))
    have K_20 := Lib.hid ((K_19.out).below hb20 (by (try simp only [World.size_alloc]); omega))
    have M_20 := Lib.hid ((M_19.out).below hb20 (by (try simp only [World.size_alloc]); omega))
    have B_20 := Lib.hid ((B_19.out).trans (hb20.mono (by (try simp only [World.size_alloc]); omega)))
    have H_20 := Lib.hid hN20
    clear hb20 hN20
    clear HIm
    go_wp2_with fail
    refine (HEq.out _ _ _ _ ah aw _ _ _ (H_20.out) (K_20.out)).mono ?_
    rintro e w21 ⟨rfl, hb21⟩
    have hz21 := hb21.size
    (try simp only [World.size_alloc] at hz21)
    have R_21 := Lib.hid ((R_20.out).below hb21 (by (try simp only [World.size_alloc]); omega))
    have A_21 := Lib.hid ((A_20.out).below hb21 (by (try simp only [World.size_alloc]); omega))
    have C_21 := Lib.hid ((C_20.out).below hb21 (Nat.le_refl _))
    have K_21 := Lib.hid ((K_20.out).below hb21 (by (try simp only [World.size_alloc]); omega))
    have M_21 := Lib.hid ((M_20.out).below hb21 (by (try simp only [World.size_alloc]); omega))
    have H_21 := Lib.hid ((H_20.out).below hb21 (by (try simp only [World.size_alloc]); omega))
    have B_21 := Lib.hid ((B_20.out).trans (hb21.mono (by (try simp only [World.size_alloc]); omega)))
    clear hb21
    go_wp2_with fail
    refine (HHd.out (w7.heap.size) (w8.heap.size) ag _ _ (M_21.out)).mono ?_
    rintro e w22 ⟨rfl, hb22⟩
    have hz22 := hb22.size
    (try simp only [World.size_alloc] at hz22)
    have R_22 := Lib.hid ((R_21.out).below hb22 (by (try simp only [World.size_alloc]); omega))
    have A_22 := Lib.hid ((A_21.out).below hb22 (by (try simp only [World.size_alloc]); omega))
    have C_22 := Lib.hid ((C_21.out).below hb22 (Nat.le_refl _))
    have K_22 := Lib.hid ((K_21.out).below hb22 (by (try simp only [World.size_alloc]); omega))
    have M_22 := Lib.hid ((M_21.out).below hb22 (by (try simp only [World.size_alloc]); omega))
    have H_22 := Lib.hid ((H_21.out).below hb22 (by (try simp only [World.size_alloc]); omega))
    have B_22 := Lib.hid ((B_21.out).trans (hb22.mono (by (try simp only [World.size_alloc]); omega)))
    clear hb22
    go_wp2
    go_ret
    exact ⟨rfl, B_22.out⟩
end Go.Proofs.Ytknigggjnjkhbaa
