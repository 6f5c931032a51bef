/-
  Contracts of PairSeries, of the program and of its model.
-/
import Derived.Test.YtjciadbmpkkgdaaPairS
import Derived.Test.YtjciadbmpkkgdaaAddP
namespace Go.Proofs.Ytjciadbmpkkgdaa
open Go.RowKit

/-- what PairSeries comes to: the fraction and the code -/
def pairC (r : Option (Int × Int)) : Int × Int × Int := match r with | none => (0, 0, 3) | some a => (a.1, a.2, 0)
set_option maxRecDepth 100000 in
set_option maxHeartbeats 4000000 in
theorem sPair_1 (L1 V1 L2 V2 : Int) (g1 g2 : Nat) (xs ys : List Tm) (hl1 : xs.length ≤ 1048576) (hl2 : ys.length ≤ 1048576) (hs1 : ∀ i (h : i < xs.length), (xs[i]).s.size ≤ maxLen) (hs2 : ∀ i (h : i < ys.length), (ys[i]).s.size ≤ maxLen) (c : Int) (hc : codeL L1 V1 xs L2 V2 ys = c) (hc0 : c ≠ 0) (w : World) (hb1 : g1 < w.heap.size) (hb2 : g2 < w.heap.size) (t1 : TermsIn w g1 0 xs) (t2 : TermsIn w g2 0 ys) :
    Calls Try.prog 28 #[.agg #[.int .i64 L1, .int .i64 V1, .slice (some ⟨g1, 0, none⟩) xs.length xs.length], .agg #[.int .i64 L2, .int .i64 V2, .slice (some ⟨g2, 0, none⟩) ys.length ys.length]] w (FracPost (0, 0, c) w) := by
  have HT1 := Lib.hid t1
  have HT2 := Lib.hid t2
  have HS1 := Lib.hid hs1
  have HS2 := Lib.hid hs2
  have HC := Lib.hid hc
  have hcn : (c != 0) = true := by simpa using hc0
  clear t1 t2 hs1 hs2 hc hc0
  go_enter Try.func28, Try.ntmps28
  go_wp2_with fail
  refine (l01Code_c L1 V1 L2 V2 g1 0 xs.length g2 0 ys.length (w.heap.size + 1 + 1 + 1) xs ys hl1 hl2 HS1.out HS2.out _ (by simp; omega) (by simp; omega) (by simp) (HT1.out.below (below4 w _ _ _ _) hb1) (HT2.out.below (below4 w _ _ _ _) hb2) (by go_simp) (by go_simp) (by go_simp)).mono ?_
  rw [HC.out]
  rintro e w1 ⟨rfl, hb⟩
  have hB := hb
  simp only [World.size_alloc] at hB
  obtain ⟨hcc, hf⟩ := bcellB hB
  have r0 : w1.cell? ⟨w.heap.size + 1 + 1, 0, none⟩ = some (.int .i64 0) := (hcc _ _ (by go_size)).trans (by go_simp)
  have r1 : w1.cell? ⟨w.heap.size + 1 + 1, 1, none⟩ = some (.int .i64 0) := (hcc _ _ (by go_size)).trans (by go_simp)
  have z0 : w1.frozen? ⟨w.heap.size + 1 + 1, 0, none⟩ = false := (hf _ _ (by go_size)).trans (by go_simp)
  have z1 : w1.frozen? ⟨w.heap.size + 1 + 1, 1, none⟩ = false := (hf _ _ (by go_size)).trans (by go_simp)
  have hW := (below4 w _ _ _ _).trans (hB.mono (by omega))
  have hz : w.heap.size + 1 + 1 < w1.heap.size := by have := hB.size; simp at this; omega
  clear hcc hf hB hb
  go_wp2
  exact bodyPost_ret (v := .tuple #[.agg #[.int .i64 0, .int .i64 0], .int .i64 c]) (by simp [results, Try.results28, go_sem, r0, r1]) rfl ⟨rfl, by go_grown⟩
set_option maxRecDepth 100000 in
set_option maxHeartbeats 4000000 in
theorem sPair_2 (L1 V1 L2 V2 : Int) (g1 g2 : Nat) (xs ys : List Tm) (hl1 : xs.length ≤ 1048576) (hl2 : ys.length ≤ 1048576) (hs1 : ∀ i (h : i < xs.length), (xs[i]).s.size ≤ maxLen) (hs2 : ∀ i (h : i < ys.length), (ys[i]).s.size ≤ maxLen) (hc : codeL L1 V1 xs L2 V2 ys = 0) (a1 : serB L1 V1 xs = true) (a2 : serB L2 V2 ys = true) (w : World) (hb1 : g1 < w.heap.size) (hb2 : g2 < w.heap.size) (t1 : TermsIn w g1 0 xs) (t2 : TermsIn w g2 0 ys) :
    Calls Try.prog 28 #[.agg #[.int .i64 L1, .int .i64 V1, .slice (some ⟨g1, 0, none⟩) xs.length xs.length], .agg #[.int .i64 L2, .int .i64 V2, .slice (some ⟨g2, 0, none⟩) ys.length ys.length]] w (FracPost (pairC (pairL ys xs (0, 1))) w) := by
  have HT1 := Lib.hid t1
  have HT2 := Lib.hid t2
  have HS1 := Lib.hid hs1
  have HS2 := Lib.hid hs2
  have HC := Lib.hid hc
  have HA1 := Lib.hid a1
  have HA2 := Lib.hid a2
  clear t1 t2 hs1 hs2 hc a1 a2
  go_enter Try.func28, Try.ntmps28
  go_wp2_with fail
  refine (l01Code_c L1 V1 L2 V2 g1 0 xs.length g2 0 ys.length (w.heap.size + 1 + 1 + 1) xs ys hl1 hl2 HS1.out HS2.out _ (by simp; omega) (by simp; omega) (by simp) (HT1.out.below (below4 w _ _ _ _) hb1) (HT2.out.below (below4 w _ _ _ _) hb2) (by go_simp) (by go_simp) (by go_simp)).mono ?_
  rw [HC.out]
  rintro e w1 ⟨rfl, hb⟩
  have hB := hb
  simp only [World.size_alloc] at hB
  obtain ⟨hcc, hf⟩ := bcellB hB
  have x0 : w1.cell? ⟨w.heap.size, 0, none⟩ = some (.int .i64 L1) := (hcc _ _ (by go_size)).trans (by go_simp)
  have x1 : w1.cell? ⟨w.heap.size, 1, none⟩ = some (.int .i64 V1) := (hcc _ _ (by go_size)).trans (by go_simp)
  have x2 : w1.cell? ⟨w.heap.size, 2, none⟩ = some (.slice (some ⟨g1, 0, none⟩) xs.length xs.length) := (hcc _ _ (by go_size)).trans (by go_simp)
  have y0 : w1.cell? ⟨w.heap.size + 1, 0, none⟩ = some (.int .i64 L2) := (hcc _ _ (by go_size)).trans (by go_simp)
  have y1 : w1.cell? ⟨w.heap.size + 1, 1, none⟩ = some (.int .i64 V2) := (hcc _ _ (by go_size)).trans (by go_simp)
  have y2 : w1.cell? ⟨w.heap.size + 1, 2, none⟩ = some (.slice (some ⟨g2, 0, none⟩) ys.length ys.length) := (hcc _ _ (by go_size)).trans (by go_simp)
  have r0 : w1.cell? ⟨w.heap.size + 1 + 1, 0, none⟩ = some (.int .i64 0) := (hcc _ _ (by go_size)).trans (by go_simp)
  have r1 : w1.cell? ⟨w.heap.size + 1 + 1, 1, none⟩ = some (.int .i64 0) := (hcc _ _ (by go_size)).trans (by go_simp)
  have z0 : w1.frozen? ⟨w.heap.size + 1 + 1, 0, none⟩ = false := (hf _ _ (by go_size)).trans (by go_simp)
  have z1 : w1.frozen? ⟨w.heap.size + 1 + 1, 1, none⟩ = false := (hf _ _ (by go_size)).trans (by go_simp)
  have hW := (below4 w _ _ _ _).trans (hB.mono (by omega))
  have hz : w.heap.size + 1 + 1 < w1.heap.size := by have := hB.size; simp at this; omega
  clear hcc hf hB hb
  have HW := Lib.hid hW
  go_wp2_with fail
  refine (l03Pair_c L1 V1 L2 V2 g1 g2 _ _ xs ys hl1 hl2 HA1.out HA2.out _ (by omega) (by omega) (HT1.out.below HW.out hb1) (HT2.out.below HW.out hb2)).mono ?_
  rintro e w2 ⟨rfl, hb⟩
  have bc := bcellB hb
  have s0 := (bc.1 _ _ hz).trans r0
  have s1 := (bc.1 _ _ hz).trans r1
  have y0 := (bc.2 _ _ hz).trans z0
  have y1 := (bc.2 _ _ hz).trans z1
  have HW2 := Lib.hid (HW.out.trans (hb.mono (by omega)))
  have hz2 : w.heap.size + 1 + 1 < w2.heap.size := Nat.lt_of_lt_of_le hz hb.size
  clear bc hb r0 r1 z0 z1 x0 x1 x2 y2 hW hz
  cases hr : pairL ys xs (0, 1) with
  | none =>
    simp only [pairR]
    go_wp2_with fail
    refine (l01Told_no 0 0 _).mono ?_
    rintro e w3 ⟨rfl, hb⟩
    have bc := bcellB hb
    have u0 := (bc.1 _ _ hz2).trans s0
    have u1 := (bc.1 _ _ hz2).trans s1
    have v0 := (bc.2 _ _ hz2).trans y0
    have v1 := (bc.2 _ _ hz2).trans y1
    have hW3 := HW2.out.trans (hb.mono (by omega))
    have hz3 : w.heap.size + 1 + 1 < w3.heap.size := Nat.lt_of_lt_of_le hz2 hb.size
    clear bc hb s0 s1 y0 y1 hz2
    go_wp2
    exact bodyPost_ret (v := .tuple #[.agg #[.int .i64 0, .int .i64 0], .int .i64 3]) (by simp [results, Try.results28, go_sem, u0, u1]) rfl ⟨by rw [hr]; rfl, by go_grown⟩
  | some r =>
    obtain ⟨a, b⟩ := r
    simp only [pairR]
    go_wp2_with fail
    refine (l01Told_yes a b _).mono ?_
    rintro e w3 ⟨rfl, hb⟩
    have bc := bcellB hb
    have u0 := (bc.1 _ _ hz2).trans s0
    have u1 := (bc.1 _ _ hz2).trans s1
    have v0 := (bc.2 _ _ hz2).trans y0
    have v1 := (bc.2 _ _ hz2).trans y1
    have hW3 := HW2.out.trans (hb.mono (by omega))
    have hz3 : w.heap.size + 1 + 1 < w3.heap.size := Nat.lt_of_lt_of_le hz2 hb.size
    clear bc hb s0 s1 y0 y1 hz2
    go_wp2
    exact bodyPost_ret (v := .tuple #[.agg #[.int .i64 a, .int .i64 b], .int .i64 0]) (by simp [results, Try.results28, go_sem, u0, u1]) rfl ⟨by rw [hr]; rfl, by go_grown⟩
theorem iWhole_c (x : Int) (w : World) : Calls Try.prog 63 #[.int .i64 x] w fun e w' => e = .returned (.agg #[.int .i64 x, .int .i64 1]) ∧ Below w.heap.size w w' := by
  go_enter Try.func63, Try.ntmps63
  go_wp2
  exact bodyPost_ret (v := .agg #[.int .i64 x, .int .i64 1]) (by simp [results, Try.results63, go_sem]) rfl ⟨rfl, by go_grown⟩
theorem ser_neP {L V : Int} {ts : List Tm} (h : serB L V ts = true) : ts.Pairwise (fun a b => a.s ≠ b.s) :=
  List.pairwise_iff_getElem.2 fun i j _ hj hij e => by
    have := asc_of_ser h i j hj hij
    rw [e, lessL_irrefl] at this
    cases this
theorem ser_nzP {L V : Int} {ts : List Tm} (h : serB L V ts = true) : ∀ t ∈ ts, t.n ≠ 0 := fun t ht => by
  have h1 := ser_term h t ht
  simp only [termB, Bool.and_eq_true, Bool.not_eq_true', beq_eq_false_iff_ne] at h1
  exact h1.2.2
theorem ap_case {ys xs : List Tm} {k : Nat} {a b n d p q : Int} {s : ByteArray} (hP : PairAt ys xs k a b) (hn : pairL ys (xs.drop k) (a, b) = match pairStep ys (a, b) ⟨s, n, d⟩ with
    | none => none
    | some a => pairL ys (xs.drop (k + 1)) a) (hl : valL s.data.toList ys = (p, q)) (hp : p ≠ 0) :
    ∃ t1 t2 t3, apR a b n d p q = (t1, t2, t3) ∧ ((t3 = 3 ∧ t1 = 0 ∧ t2 = 0 ∧ pairL ys xs (0, 1) = none) ∨ (t3 = 0 ∧ PairAt ys xs (k + 1) t1 t2)) := by
  cases hok : fOk (n * p) (d * q) with
  | false =>
    refine ⟨0, 0, 3, by unfold apR; rw [hok]; rfl, .inl ⟨rfl, rfl, rfl, ?_⟩⟩
    rw [pair_bad1 (t := ⟨s, n, d⟩) hl hp hok] at hn
    exact hP.1.symm.trans hn
  | true =>
    cases hok2 : fOk (a * fD (n * p) (d * q) + fN (n * p) (d * q) * b) (b * fD (n * p) (d * q)) with
    | false =>
      refine ⟨0, 0, 3, ?_, .inl ⟨rfl, rfl, rfl, ?_⟩⟩
      · unfold apR
        rw [hok, if_pos rfl]
        unfold q3
        rw [(low_no hok2).1, (low_no hok2).2.1, (low_no hok2).2.2]
      · rw [pair_bad2 (t := ⟨s, n, d⟩) hl hp hok rfl rfl hok2] at hn
        exact hP.1.symm.trans hn
    | true =>
      refine ⟨_, _, 0, ?_, .inr ⟨rfl, ?_, fOk_isFp hok2⟩⟩
      · unfold apR
        rw [hok, if_pos rfl]
        unfold q3
        rw [(low_yes hok2).2.2]
      · rw [pair_good (t := ⟨s, n, d⟩) hl hp hok rfl rfl hok2] at hn
        exact hn.symm.trans hP.1
set_option maxRecDepth 100000 in
set_option maxHeartbeats 4000000 in
theorem iPair_1 (L1 V1 L2 V2 : Int) (g1 g2 : Nat) (xs ys : List Tm) (hl1 : xs.length ≤ 1048576) (hl2 : ys.length ≤ 1048576) (hs1 : ∀ i (h : i < xs.length), (xs[i]).s.size ≤ maxLen) (hs2 : ∀ i (h : i < ys.length), (ys[i]).s.size ≤ maxLen) (c : Int) (hc : codeL L1 V1 xs L2 V2 ys = c) (hc0 : c ≠ 0) (w : World) (hb1 : g1 < w.heap.size) (hb2 : g2 < w.heap.size) (t1 : TermsIn w g1 0 xs) (t2 : TermsIn w g2 0 ys) :
    Calls Try.prog 29 #[.agg #[.int .i64 L1, .int .i64 V1, .slice (some ⟨g1, 0, none⟩) xs.length xs.length], .agg #[.int .i64 L2, .int .i64 V2, .slice (some ⟨g2, 0, none⟩) ys.length ys.length]] w (FracPost (0, 0, c) w) := by
  have HT1 := Lib.hid t1
  have HT2 := Lib.hid t2
  have HS1 := Lib.hid hs1
  have HS2 := Lib.hid hs2
  have HC := Lib.hid hc
  have hcn : (c != 0) = true := by simpa using hc0
  clear t1 t2 hs1 hs2 hc hc0
  go_enter Try.func29, Try.ntmps29
  go_wp2_with fail
  refine (checkFactors_c L1 V1 L2 V2 g1 g2 _ _ xs ys hl1 hl2 HS1.out HS2.out _ (by simp; omega) (by simp; omega) (HT1.out.below (below3 w _ _ _) hb1) (HT2.out.below (below3 w _ _ _) hb2)).mono ?_
  rw [HC.out]
  rintro e w1 ⟨rfl, hb⟩
  have hB := hb
  simp only [World.size_alloc] at hB
  obtain ⟨hcc, hf⟩ := bcellB hB
  have r0 : w1.cell? ⟨w.heap.size + 1 + 1, 0, none⟩ = some (.int .i64 0) := (hcc _ _ (by omega)).trans (by go_simp)
  have r1 : w1.cell? ⟨w.heap.size + 1 + 1, 1, none⟩ = some (.int .i64 0) := (hcc _ _ (by omega)).trans (by go_simp)
  have z0 : w1.frozen? ⟨w.heap.size + 1 + 1, 0, none⟩ = false := (hf _ _ (by omega)).trans (by go_simp)
  have z1 : w1.frozen? ⟨w.heap.size + 1 + 1, 1, none⟩ = false := (hf _ _ (by omega)).trans (by go_simp)
  have hW := (below3 w (.cells #[.int .i64 L1, .int .i64 V1, .slice (some ⟨g1, 0, none⟩) xs.length xs.length] 29) (.cells #[.int .i64 L2, .int .i64 V2, .slice (some ⟨g2, 0, none⟩) ys.length ys.length] 29) (.cells #[.int .i64 0, .int .i64 0] 34)).trans (hB.mono (by omega))
  clear hcc hf hB hb
  go_wp2
  exact bodyPost_ret (v := .tuple #[.agg #[.int .i64 0, .int .i64 0], .int .i64 c]) (by simp [results, Try.results29, go_sem, r0, r1]) rfl ⟨rfl, by go_grown⟩
set_option maxRecDepth 100000 in
set_option maxHeartbeats 8000000 in
theorem iPair_2 (L1 V1 L2 V2 : Int) (g1 g2 : Nat) (xs ys : List Tm) (hl1 : xs.length ≤ 1048576) (hl2 : ys.length ≤ 1048576) (hs1 : ∀ i (h : i < xs.length), (xs[i]).s.size ≤ maxLen) (hs2 : ∀ i (h : i < ys.length), (ys[i]).s.size ≤ maxLen) (hc : codeL L1 V1 xs L2 V2 ys = 0) (a1 : serB L1 V1 xs = true) (a2 : serB L2 V2 ys = true) (w : World) (hb1 : g1 < w.heap.size) (hb2 : g2 < w.heap.size) (t1 : TermsIn w g1 0 xs) (t2 : TermsIn w g2 0 ys) :
    Calls Try.prog 29 #[.agg #[.int .i64 L1, .int .i64 V1, .slice (some ⟨g1, 0, none⟩) xs.length xs.length], .agg #[.int .i64 L2, .int .i64 V2, .slice (some ⟨g2, 0, none⟩) ys.length ys.length]] w (FracPost (pairC (pairL ys xs (0, 1))) w) := by
  have HT1 := Lib.hid t1
  have HT2 := Lib.hid t2
  have HS1 := Lib.hid hs1
  have HS2 := Lib.hid hs2
  have HC := Lib.hid hc
  have HF1 := Lib.hid (ser_fr a1)
  have HF2 := Lib.hid (ser_fr a2)
  have HVV := Lib.hid (valV_valL (ser_neP a2) (ser_nzP a2))
  clear t1 t2 hs1 hs2 hc a1 a2
  go_enter Try.func29, Try.ntmps29
  go_wp2_with fail
  refine (checkFactors_c L1 V1 L2 V2 g1 g2 _ _ xs ys hl1 hl2 HS1.out HS2.out _ (by simp; omega) (by simp; omega) (HT1.out.below (below3 w _ _ _) hb1) (HT2.out.below (below3 w _ _ _) hb2)).mono ?_
  rw [HC.out]
  rintro e w1 ⟨rfl, hb⟩
  have HB1 := Lib.hid (show Below (w.heap.size + 1 + 1 + 1) (((w.alloc (.cells #[.int .i64 L1, .int .i64 V1, .slice (some ⟨g1, 0, none⟩) xs.length xs.length] 29)).alloc (.cells #[.int .i64 L2, .int .i64 V2, .slice (some ⟨g2, 0, none⟩) ys.length ys.length] 29)).alloc (.cells #[.int .i64 0, .int .i64 0] 34)) w1 from by simpa using hb)
  have hz1 : w.heap.size + 1 + 1 < w1.heap.size := by have := hb.size; simp at this; omega
  have HW1 := Lib.hid ((below3 w _ _ _).trans (HB1.out.mono (by omega)))
  have bc := bcellB HB1.out
  have y0 : w1.cell? ⟨w.heap.size + 1, 0, none⟩ = some (.int .i64 L2) := (bc.1 _ _ (by omega)).trans (by go_simp)
  have y1 : w1.cell? ⟨w.heap.size + 1, 1, none⟩ = some (.int .i64 V2) := (bc.1 _ _ (by omega)).trans (by go_simp)
  have y2 : w1.cell? ⟨w.heap.size + 1, 2, none⟩ = some (.slice (some ⟨g2, 0, none⟩) ys.length ys.length) := (bc.1 _ _ (by omega)).trans (by go_simp)
  clear bc hb
  go_wp2_with fail
  refine (valuesOf_c L2 V2 _ _ ys hl2 HS2.out _ (.inr ⟨g2, 0, rfl, by omega, HT2.out.below HW1.out hb2⟩)).mono ?_
  rintro e w2 ⟨mb, rfl, hmb, hb, hM⟩
  have HB2 := Lib.hid (HB1.out.trans (hb.mono (by omega)))
  have HM2 := Lib.hid hM
  have hz2 := hb.size
  have hmb2 := hM.lt
  clear hb hM y0 y1 y2
  go_wp2_with fail
  refine (iWhole_c 0 _).mono ?_
  rintro e w3 ⟨rfl, hb⟩
  have HB3 := Lib.hid (HB2.out.trans (hb.mono (by omega)))
  have HM3 := Lib.hid (HM2.out.below hb hmb2)
  have hz3 := hb.size
  have hmb3 : mb < w3.heap.size := by omega
  have bc := bcellB HB3.out
  have x2 : w3.cell? ⟨w.heap.size, 2, none⟩ = some (.slice (some ⟨g1, 0, none⟩) xs.length xs.length) := (bc.1 _ _ (by omega)).trans (by go_simp)
  have r0 : w3.cell? ⟨w.heap.size + 1 + 1, 0, none⟩ = some (.int .i64 0) := (bc.1 _ _ (by omega)).trans (by go_simp)
  have r1 : w3.cell? ⟨w.heap.size + 1 + 1, 1, none⟩ = some (.int .i64 0) := (bc.1 _ _ (by omega)).trans (by go_simp)
  have z0 : w3.frozen? ⟨w.heap.size + 1 + 1, 0, none⟩ = false := (bc.2 _ _ (by omega)).trans (by go_simp)
  have z1 : w3.frozen? ⟨w.heap.size + 1 + 1, 1, none⟩ = false := (bc.2 _ _ (by omega)).trans (by go_simp)
  have HR3 := Lib.hid (show Box2 w3 (w.heap.size + 1 + 1) 0 0 from ⟨by omega, r0, r1, z0, z1⟩)
  have HW3 := Lib.hid ((below3 w _ _ _).trans (HB3.out.mono (by omega)))
  have hw0 : w.heap.size < w3.heap.size := by omega
  have hw2 : w.heap.size + 1 + 1 < w3.heap.size := by omega
  clear bc hb r0 r1 z0 z1 HM2 HB2 HB1 HW1
  go_wp2_with fail
  go_loopw [26] (fun vi wr => ∃ (k : Nat) (a b : Int), k ≤ xs.length ∧ vi = .int .i64 k ∧ PairAt ys xs k a b ∧ Below w3.heap.size w3 wr ∧ Box2 wr w3.heap.size a b) (fun vi _ => xs.length - (intOf vi).toNat)
  case atStart => exact ⟨0, 0, 1, Nat.zero_le _, rfl, ⟨rfl, isF_zero_one⟩, below1 _ _, Box2.new _ _ _ _⟩
  case round =>
    obtain ⟨k, a, b, hk, rfl, hP, hB, hS⟩ := hrel
    have HP := Lib.hid hP
    have HB := Lib.hid hB
    have HS := Lib.hid hS
    have hzr := hS.1
    have HW := Lib.hid (HW3.out.trans (hB.mono (by omega)))
    have HRr := Lib.hid (HR3.out.below hB (by omega))
    clear hP hB hS x2
    by_cases hlt : k < xs.length
    · have HN := Lib.hid (pair_next (ys := ys) hlt (a, b))
      obtain ⟨c0, c1, c2⟩ := HT1.out.below HW.out hb1 k hlt
      have HFx := Lib.hid (HF1.out _ (List.getElem_mem hlt))
      have hsz := HS1.out k hlt
      obtain ⟨s, n, d, het⟩ : ∃ s n d, xs[k] = ⟨s, n, d⟩ := ⟨_, _, _, rfl⟩
      rw [het] at c0 c1 c2 HN HFx hsz
      simp only [Nat.zero_add] at c0 c1 c2 hsz
      have hb1r : g1 < wr.heap.size := by omega
      have HMr := Lib.hid ((HM3.out.below HB.out hmb3).alloc (.cells #[.string s, .int .i64 n, .int .i64 d] 54))
      have HA := Lib.hid (HVV.out s)
      clear het
      rcases HA.out with ⟨hv, hl⟩ | ⟨t, ht, hv, hl, htn⟩
      · have HFv := Lib.hid hv
        have HA2 := Lib.hid (show PairAt ys xs (k + 1) a b from ⟨by
          have e := HN.out
          rw [pair_skip (t := ⟨s, n, d⟩) hl rfl] at e
          exact e.symm.trans HP.out.1, HP.out.2⟩)
        clear hv hl
        go_wp2_with (at_lookup; refine wpList_lookV rfl _ _ rfl rfl HMr.out s rfl hsz ?_; rw [HFv.out]; simp only [lookV])
        go_roundw
        case rel => exact ⟨k + 1, a, b, by omega, by go_num, HA2.out, (HB.out.alloc (by omega) _).alloc (by simp; omega) _, (HS.out.below (below1 _ _) hzr).below (below1 _ _) (by simp; omega)⟩
        case measure => simp [intOf]; omega
      · have HFv := Lib.hid hv
        have HTf := Lib.hid (HF2.out t ht)
        obtain ⟨ts, p, q⟩ := t
        simp only at hl htn HTf
        obtain ⟨t1, t2, t3, hap, hcase⟩ := ap_case HP.out HN.out hl htn
        have HAp := Lib.hid hap
        have HCa := Lib.hid hcase
        have s0 := HS.out.2.1
        have s1 := HS.out.2.2.1
        clear hl htn ht hap hcase hv
        simp only at HFv
        go_wp2_with (first | (at_lookup; refine wpList_lookV rfl _ _ rfl rfl HMr.out s rfl hsz ?_; rw [HFv.out]; simp only [lookV]) | fail)
        refine (addProduct_c a b n d p q HP.out.2 HFx.out HTf.out _).mono ?_
        rw [HAp.out]
        rintro e w4 ⟨rfl, hb⟩
        have hbr : Below wr.heap.size wr w4 := (below2 wr (.cells #[.string s, .int .i64 n, .int .i64 d] 54) (.cells #[.int .i64 p, .int .i64 q] 34)).trans (hb.mono (by simp; omega))
        have HB4 := Lib.hid (HB.out.trans (hbr.mono (by omega)))
        have HS4 := Lib.hid (HS.out.below hbr hzr)
        have HR4 := Lib.hid (HRr.out.below hbr (by omega))
        have hz4 := HB4.out.size
        have u0 := HS4.out.2.1
        have u1 := HS4.out.2.2.1
        have v0 := HS4.out.2.2.2.1
        have v1 := HS4.out.2.2.2.2
        have hu := HS4.out.1
        clear hb hbr s0 s1
        rcases HCa.out with ⟨rfl, rfl, rfl, hnone⟩ | ⟨rfl, hpa⟩
        · have HNo := Lib.hid hnone
          have r0 := HR4.out.2.1
          have r1 := HR4.out.2.2.1
          have z0 := HR4.out.2.2.2.1
          have z1 := HR4.out.2.2.2.2
          have hW4 := HW3.out.trans (HB4.out.mono (by omega))
          have hr4 := HR4.out.1
          clear hnone
          go_wp2
          rw [HNo.out]
          exact bodyPost_ret (v := .tuple #[.agg #[.int .i64 0, .int .i64 0], .int .i64 3]) (by simp [results, Try.results29, go_sem, r0, r1]) rfl ⟨rfl, by go_grown⟩
        · have HPa := Lib.hid hpa
          clear hpa
          go_wp2
          go_roundw
          case rel => exact ⟨k + 1, t1, t2, by omega, by go_num, HPa.out, (HB4.out.setCell (p := ⟨w3.heap.size, 0, none⟩) (Nat.le_refl _) _).setCell (p := ⟨w3.heap.size, 1, none⟩) (Nat.le_refl _) _, HS4.out.store t1 t2⟩
          case measure => simp [intOf]; omega
    · obtain rfl : k = xs.length := by omega
      have HR := Lib.hid (show pairL ys xs (0, 1) = some (a, b) by
        have e := HP.out.1
        rw [List.drop_length] at e
        exact e.symm)
      have s0 := HS.out.2.1
      have s1 := HS.out.2.2.1
      have r0 := HRr.out.2.1
      have r1 := HRr.out.2.2.1
      have z0 := HRr.out.2.2.2.1
      have z1 := HRr.out.2.2.2.2
      have hr4 := HRr.out.1
      have hW := HW.out
      go_wp2
      rw [HR.out]
      exact bodyPost_ret (v := .tuple #[.agg #[.int .i64 a, .int .i64 b], .int .i64 0]) (by simp [results, Try.results29, go_sem, r0, r1]) rfl ⟨rfl, by go_grown⟩
end Go.Proofs.Ytjciadbmpkkgdaa
