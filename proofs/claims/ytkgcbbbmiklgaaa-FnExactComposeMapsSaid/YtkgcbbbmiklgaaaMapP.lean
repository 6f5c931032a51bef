/-
  Contracts of MapPath and ComposeMaps, of the program and of its model: both return the same rows and code.
-/
import Derived.Test.YtkgcbbbmiklgaaaRowsN
namespace Go.Proofs.Ytkgcbbbmiklgaaa
open Go.RowKit

theorem fitL_path {D : Int} {E : Nat} {ls ps : List (List Int)} (h : pathB D ls = true) (hm : mapB D E ps = true) : FitL E ls ps := by
  obtain ⟨h1, h2, h3⟩ := pathB_true h
  obtain ⟨E', e1, e2, hS⟩ := smallR_of hm
  obtain rfl : E = E' := by omega
  refine ⟨h2, hS, fun i hi => ?_⟩
  obtain ⟨q1, q2⟩ := stepB_true (h3 i hi)
  exact ⟨by omega, q2⟩
theorem fitL_map {D : Int} {E F : Nat} {ls ps : List (List Int)} (h : mapB D E ls = true) (hm : mapB E F ps = true) : FitL F ls ps := by
  obtain ⟨h1, h2, h3, h4⟩ := mapB_true h
  obtain ⟨F', e1, e2, hS⟩ := smallR_of hm
  obtain rfl : F = F' := by omega
  have a1 := inB_true h1
  refine ⟨by omega, hS, fun i hi => ?_⟩
  obtain ⟨q1, q2⟩ := stepB_true (h4 i hi)
  exact ⟨by omega, q2⟩
theorem pathB_sums {E : Nat} {ls ps : List (List Int)} (hF : FitL E ls ps) : pathB E (rowsL ls ps E) = okL ls ps E := by
  have h1 := hF.2.1.2.2.1
  have h2 := hF.2.1.2.2.2.1
  rw [← pathB_rows (inB_yes (by omega)) (by simp [rowsL]; exact hF.1), okL_rows]
theorem mapB_sums {D : Int} {E : Nat} {ls ps : List (List Int)} (hF : FitL E ls ps) (hD : inB D 1 3 = true) (hl : (ls.length : Int) = D) : mapB D E (rowsL ls ps E) = okL ls ps E := by
  have h1 := hF.2.1.2.2.1
  have h2 := hF.2.1.2.2.2.1
  have e : ((rowsL ls ps E).length : Int) = D := by simp [rowsL]; exact hl
  subst e
  rw [← mapB_rows hD (inB_yes (by omega)), okL_rows]

section
variable (lo hi lo2 hi2 : Nat) (D L : Int) (a : Option Addr) (cap : Nat) (ps : List (List Int)) (b : Option Addr) (cap2 : Nat) (qs : List (List Int)) (hl : ps.length ≤ 1048576) (hs : flat ps ≤ 1048576) (hl2 : qs.length ≤ 1048576) (hs2 : flat qs ≤ 1048576) (w : World) (hr : PRow lo hi w a ps) (hr2 : PRow lo2 hi2 w b qs)
include hl hs hl2 hs2 hr hr2
omit hl2 hs2 hr2 in
theorem sMp_1 (h : pathB D ps = false) : Calls Try.prog 22 #[.int .i64 D, .slice a ps.length cap, .int .i64 L, .slice b qs.length cap2] w (PathPost [] 1 w) := by
  have H := Lib.hid (sIsPath_c lo hi D a cap ps hl hs w hr)
  have HB := Lib.hid h
  clear hr h
  go_enter Try.func22, Try.ntmps22
  go_wp2_with (go_at_call 26; with_reducible refine H.out.mono ?_; rw [HB.out]; rintro e w' ⟨rfl, rfl⟩)
  go_ret2
  exact ⟨none, 0, rfl, Below.refl _ _, .inl rfl⟩
theorem sMp_2 (h : pathB D ps = true) (h2 : mapB D L qs = false) : Calls Try.prog 22 #[.int .i64 D, .slice a ps.length cap, .int .i64 L, .slice b qs.length cap2] w (PathPost [] 2 w) := by
  have H := Lib.hid (sIsPath_c lo hi D a cap ps hl hs w hr)
  have HB := Lib.hid h
  have H2 := Lib.hid (l07Is_c lo2 hi2 D L b cap2 qs hl2 hs2 w hr2)
  have HB2 := Lib.hid h2
  clear hr hr2 h h2
  go_enter Try.func22, Try.ntmps22
  go_wp2_with (first | (go_at_call 26; with_reducible refine H.out.mono ?_; rw [HB.out]; rintro e w' ⟨rfl, rfl⟩) | (go_at_call 42; with_reducible refine H2.out.mono ?_; rw [HB2.out]; rintro e w' ⟨rfl, rfl⟩))
  go_ret2
  exact ⟨none, 0, rfl, Below.refl _ _, .inl rfl⟩
omit hl2 hs2 hr2 in
theorem iMp_1 (h : pathB D ps = false) : Calls Try.prog 23 #[.int .i64 D, .slice a ps.length cap, .int .i64 L, .slice b qs.length cap2] w (PathPost [] 1 w) := by
  have H := Lib.hid (iIsPath_c lo hi D a cap ps hl hs w hr)
  have HB := Lib.hid h
  clear hr h
  go_enter Try.func23, Try.ntmps23
  go_wp2_with (go_at_call 27; with_reducible refine H.out.mono ?_; rw [HB.out]; rintro e w' ⟨rfl, rfl⟩)
  go_ret2
  exact ⟨none, 0, rfl, Below.refl _ _, .inl rfl⟩
theorem iMp_2 (h : pathB D ps = true) (h2 : mapB D L qs = false) : Calls Try.prog 23 #[.int .i64 D, .slice a ps.length cap, .int .i64 L, .slice b qs.length cap2] w (PathPost [] 2 w) := by
  have H := Lib.hid (iIsPath_c lo hi D a cap ps hl hs w hr)
  have HB := Lib.hid h
  have H2 := Lib.hid (iIsMap_c lo2 hi2 D L b cap2 qs hl2 hs2 w hr2)
  have HB2 := Lib.hid h2
  clear hr hr2 h h2
  go_enter Try.func23, Try.ntmps23
  go_wp2_with (first | (go_at_call 27; with_reducible refine H.out.mono ?_; rw [HB.out]; rintro e w' ⟨rfl, rfl⟩) | (go_at_call 16; with_reducible refine H2.out.mono ?_; rw [HB2.out]; rintro e w' ⟨rfl, rfl⟩))
  go_ret2
  exact ⟨none, 0, rfl, Below.refl _ _, .inl rfl⟩
end
section
variable (lo hi lo2 hi2 : Nat) (D L F : Int) (a : Option Addr) (cap : Nat) (ps : List (List Int)) (b : Option Addr) (cap2 : Nat) (qs : List (List Int)) (hl : ps.length ≤ 1048576) (hs : flat ps ≤ 1048576) (hl2 : qs.length ≤ 1048576) (hs2 : flat qs ≤ 1048576) (w : World) (hr : PRow lo hi w a ps) (hr2 : PRow lo2 hi2 w b qs)
include hl hs hl2 hs2 hr hr2
omit hl2 hs2 hr2 in
theorem sCp_1 (h : mapB D L ps = false) : Calls Try.prog 24 #[.int .i64 D, .int .i64 L, .int .i64 F, .slice a ps.length cap, .slice b qs.length cap2] w (PathPost [] 2 w) := by
  have H := Lib.hid (l07Is_c lo hi D L a cap ps hl hs w hr)
  have HB := Lib.hid h
  clear hr h
  go_enter Try.func24, Try.ntmps24
  go_wp2_with (go_at_call 42; with_reducible refine H.out.mono ?_; rw [HB.out]; rintro e w' ⟨rfl, rfl⟩)
  go_ret2
  exact ⟨none, 0, rfl, Below.refl _ _, .inl rfl⟩
set_option maxRecDepth 100000 in
theorem sCp_2 (h : mapB D L ps = true) (h2 : mapB L F qs = false) : Calls Try.prog 24 #[.int .i64 D, .int .i64 L, .int .i64 F, .slice a ps.length cap, .slice b qs.length cap2] w (PathPost [] 2 w) := by
  have H := Lib.hid (l07Is_c lo hi D L a cap ps hl hs w hr)
  have HB := Lib.hid h
  have H2 := Lib.hid (l07Is_c lo2 hi2 L F b cap2 qs hl2 hs2 w hr2)
  have HB2 := Lib.hid h2
  clear hr hr2 h h2
  go_enter Try.func24, Try.ntmps24
  go_wp2_with (go_at_call 42; first | (with_reducible refine H.out.mono ?_; rw [HB.out]; rintro e w' ⟨rfl, rfl⟩) | (with_reducible refine H2.out.mono ?_; rw [HB2.out]; rintro e w' ⟨rfl, rfl⟩))
  go_ret2
  exact ⟨none, 0, rfl, Below.refl _ _, .inl rfl⟩
omit hl2 hs2 hr2 in
theorem iCp_1 (h : mapB D L ps = false) : Calls Try.prog 25 #[.int .i64 D, .int .i64 L, .int .i64 F, .slice a ps.length cap, .slice b qs.length cap2] w (PathPost [] 2 w) := by
  have H := Lib.hid (iIsMap_c lo hi D L a cap ps hl hs w hr)
  have HB := Lib.hid h
  clear hr h
  go_enter Try.func25, Try.ntmps25
  go_wp2_with (go_at_call 16; with_reducible refine H.out.mono ?_; rw [HB.out]; rintro e w' ⟨rfl, rfl⟩)
  go_ret2
  exact ⟨none, 0, rfl, Below.refl _ _, .inl rfl⟩
set_option maxRecDepth 100000 in
theorem iCp_2 (h : mapB D L ps = true) (h2 : mapB L F qs = false) : Calls Try.prog 25 #[.int .i64 D, .int .i64 L, .int .i64 F, .slice a ps.length cap, .slice b qs.length cap2] w (PathPost [] 2 w) := by
  have H := Lib.hid (iIsMap_c lo hi D L a cap ps hl hs w hr)
  have HB := Lib.hid h
  have H2 := Lib.hid (iIsMap_c lo2 hi2 L F b cap2 qs hl2 hs2 w hr2)
  have HB2 := Lib.hid h2
  clear hr hr2 h h2
  go_enter Try.func25, Try.ntmps25
  go_wp2_with (go_at_call 16; first | (with_reducible refine H.out.mono ?_; rw [HB.out]; rintro e w' ⟨rfl, rfl⟩) | (with_reducible refine H2.out.mono ?_; rw [HB2.out]; rintro e w' ⟨rfl, rfl⟩))
  go_ret2
  exact ⟨none, 0, rfl, Below.refl _ _, .inl rfl⟩
end

set_option maxRecDepth 100000 in
set_option maxHeartbeats 4000000 in
theorem sMp_3 (lo hi lo2 hi2 : Nat) (D : Int) (E : Nat) (a : Option Addr) (cap : Nat) (ps : List (List Int)) (b : Option Addr) (cap2 : Nat) (qs : List (List Int)) (hl : ps.length ≤ 1048576) (hs : flat ps ≤ 1048576) (hl2 : qs.length ≤ 1048576) (hs2 : flat qs ≤ 1048576) (w : World) (hr : PRow lo hi w a ps) (hr2 : PRow lo2 hi2 w b qs) (hh : hi ≤ w.heap.size) (hh2 : hi2 ≤ w.heap.size)
    (h : pathB D ps = true) (h2 : mapB D E qs = true) (rs : List (List Int)) (c : Int) (hres : if okL ps qs E then rs = rowsL ps qs E ∧ c = 0 else rs = [] ∧ c = 3) :
    Calls Try.prog 22 #[.int .i64 D, .slice a ps.length cap, .int .i64 E, .slice b qs.length cap2] w (PathPost rs c w) := by
  have HF := fitL_path h h2
  have HS := Lib.hid (l07Rows_c lo2 hi2 lo hi E a cap ps b cap2 qs w hr hh hr2 hh2 HF)
  have H := Lib.hid (sIsPath_c lo hi D a cap ps hl hs w hr)
  have HB := Lib.hid h
  have H2 := Lib.hid (l07Is_c lo2 hi2 D E b cap2 qs hl2 hs2 w hr2)
  have HB2 := Lib.hid h2
  have HR := Lib.hid hres
  clear hr hr2 h h2 HF hres
  go_enter Try.func22, Try.ntmps22
  go_wp2_with (first | (go_at_call 26; with_reducible refine H.out.mono ?_; rw [HB.out]; rintro e w' ⟨rfl, rfl⟩) | (go_at_call 42; with_reducible refine H2.out.mono ?_; rw [HB2.out]; rintro e w' ⟨rfl, rfl⟩) | fail)
  refine HS.out.mono ?_
  rintro e w1 ⟨a1, c1, rows, hrows, rfl, hb1, hN1⟩
  have HB1 := Lib.hid hb1
  have HN1 := Lib.hid hN1
  clear hb1 hN1
  cases hok : okL ps qs E with
  | true =>
    obtain ⟨rfl, rfl⟩ := (show rs = rowsL ps qs E ∧ c = 0 from by have h := HR.out; rwa [hok, if_pos rfl] at h)
    obtain rfl : rows = rowsL ps qs E := by rwa [hok, if_pos rfl] at hrows
    clear hrows
    go_wp2
    go_ret2
    exact ⟨a1, c1, rfl, HB1.out, HN1.out⟩
  | false =>
    obtain ⟨rfl, rfl⟩ := (show rs = [] ∧ c = 3 from by have h := HR.out; rw [hok] at h; simpa using h)
    clear hrows
    go_wp2
    go_ret2
    exact ⟨none, 0, rfl, HB1.out, .inl rfl⟩

set_option maxRecDepth 100000 in
set_option maxHeartbeats 4000000 in
theorem iMp_3 (lo hi lo2 hi2 : Nat) (D : Int) (E : Nat) (a : Option Addr) (cap : Nat) (ps : List (List Int)) (b : Option Addr) (cap2 : Nat) (qs : List (List Int)) (hl : ps.length ≤ 1048576) (hs : flat ps ≤ 1048576) (hl2 : qs.length ≤ 1048576) (hs2 : flat qs ≤ 1048576) (w : World) (hr : PRow lo hi w a ps) (hr2 : PRow lo2 hi2 w b qs) (hh : hi ≤ w.heap.size) (hh2 : hi2 ≤ w.heap.size)
    (h : pathB D ps = true) (h2 : mapB D E qs = true) (rs : List (List Int)) (c : Int) (hres : if okL ps qs E then rs = rowsL ps qs E ∧ c = 0 else rs = [] ∧ c = 3) :
    Calls Try.prog 23 #[.int .i64 D, .slice a ps.length cap, .int .i64 E, .slice b qs.length cap2] w (PathPost rs c w) := by
  have HF := Lib.hid (fitL_path h h2)
  have hq3 := HF.out.2.1.2.1
  have hp12 := HF.out.1
  have H := Lib.hid (iIsPath_c lo hi D a cap ps hl hs w hr)
  have HB := Lib.hid h
  have H2 := Lib.hid (iIsMap_c lo2 hi2 D E b cap2 qs hl2 hs2 w hr2)
  have HB2 := Lib.hid h2
  have HR := Lib.hid hres
  have HT := Lib.hid hr
  have HT2 := Lib.hid hr2
  clear hr hr2 h h2 hres
  go_enter Try.func23, Try.ntmps23
  go_wp2_with (first | (go_at_call 27; with_reducible refine H.out.mono ?_; rw [HB.out]; rintro e w' ⟨rfl, rfl⟩) | (go_at_call 16; with_reducible refine H2.out.mono ?_; rw [HB2.out]; rintro e w' ⟨rfl, rfl⟩) | fail)
  refine (linearOf_c lo2 hi2 b cap2 qs hq3 (fun i hi => by have h1 := (HF.out.2.1.2.2.2.2 i hi).1; have h2 := HF.out.2.1.2.2.2.1; omega) _ HT2.out hh2).mono ?_
  unfold linV
  rintro e w1 ⟨rfl, hb1⟩
  have HB1 := Lib.hid hb1
  clear hb1
  go_wp2_with fail
  refine (movesOf_c lo hi a cap ps hp12 (fun i hi => by have h1 := (HF.out.2.2 i hi).1; omega) _ (HT.out.below HB1.out hh) (by have := HB1.out.size; omega)).mono ?_
  rintro e w2 ⟨a2, c2, rfl, hb2, hO2⟩
  have HB2b := Lib.hid (HB1.out.trans (hb2.mono HB1.out.size))
  have HO2 := Lib.hid (hO2.at_.2.row)
  clear hb2 hO2
  go_wp2_with fail
  have hmd := madeOf_c w1.heap.size w2.heap.size (linOf qs 0) (linOf qs 1) (linOf qs 2) (lin_small HF.out.2.1 0) (lin_small HF.out.2.1 1) (lin_small HF.out.2.1 2) a2 c2 (ps.map mvOf) (by rw [List.length_map]; exact hp12) (mv_smallL HF.out) w2 HO2.out (Nat.le_refl _)
  simp only [List.length_map] at hmd
  refine hmd.mono ?_
  rintro e w3 ⟨a3, c3, rfl, hb3, hO3⟩
  have HB3 := Lib.hid (HB2b.out.trans (hb3.mono HB2b.out.size))
  have HO3 := Lib.hid (hO3.at_.2.row)
  clear hb3 hO3 hmd
  go_wp2_with fail
  have hpo := pathOf_c w2.heap.size w3.heap.size E ⟨HF.out.2.1.2.2.1, HF.out.2.1.2.2.2.1⟩ a3 c3 ((ps.map mvOf).map (mapped (linOf qs 0) (linOf qs 1) (linOf qs 2))) (by simp; omega) w3 HO3.out (Nat.le_refl _) (rowsL ps qs E) (mapped_rows HF.out).symm c rs (by rw [pathB_sums HF.out]; exact HR.out)
  simp only [List.length_map] at hpo
  refine hpo.mono ?_
  rintro e w4 ⟨a4, c4, rfl, hb4, hN4⟩
  have HB4 := Lib.hid (HB3.out.trans (hb4.mono HB3.out.size))
  have HN4 := Lib.hid (hN4.mono HB3.out.size (Nat.le_refl _))
  clear hb4 hN4 hpo
  go_wp2
  go_ret2
  exact ⟨a4, c4, rfl, HB4.out, HN4.out⟩

set_option maxRecDepth 100000 in
set_option maxHeartbeats 4000000 in
theorem sCp_3 (lo hi lo2 hi2 : Nat) (D : Int) (L F : Nat) (a : Option Addr) (cap : Nat) (ps : List (List Int)) (b : Option Addr) (cap2 : Nat) (qs : List (List Int)) (hl : ps.length ≤ 1048576) (hs : flat ps ≤ 1048576) (hl2 : qs.length ≤ 1048576) (hs2 : flat qs ≤ 1048576) (w : World) (hr : PRow lo hi w a ps) (hr2 : PRow lo2 hi2 w b qs) (hh : hi ≤ w.heap.size) (hh2 : hi2 ≤ w.heap.size)
    (h : mapB D L ps = true) (h2 : mapB L F qs = true) (rs : List (List Int)) (c : Int) (hres : if okL ps qs F then rs = rowsL ps qs F ∧ c = 0 else rs = [] ∧ c = 3) :
    Calls Try.prog 24 #[.int .i64 D, .int .i64 L, .int .i64 F, .slice a ps.length cap, .slice b qs.length cap2] w (PathPost rs c w) := by
  have HF := fitL_map h h2
  have HS := Lib.hid (l07Rows_c lo2 hi2 lo hi F a cap ps b cap2 qs w hr hh hr2 hh2 HF)
  have H := Lib.hid (l07Is_c lo hi D L a cap ps hl hs w hr)
  have HB := Lib.hid h
  have H2 := Lib.hid (l07Is_c lo2 hi2 L F b cap2 qs hl2 hs2 w hr2)
  have HB2 := Lib.hid h2
  have HR := Lib.hid hres
  clear hr hr2 h h2 HF hres
  go_enter Try.func24, Try.ntmps24
  go_wp2_with (first | (go_at_call 42; with_reducible refine H.out.mono ?_; rw [HB.out]; rintro e w' ⟨rfl, rfl⟩) | (go_at_call 42; with_reducible refine H2.out.mono ?_; rw [HB2.out]; rintro e w' ⟨rfl, rfl⟩) | fail)
  refine HS.out.mono ?_
  rintro e w1 ⟨a1, c1, rows, hrows, rfl, hb1, hN1⟩
  have HB1 := Lib.hid hb1
  have HN1 := Lib.hid hN1
  clear hb1 hN1
  cases hok : okL ps qs F with
  | true =>
    obtain ⟨rfl, rfl⟩ := (show rs = rowsL ps qs F ∧ c = 0 from by have h := HR.out; rwa [hok, if_pos rfl] at h)
    obtain rfl : rows = rowsL ps qs F := by rwa [hok, if_pos rfl] at hrows
    clear hrows
    go_wp2
    go_ret2
    exact ⟨a1, c1, rfl, HB1.out, HN1.out⟩
  | false =>
    obtain ⟨rfl, rfl⟩ := (show rs = [] ∧ c = 3 from by have h := HR.out; rw [hok] at h; simpa using h)
    clear hrows
    go_wp2
    go_ret2
    exact ⟨none, 0, rfl, HB1.out, .inl rfl⟩

set_option maxRecDepth 100000 in
set_option maxHeartbeats 4000000 in
theorem iCp_3 (lo hi lo2 hi2 : Nat) (D : Int) (L F : Nat) (a : Option Addr) (cap : Nat) (ps : List (List Int)) (b : Option Addr) (cap2 : Nat) (qs : List (List Int)) (hl : ps.length ≤ 1048576) (hs : flat ps ≤ 1048576) (hl2 : qs.length ≤ 1048576) (hs2 : flat qs ≤ 1048576) (w : World) (hr : PRow lo hi w a ps) (hr2 : PRow lo2 hi2 w b qs) (hh : hi ≤ w.heap.size) (hh2 : hi2 ≤ w.heap.size)
    (h : mapB D L ps = true) (h2 : mapB L F qs = true) (rs : List (List Int)) (c : Int) (hres : if okL ps qs F then rs = rowsL ps qs F ∧ c = 0 else rs = [] ∧ c = 3) :
    Calls Try.prog 25 #[.int .i64 D, .int .i64 L, .int .i64 F, .slice a ps.length cap, .slice b qs.length cap2] w (PathPost rs c w) := by
  have HF := Lib.hid (fitL_map h h2)
  have hq3 := HF.out.2.1.2.1
  have hp12 := HF.out.1
  have H := Lib.hid (iIsMap_c lo hi D L a cap ps hl hs w hr)
  have HB := Lib.hid h
  have H2 := Lib.hid (iIsMap_c lo2 hi2 L F b cap2 qs hl2 hs2 w hr2)
  have HB2 := Lib.hid h2
  have HR := Lib.hid hres
  have HT := Lib.hid hr
  have HT2 := Lib.hid hr2
  clear hr hr2 h h2 hres
  go_enter Try.func25, Try.ntmps25
  go_wp2_with (first | (go_at_call 16; with_reducible refine H.out.mono ?_; rw [HB.out]; rintro e w' ⟨rfl, rfl⟩) | (go_at_call 16; with_reducible refine H2.out.mono ?_; rw [HB2.out]; rintro e w' ⟨rfl, rfl⟩) | fail)
  refine (linearOf_c lo2 hi2 b cap2 qs hq3 (fun i hi => by have h1 := (HF.out.2.1.2.2.2.2 i hi).1; have h2 := HF.out.2.1.2.2.2.1; omega) _ HT2.out hh2).mono ?_
  unfold linV
  rintro e w1 ⟨rfl, hb1⟩
  have HB1 := Lib.hid hb1
  clear hb1
  go_wp2_with fail
  refine (movesOf_c lo hi a cap ps hp12 (fun i hi => by have h1 := (HF.out.2.2 i hi).1; omega) _ (HT.out.below HB1.out hh) (by have := HB1.out.size; omega)).mono ?_
  rintro e w2 ⟨a2, c2, rfl, hb2, hO2⟩
  have HB2b := Lib.hid (HB1.out.trans (hb2.mono HB1.out.size))
  have HO2 := Lib.hid (hO2.at_.2.row)
  clear hb2 hO2
  go_wp2_with fail
  have hmd := madeOf_c w1.heap.size w2.heap.size (linOf qs 0) (linOf qs 1) (linOf qs 2) (lin_small HF.out.2.1 0) (lin_small HF.out.2.1 1) (lin_small HF.out.2.1 2) a2 c2 (ps.map mvOf) (by rw [List.length_map]; exact hp12) (mv_smallL HF.out) w2 HO2.out (Nat.le_refl _)
  simp only [List.length_map] at hmd
  refine hmd.mono ?_
  rintro e w3 ⟨a3, c3, rfl, hb3, hO3⟩
  have HB3 := Lib.hid (HB2b.out.trans (hb3.mono HB2b.out.size))
  have HO3 := Lib.hid (hO3.at_.2.row)
  clear hb3 hO3 hmd
  go_wp2_with fail
  have hpo := rowsOf_c w2.heap.size w3.heap.size F ⟨HF.out.2.1.2.2.1, HF.out.2.1.2.2.2.1⟩ a3 c3 ((ps.map mvOf).map (mapped (linOf qs 0) (linOf qs 1) (linOf qs 2))) (by simp; omega) w3 HO3.out (Nat.le_refl _)
  rw [mapped_rows HF.out] at hpo
  simp only [List.length_map] at hpo
  refine hpo.mono ?_
  rintro e w4 ⟨a4, c4, rfl, hb4, hN4⟩
  have HB4 := Lib.hid (HB3.out.trans (hb4.mono HB3.out.size))
  have HN4 := Lib.hid (hN4.mono HB3.out.size (Nat.le_refl _))
  have HIs := Lib.hid (iIsMap_c w3.heap.size w4.heap.size D F a4 c4 (rowsL ps qs F) (by simp [rowsL]; omega) (by have := rowsL_flat HF.out; omega) w4 hN4.row)
  have HEq := Lib.hid (mapB_sums (D := D) HF.out (mapB_true HB.out).1 (mapB_true HB.out).2.2.1)
  clear hb4 hN4 hpo
  obtain ⟨ys, hys⟩ : ∃ ys, rowsL ps qs F = ys := ⟨_, rfl⟩
  rw [hys] at HIs HEq HN4 HR ⊢
  clear hys
  cases hok : okL ps qs F with
  | true =>
    obtain ⟨rfl, rfl⟩ := (show rs = ys ∧ c = 0 from by have h := HR.out; rwa [hok, if_pos rfl] at h)
    go_wp2_with (go_at_call 16; refine HIs.out.mono ?_; rw [HEq.out, hok]; rintro e w' ⟨rfl, rfl⟩)
    go_ret2
    exact ⟨a4, c4, rfl, HB4.out, HN4.out⟩
  | false =>
    obtain ⟨rfl, rfl⟩ := (show rs = [] ∧ c = 3 from by have h := HR.out; rw [hok] at h; simpa using h)
    go_wp2_with (go_at_call 16; refine HIs.out.mono ?_; rw [HEq.out, hok]; rintro e w' ⟨rfl, rfl⟩)
    go_ret2
    exact ⟨none, 0, rfl, HB4.out, .inl rfl⟩
end Go.Proofs.Ytkgcbbbmiklgaaa
