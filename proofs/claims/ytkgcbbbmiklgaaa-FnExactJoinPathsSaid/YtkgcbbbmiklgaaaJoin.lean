/-
  Contracts of JoinPaths, of the program and of its model: both return the same path and code.
-/
import Derived.Test.YtkgcbbbmiklgaaaScale
namespace Go.Proofs.Ytkgcbbbmiklgaaa
open Go.RowKit

section
variable (lo hi lo2 hi2 : Nat) (L : Int) (a b : Option Addr) (cap cap2 : Nat) (ps qs : List (List Int)) (hl : ps.length ≤ 1048576) (hs : flat ps ≤ 1048576) (hl2 : qs.length ≤ 1048576) (hs2 : flat qs ≤ 1048576) (w : World) (hr : PRow lo hi w a ps) (hr2 : PRow lo2 hi2 w b qs)
include hl hs hl2 hs2 hr hr2
omit hl2 hs2 hr2 in
theorem sJoin_1 (h : pathB L ps = false) : Calls Try.prog 35 #[.int .i64 L, .slice a ps.length cap, .slice b qs.length cap2] w (PathPost [] 1 w) := by
  have H := Lib.hid (l04Is_c lo hi L a cap ps hl hs w hr)
  have HB := Lib.hid h
  clear hr h
  go_enter Try.func35, Try.ntmps35
  go_wp2_with (go_at_call 53; refine H.out.mono ?_; rw [HB.out]; rintro e w' ⟨rfl, rfl⟩)
  go_ret2
  exact ⟨none, 0, rfl, Below.refl _ _, .inl rfl⟩
omit hl2 hs2 hr2 in
theorem iJoin_1 (h : pathB L ps = false) : Calls Try.prog 36 #[.int .i64 L, .slice a ps.length cap, .slice b qs.length cap2] w (PathPost [] 1 w) := by
  have H := Lib.hid (iIsPath_c lo hi L a cap ps hl hs w hr)
  have HB := Lib.hid h
  clear hr h
  go_enter Try.func36, Try.ntmps36
  go_wp2_with (go_at_call 27; refine H.out.mono ?_; rw [HB.out]; rintro e w' ⟨rfl, rfl⟩)
  go_ret2
  exact ⟨none, 0, rfl, Below.refl _ _, .inl rfl⟩
theorem sJoin_2 (h : pathB L ps = true) (h2 : pathB L qs = false) : Calls Try.prog 35 #[.int .i64 L, .slice a ps.length cap, .slice b qs.length cap2] w (PathPost [] 1 w) := by
  have H := Lib.hid (l04Is_c lo hi L a cap ps hl hs w hr)
  have H2 := Lib.hid (l04Is_c lo2 hi2 L b cap2 qs hl2 hs2 w hr2)
  have HB := Lib.hid h
  have HB2 := Lib.hid h2
  clear hr h hr2 h2
  go_enter Try.func35, Try.ntmps35
  go_wp2_with fail
  refine H.out.mono ?_
  rw [HB.out]
  rintro e w' ⟨rfl, rfl⟩
  go_wp2_with fail
  refine H2.out.mono ?_
  rw [HB2.out]
  rintro e w' ⟨rfl, rfl⟩
  go_wp2
  go_ret2
  exact ⟨none, 0, rfl, Below.refl _ _, .inl rfl⟩
theorem iJoin_2 (h : pathB L ps = true) (h2 : pathB L qs = false) : Calls Try.prog 36 #[.int .i64 L, .slice a ps.length cap, .slice b qs.length cap2] w (PathPost [] 1 w) := by
  have H := Lib.hid (iIsPath_c lo hi L a cap ps hl hs w hr)
  have H2 := Lib.hid (iIsPath_c lo2 hi2 L b cap2 qs hl2 hs2 w hr2)
  have HB := Lib.hid h
  have HB2 := Lib.hid h2
  clear hr h hr2 h2
  go_enter Try.func36, Try.ntmps36
  go_wp2_with fail
  refine H.out.mono ?_
  rw [HB.out]
  rintro e w' ⟨rfl, rfl⟩
  go_wp2_with fail
  refine H2.out.mono ?_
  rw [HB2.out]
  rintro e w' ⟨rfl, rfl⟩
  go_wp2
  go_ret2
  exact ⟨none, 0, rfl, Below.refl _ _, .inl rfl⟩
end

theorem join_flat {D : Nat} {ps qs : List (List Int)} (h : SmallP D ps) (k : SmallP D qs) : flat (ps ++ qs) ≤ 72 := by
  rw [flat_append, flat_same (D := D) (fun i hi => h.len hi), flat_same (D := D) (fun i hi => k.len hi)]
  have := Nat.mul_le_mul h.2.2.1 h.1
  have := Nat.mul_le_mul h.2.2.1 k.1
  omega

set_option maxRecDepth 100000 in
set_option maxHeartbeats 2000000 in
theorem sJoin_3 (lo hi lo2 hi2 : Nat) (D : Nat) (a b : Option Addr) (cap cap2 : Nat) (ps qs : List (List Int)) (hs : flat ps ≤ 1048576) (hs2 : flat qs ≤ 1048576) (w : World) (hr : PRow lo hi w a ps) (hr2 : PRow lo2 hi2 w b qs) (hh : hi ≤ w.heap.size) (hh2 : hi2 ≤ w.heap.size)
    (h : pathB D ps = true) (hP : SmallP D ps) (h2 : pathB D qs = true) (hP2 : SmallP D qs) (rs : List (List Int)) (c : Int) (ht : Told D (ps ++ qs) rs c) :
    Calls Try.prog 35 #[.int .i64 D, .slice a ps.length cap, .slice b qs.length cap2] w (PathPost rs c w) := by
  have hl12 := hP.1
  have hl12' := hP2.1
  have H := Lib.hid (l04Is_c lo hi D a cap ps (by omega) hs w hr)
  have H2 := Lib.hid (l04Is_c lo2 hi2 D b cap2 qs (by omega) hs2 w hr2)
  have HB := Lib.hid h
  have HB2 := Lib.hid h2
  obtain ⟨h1s, hR1, hsrc1⟩ := (hr.mono (Nat.zero_le _) hh).hds
  obtain ⟨h2s, hR2, hsrc2⟩ := (hr2.mono (Nat.zero_le _) hh2).hds
  have HR1 := Lib.hid hR1
  have HR2 := Lib.hid hR2
  have HS1 := Lib.hid hsrc1
  have HS2 := Lib.hid hsrc2
  have HF := Lib.hid (join_flat hP hP2)
  have HTold := Lib.hid ht
  clear hr hr2 h h2 hP hP2 ht hR1 hR2 hsrc1 hsrc2
  go_enter Try.func35, Try.ntmps35
  go_wp2_with fail
  refine H.out.mono ?_
  rw [HB.out]
  rintro e w' ⟨rfl, rfl⟩
  go_wp2_with fail
  refine H2.out.mono ?_
  rw [HB2.out]
  rintro e w' ⟨rfl, rfl⟩
  go_wp2_with (at_builtin; refine wpList_append_hds rfl (.tmp 22) (.tmp 23) rfl w.heap.size (.slice (some ⟨w.heap.size, 0, none⟩) 0 0) 0 [] h1s rfl rfl (OwnH.emptyRow (heap_alloc_new w _) (Nat.le_refl _)) a ps.length cap rfl HR1.out.1.symm ?_ (by omega) (by simp) ?_)
  · rcases HS1.out with q | ⟨b', o', e1, _, q2, q3⟩
    · exact .inl (by rw [← HR1.out.1]; exact q)
    · exact .inr ⟨b', o', e1, q3.below (below1 w _) q2⟩
  intro a9 q9 w9 hO9 hG9 _
  have HB9 := Lib.hid ((below1 w (.cells #[] 34)).trans (own_grownH (OwnH.emptyRow (heap_alloc_new w _) (Nat.le_refl _)) hG9 (by simp)))
  have HO9 := Lib.hid hO9
  have HSz9 := Lib.hid HB9.out.size
  clear hO9 hG9
  go_wp2_with (at_builtin; refine wpList_append_hds rfl (.tmp 24) (.tmp 25) rfl w.heap.size (.slice a9 ps.length q9) ps.length h1s h2s rfl HR1.out.1.symm HO9.out b qs.length cap2 rfl HR2.out.1.symm ?_ (by omega) HSz9.out ?_)
  · rcases HS2.out with q | ⟨b', o', e1, _, q2, q3⟩
    · exact .inl (by rw [← HR2.out.1]; exact q)
    · exact .inr ⟨b', o', e1, q3.below HB9.out q2⟩
  intro a8 q8 w8 hO8 hG8 _
  have HB8 := Lib.hid (HB9.out.trans (own_grownH HO9.out hG8 HSz9.out))
  have hlen := hO8.at_.1
  have HRow : Hid (PRow 0 w8.heap.size w8 a8 (ps ++ qs)) := by
    have hz := HB8.out.size
    have hrw := ((HR1.out.append HR2.out).below HB8.out (Nat.le_refl _)).mono (Nat.le_refl 0) hz
    rcases hO8.at_.2 with q | ⟨g, e1, q1, q2, _, q3⟩
    · have : (ps ++ qs).length = 0 := by rw [← hrw.1, q]; rfl
      exact Lib.hid (.inl (List.eq_nil_of_length_eq_zero this))
    · exact Lib.hid (hrw.path e1 (Nat.zero_le _) q2 q3)
  have hF := HF.out
  have hTd := fun W h1 h2 => l04Told_c 0 w8.heap.size D a8 q8 (ps ++ qs) rs c (by simp; omega) (by omega) W h1 h2 HTold.out
  simp only [List.length_append] at hTd
  have HTd := Lib.hid hTd
  clear hO8 hG8 hlen hTd
  go_wp2_with fail
  refine (HTd.out _ HRow.out (Nat.le_refl _)).mono ?_
  rintro e w7 ⟨a7, c7, rfl, hb7, hN7⟩
  have HB7 := Lib.hid (HB8.out.trans (hb7.mono HB8.out.size))
  have HN7 := Lib.hid (hN7.mono HB8.out.size (Nat.le_refl _))
  clear hb7 hN7
  go_wp2
  go_ret2
  exact ⟨a7, c7, rfl, HB7.out, HN7.out⟩

theorem join_moves {D : Nat} {ps qs : List (List Int)} (h : SmallP D ps) (k : SmallP D qs) : ps ++ qs = (ps.map mvOf ++ qs.map mvOf).map (stepOf D) := by
  rw [List.map_append]
  have key : ∀ {rs : List (List Int)}, SmallP D rs → rs = (rs.map mvOf).map (stepOf D) := fun {rs} hrs => by
    apply List.ext_getElem
    · simp
    · intro i h1 h2
      simp only [List.getElem_map]
      exact (stepOf_of hrs.2.2.1 (hrs.len h1)).symm
  rw [← key h, ← key k]

set_option maxRecDepth 100000 in
set_option maxHeartbeats 2000000 in
theorem iJoin_3 (lo hi lo2 hi2 : Nat) (D : Nat) (a b : Option Addr) (cap cap2 : Nat) (ps qs : List (List Int)) (hs : flat ps ≤ 1048576) (hs2 : flat qs ≤ 1048576) (w : World) (hr : PRow lo hi w a ps) (hr2 : PRow lo2 hi2 w b qs) (hh : hi ≤ w.heap.size) (hh2 : hi2 ≤ w.heap.size)
    (h : pathB D ps = true) (hP : SmallP D ps) (h2 : pathB D qs = true) (hP2 : SmallP D qs) (rs : List (List Int)) (c : Int) (ht : Told D (ps ++ qs) rs c) :
    Calls Try.prog 36 #[.int .i64 D, .slice a ps.length cap, .slice b qs.length cap2] w (PathPost rs c w) := by
  have hl12 := hP.1
  have hl12' := hP2.1
  have hD1 := hP.2.1
  have hD3 := hP.2.2.1
  have H := Lib.hid (iIsPath_c lo hi D a cap ps (by omega) hs w hr)
  have H2 := Lib.hid (iIsPath_c lo2 hi2 D b cap2 qs (by omega) hs2 w hr2)
  have HB := Lib.hid h
  have HB2 := Lib.hid h2
  have HT := Lib.hid hr
  have HT2 := Lib.hid hr2
  have HP := Lib.hid hP
  have HP2 := Lib.hid hP2
  have HTold := Lib.hid ht
  clear hr hr2 h h2 hP hP2 ht
  go_enter Try.func36, Try.ntmps36
  go_wp2_with fail
  refine H.out.mono ?_
  rw [HB.out]
  rintro e w' ⟨rfl, rfl⟩
  go_wp2_with fail
  refine H2.out.mono ?_
  rw [HB2.out]
  rintro e w' ⟨rfl, rfl⟩
  go_wp2_with fail
  refine (movesOf_c lo hi a cap ps hl12 (fun i hi => by rw [HP.out.len hi]; exact hD3) _ HT.out hh).mono ?_
  rintro e w1 ⟨am, cm, rfl, hb1, hO1⟩
  have HR1 := Lib.hid (hO1.at_.2.row)
  have HB1 := Lib.hid hb1
  have HSz1 := Lib.hid hb1.size
  have HT21 := Lib.hid (HT2.out.below hb1 hh2)
  clear hb1 hO1
  go_wp2_with fail
  refine (movesOf_c lo2 hi2 b cap2 qs hl12' (fun i hi => by rw [HP2.out.len hi]; exact hD3) _ HT21.out (by have := HSz1.out; omega)).mono ?_
  rintro e w2 ⟨an, cn, rfl, hb2, hO2⟩
  have HR2 := Lib.hid (hO2.at_.2.row)
  have HR12 := Lib.hid (HR1.out.below hb2 (Nat.le_refl _))
  have HSz2 := Lib.hid hb2.size
  have HB2' := Lib.hid (HB1.out.trans (hb2.mono HSz1.out))
  have hC := fun W h3 h4 h5 h6 h7 => concat2M_c (ps.map mvOf) (qs.map mvOf) am an ps.length qs.length cm cn w2.heap.size W (by simp) (by simp) (by omega) h3 h4 h5 h6 h7
  have HC := Lib.hid hC
  clear hb2 hO2 hC
  go_wp2_with fail
  refine (HC.out _ (by simp) (by go_simp) (by go_simp) ((HR12.out.below (below1 w2 _) (by have := HSz2.out; omega)).mono (Nat.zero_le _) (by have := HSz2.out; simp; omega)) ((HR2.out.below (below1 w2 _) (Nat.le_refl _)).mono (Nat.zero_le _) (by simp))).mono ?_
  rintro e w3 ⟨ac, cc, rfl, hb3, hO3⟩
  have hbx := (below1 w2 (.cells #[.slice am ps.length cm, .slice an qs.length cn] 57)).trans (hb3.mono (show w2.heap.size ≤ (w2.alloc (.cells #[.slice am ps.length cm, .slice an qs.length cn] 57)).heap.size by simp))
  have HR3 := Lib.hid (hO3.at_.2.row)
  have HB3 := Lib.hid (HB2'.out.trans (hbx.mono HB2'.out.size))
  have hPt := fun W h1 h2 => pathOf_c (w2.alloc (.cells #[.slice am ps.length cm, .slice an qs.length cn] 57)).heap.size w3.heap.size D ⟨hD1, hD3⟩ ac cc (ps.map mvOf ++ qs.map mvOf) (by simp; omega) W h1 h2 (ps ++ qs) (join_moves HP.out HP2.out) c rs HTold.out
  simp only [List.length_append, List.length_map] at hPt
  have HPt := Lib.hid hPt
  clear hb3 hO3 hbx hPt
  go_wp2_with fail
  refine (HPt.out _ HR3.out (Nat.le_refl _)).mono ?_
  rintro e w4 ⟨a4, c4, rfl, hb4, hN4⟩
  have HB4 := Lib.hid (HB3.out.trans (hb4.mono HB3.out.size))
  have HN4 := Lib.hid (hN4.mono HB3.out.size (Nat.le_refl _))
  clear hb4 hN4
  go_wp2
  go_ret2
  exact ⟨a4, c4, rfl, HB4.out, HN4.out⟩
end Go.Proofs.Ytkgcbbbmiklgaaa
