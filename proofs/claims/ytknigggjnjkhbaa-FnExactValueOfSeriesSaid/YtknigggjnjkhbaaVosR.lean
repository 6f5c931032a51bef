/-
  The model's ValueOfSeries, at any rows; what both sides come to, in the law's words.
-/
import Derived.Test.YtknigggjnjkhbaaFmS
import Derived.Test.YtknigggjnjkhbaaLawValueOfSeries
namespace Go.Proofs.Ytknigggjnjkhbaa
open Go.RowKit
set_option linter.unusedVariables false
set_option linter.unusedSimpArgs false

set_option maxHeartbeats 2000000 in
theorem l01Is_nil (L V : Int) (a : Option Addr) (cap : Nat) (w : World) :
    Calls Try.prog 23 #[.agg #[.int .i64 L, .int .i64 V, .slice a 0 cap]] w fun e w' => e = .returned (.bool (serB L V [])) ∧ Below w.heap.size w w' := by
  have hs : serB L V [] = shapeB L V := by simp [serB]
  rw [hs]
  cases hsh : shapeB L V with
  | false =>
    have HSH := Lib.hid hsh
    clear hsh
    go_enter Try.func23, Try.ntmps23
    go_wp2_with (go_at_call 47; refine (l01Sizes_c _ _ _).mono ?_; rw [HSH.out]; rintro e w' ⟨rfl, rfl⟩)
    go_ret
    exact ⟨rfl, below1 _ _⟩
  | true =>
    have HSH := Lib.hid hsh
    clear hsh
    go_enter Try.func23, Try.ntmps23
    go_wp2_with (go_at_call 47; refine (l01Sizes_c _ _ _).mono ?_; rw [HSH.out]; rintro e w' ⟨rfl, rfl⟩)
    go_loopw [3] (fun vi wr => vi = .int .i64 0 ∧ Below (w.heap.size + 1) (w.alloc (.cells #[.int .i64 L, .int .i64 V, .slice a 0 cap] 33)) wr) (fun _ _ => 0)
    case atStart => exact ⟨rfl, Below.refl _ _⟩
    case round =>
      obtain ⟨rfl, hB⟩ := hrel
      have bc := bcellB hB
      have x2 : wr.cell? ⟨w.heap.size, 2, none⟩ = some (.slice a 0 cap) := (bc.1 _ _ (by omega)).trans (by go_simp)
      have HB := Lib.hid ((below1 w _).trans (hB.mono (Nat.le_succ _)))
      clear bc hB
      go_wp2
      go_ret
      exact ⟨rfl, HB.out⟩
theorem l01Is_row (L V : Int) (a : Option Addr) (cap : Nat) (ts : List Tm) (hl : ts.length ≤ 1048576) (hs : ∀ i (h : i < ts.length), (ts[i]).s.size ≤ maxLen) (w : World) (hr : Row w a ts) :
    Calls Try.prog 23 #[.agg #[.int .i64 L, .int .i64 V, .slice a ts.length cap]] w fun e w' => e = .returned (.bool (serB L V ts)) ∧ Below w.heap.size w w' := by
  rcases hr with rfl | ⟨b, off, rfl, hb, ht⟩
  · exact l01Is_nil L V a cap w
  · exact l01Is_c L V b off cap ts hl hs w hb ht
section
variable (lo hi : Nat) (L V : Int) (aT : Option Addr) (cT : Nat) (ts : Tabs) (hl : ts.length ≤ 1048576) (hs3 : sz3 ts ≤ 1048576) (a : Option Addr) (cX : Nat) (xs : List Tm) (hlx : xs.length ≤ 1048576) (hsx : ∀ i (h : i < xs.length), (xs[i]).s.size ≤ maxLen) (w : World) (hr : TRow lo hi w aT ts) (hh : hi ≤ w.heap.size) (hx : Row w a xs)
include hl hs3 hlx hsx hr hh hx

set_option maxRecDepth 100000 in
set_option maxHeartbeats 4000000 in
theorem sVos_1 (h : (serB L V xs && tabsB L ts) = false) : Calls Try.prog 7 #[.agg #[.int .i64 L, .int .i64 V, .slice a xs.length cX], .slice aT ts.length cT] w fun e w' => e = .returned (.tuple #[.slice none 0 0, .int .i64 1]) ∧ Below w.heap.size w w' := by
  have HX := Lib.hid hx
  have HS := Lib.hid hsx
  have HR := Lib.hid hr
  have HB0 := Lib.hid (below1 w (.cells #[.int .i64 L, .int .i64 V, .slice a xs.length cX] 33))
  clear hx hsx hr
  cases h1 : serB L V xs with
  | false =>
    have H1 := Lib.hid h1
    clear h h1
    go_enter Try.func7, Try.ntmps7
    go_wp2_with fail
    refine (l01Is_row L V a cX xs hlx HS.out _ (HX.out.below HB0.out)).mono ?_
    rw [H1.out]
    rintro e w1 ⟨rfl, hb1⟩
    have HB1 := Lib.hid (HB0.out.trans (hb1.mono (by simp)))
    clear hb1
    go_wp2
    go_ret2
    exact ⟨rfl, HB1.out⟩
  | true =>
    have H1 := Lib.hid h1
    rw [h1, Bool.true_and] at h
    have H2 := Lib.hid h
    clear h h1
    go_enter Try.func7, Try.ntmps7
    go_wp2_with fail
    refine (l01Is_row L V a cX xs hlx HS.out _ (HX.out.below HB0.out)).mono ?_
    rw [H1.out]
    rintro e w1 ⟨rfl, hb1⟩
    have HB1 := Lib.hid (HB0.out.trans (hb1.mono (by simp)))
    have x0 : w1.cell? ⟨w.heap.size, 0, none⟩ = some (.int .i64 L) := (hb1.cell (p := ⟨w.heap.size, 0, none⟩) (by simp)).trans (by go_simp)
    clear hb1
    go_wp2_with fail
    refine (l08Are_c lo hi L aT cT ts hl hs3 w1 (HR.out.below HB1.out hh)).mono ?_
    rw [H2.out]
    rintro e w2 ⟨rfl, rfl⟩
    go_wp2
    go_ret2
    exact ⟨rfl, HB1.out⟩

set_option maxRecDepth 100000 in
set_option maxHeartbeats 4000000 in
theorem sVos_2 (h1 : serB L V xs = true) (hT : tabsB L ts = true) : Calls Try.prog 7 #[.agg #[.int .i64 L, .int .i64 V, .slice a xs.length cX], .slice aT ts.length cT] w (ValPost (wid ts) (valQ (wid ts) ts xs xs.length) w) := by
  have HX := Lib.hid hx
  have HS := Lib.hid hsx
  have HR := Lib.hid hr
  have HB0 := Lib.hid (below1 w (.cells #[.int .i64 L, .int .i64 V, .slice a xs.length cX] 33))
  have H1 := Lib.hid h1
  have H2 := Lib.hid hT
  have HVl := Lib.hid (fun W (hW : Below w.heap.size w W) => l08Value_c lo hi L V aT cT ts a cX xs hlx W (hr.below hW hh) (Nat.le_trans hh hW.size) (hx.below hW) h1 hT)
  obtain ⟨o, ho⟩ : ∃ o, valQ (wid ts) ts xs xs.length = o := ⟨_, rfl⟩
  rw [ho] at HVl ⊢
  generalize wid ts = n at *
  clear hx hsx hr h1 hT ho
  go_enter Try.func7, Try.ntmps7
  go_wp2_with fail
  refine (l01Is_row L V a cX xs hlx HS.out _ (HX.out.below HB0.out)).mono ?_
  rw [H1.out]
  rintro e w1 ⟨rfl, hb1⟩
  have HB1 := Lib.hid (HB0.out.trans (hb1.mono (by simp)))
  have hz1 : w.heap.size < w1.heap.size := by have := hb1.size; simp at this; omega
  have x0 : w1.cell? ⟨w.heap.size, 0, none⟩ = some (.int .i64 L) := (hb1.cell (p := ⟨w.heap.size, 0, none⟩) (by simp)).trans (by go_simp)
  have x1 : w1.cell? ⟨w.heap.size, 1, none⟩ = some (.int .i64 V) := (hb1.cell (p := ⟨w.heap.size, 1, none⟩) (by simp)).trans (by go_simp)
  have x2 : w1.cell? ⟨w.heap.size, 2, none⟩ = some (.slice a xs.length cX) := (hb1.cell (p := ⟨w.heap.size, 2, none⟩) (by simp)).trans (by go_simp)
  clear hb1
  go_wp2_with fail
  refine (l08Are_c lo hi L aT cT ts hl hs3 w1 (HR.out.below HB1.out hh)).mono ?_
  rw [H2.out]
  rintro e w2 ⟨rfl, rfl⟩
  go_wp2_with fail
  refine (HVl.out _ HB1.out).mono ?_
  cases o with
  | none =>
    rintro e w3 ⟨rfl, hb3⟩
    have HB3 := Lib.hid (HB1.out.trans (hb3.mono (by omega)))
    clear hb3 x0 x1 x2
    go_wp2
    go_ret2
    exact ⟨rfl, HB3.out⟩
  | some F =>
    rintro e w3 ⟨Y, c, rfl, hb3, hM⟩
    have HB3 := Lib.hid (HB1.out.trans (hb3.mono (by omega)))
    have HM := Lib.hid hM
    have hz3 := hb3.size
    clear hb3 hM x0 x1 x2
    go_wp2
    go_ret2
    exact ⟨Y, c, rfl, HB3.out, HM.out.mono (by omega) (Nat.le_refl _) (Nat.le_refl _)⟩
end
theorem GQPost.err {W : World} {e : Ending} {w' : World} (c : Int) (h : e = .returned (.tuple #[.slice none 0 0, .int .i64 c]) ∧ Below W.heap.size W w') : GQPost 0 zeroQ c W e w' := ⟨none, 0, h.1, h.2, .inl rfl⟩
theorem ValPost.no {n : Nat} {W : World} {e : Ending} {w' : World} (h : ValPost n none W e w') : GQPost 0 zeroQ 3 W e w' := GQPost.err 3 h
theorem ValPost.yes {n : Nat} {F : QF} {W : World} {e : Ending} {w' : World} (h : ValPost n (some F) W e w') : GQPost n F 0 W e w' := by
  obtain ⟨Y, c, h1, h2, h3⟩ := h
  exact ⟨some ⟨Y.h, 0, none⟩, c, h1, h2, .inr ⟨Y, rfl, h3⟩⟩
end Go.Proofs.Ytknigggjnjkhbaa
