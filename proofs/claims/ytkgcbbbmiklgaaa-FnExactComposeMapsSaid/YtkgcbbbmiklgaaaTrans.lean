/-
  Contracts of TransposeMap, of the program and of its model: both return the same rows and code.
-/
import Derived.Test.YtkgcbbbmiklgaaaTrp
namespace Go.Proofs.Ytkgcbbbmiklgaaa
open Go.RowKit

/-- the columns as rows -/
def colI (ps : List (List Int)) (D k : Nat) : List Int := (List.range D).map fun i => (ps.getD i []).getD k 0
def transL (ps : List (List Int)) (D E : Nat) : List (List Int) := (List.range E).map (colI ps D)
theorem colI_length (ps : List (List Int)) (D k : Nat) : (colI ps D k).length = D := by simp [colI]
theorem transL_length (ps : List (List Int)) (D E : Nat) : (transL ps D E).length = E := by simp [transL]
theorem colI_take {ps : List (List Int)} {D k i : Nat} (hi : i < D) : (colI ps D k).take (i + 1) = (colI ps D k).take i ++ [(ps.getD i []).getD k 0] := by
  rw [List.take_succ_eq_append_getElem (by rw [colI_length]; exact hi)]
  simp [colI]
theorem transL_take {ps : List (List Int)} {D E k : Nat} (hk : k < E) : (transL ps D E).take (k + 1) = (transL ps D E).take k ++ [colI ps D k] := by
  rw [List.take_succ_eq_append_getElem (by rw [transL_length]; exact hk)]
  simp [transL]
/-- a small map: few rows, few small numbers -/
def SmallR (E : Nat) (ps : List (List Int)) : Prop := 1 ≤ ps.length ∧ ps.length ≤ 3 ∧ 1 ≤ E ∧ E ≤ 3 ∧ ∀ i (hi : i < ps.length), (ps[i]).length = E ∧ ∀ j (hj : j < (ps[i]).length), -100 ≤ ps[i][j] ∧ ps[i][j] ≤ 100
theorem smallR_of {D L : Int} {ps : List (List Int)} (h : mapB D L ps = true) : ∃ E : Nat, D = ps.length ∧ L = E ∧ SmallR E ps := by
  obtain ⟨h1, h2, h3, h4⟩ := mapB_true h
  have a1 := inB_true h1
  have a2 := inB_true h2
  refine ⟨L.toNat, h3.symm, by omega, by omega, by omega, by omega, by omega, fun i hi => ?_⟩
  obtain ⟨q1, q2⟩ := stepB_true (h4 i hi)
  exact ⟨by omega, q2⟩
theorem smallR_flat {E : Nat} {ps : List (List Int)} (h : SmallR E ps) : flat ps ≤ 9 := by
  have key : ∀ qs : List (List Int), (∀ z ∈ qs, z.length ≤ 3) → flat qs ≤ qs.length * 3 := by
    intro qs
    induction qs with
    | nil => intro _; simp [flat]
    | cons z r ih =>
      intro hz
      have h1 := hz z (by simp)
      have h2 := ih (fun y hy => hz y (by simp [hy]))
      simp only [flat, List.length_cons]
      omega
  have := key ps (fun z hz => by
    obtain ⟨i, hi, rfl⟩ := List.mem_iff_getElem.1 hz
    have := (h.2.2.2.2 i hi).1
    have := h.2.2.2.1
    omega)
  have := h.2.1
  omega
theorem trans_flat (ps : List (List Int)) (D E : Nat) (hD : D ≤ 3) (hE : E ≤ 3) : flat (transL ps D E) ≤ 9 := by
  have key : ∀ ks : List Nat, flat (ks.map (colI ps D)) = ks.length * D := by
    intro ks
    induction ks with
    | nil => simp [flat]
    | cons k r ih => simp only [List.map_cons, flat, colI_length, ih, List.length_cons, Nat.add_mul]; omega
  rw [transL, key, List.length_range]
  exact Nat.mul_le_mul hE hD

section
variable (lo hi : Nat) (D L : Int) (a : Option Addr) (cap : Nat) (ps : List (List Int)) (hl : ps.length ≤ 1048576) (hs : flat ps ≤ 1048576) (w : World) (hr : PRow lo hi w a ps)
include hl hs hr
theorem sTr_1 (h : mapB D L ps = false) : Calls Try.prog 18 #[.int .i64 D, .int .i64 L, .slice a ps.length cap] w (PathPost [] 2 w) := by
  have H := Lib.hid (l07Is_c lo hi D L a cap ps hl hs w hr)
  have HB := Lib.hid h
  clear hr h
  go_enter Try.func18, Try.ntmps18
  go_wp2_with (go_at_call 42; refine H.out.mono ?_; rw [HB.out]; rintro e w' ⟨rfl, rfl⟩)
  go_ret2
  exact ⟨none, 0, rfl, Below.refl _ _, .inl rfl⟩
theorem iTr_1 (h : mapB D L ps = false) : Calls Try.prog 19 #[.int .i64 D, .int .i64 L, .slice a ps.length cap] w (PathPost [] 2 w) := by
  have H := Lib.hid (iIsMap_c lo hi D L a cap ps hl hs w hr)
  have HB := Lib.hid h
  clear hr h
  go_enter Try.func19, Try.ntmps19
  go_wp2_with (go_at_call 16; refine H.out.mono ?_; rw [HB.out]; rintro e w' ⟨rfl, rfl⟩)
  go_ret2
  exact ⟨none, 0, rfl, Below.refl _ _, .inl rfl⟩
end

set_option maxRecDepth 100000 in
set_option maxHeartbeats 4000000 in
theorem sTr_2 (lo hi E : Nat) (a : Option Addr) (cap : Nat) (ps : List (List Int)) (w : World) (hr : PRow lo hi w a ps) (hh : hi ≤ w.heap.size) (h : mapB (ps.length : Int) E ps = true) (hP : SmallR E ps) :
    Calls Try.prog 18 #[.int .i64 (ps.length : Int), .int .i64 E, .slice a ps.length cap] w (PathPost (transL ps ps.length E) 0 w) := by
  have hP2 := hP.2.1
  have hP4 := hP.2.2.2.1
  have H := Lib.hid (l07Is_c lo hi (ps.length : Int) E a cap ps (by omega) (by have := smallR_flat hP; omega) w hr)
  have HT := Lib.hid hr
  have HB := Lib.hid h
  have HP := Lib.hid hP.2.2.2.2
  have e0 : (0 : Int) ≤ (ps.length : Int) := by omega
  have e1 : (0 : Int) ≤ (E : Int) := by omega
  clear hr h hP
  go_enter Try.func18, Try.ntmps18
  go_wp2_with (go_at_call 42; refine H.out.mono ?_; rw [HB.out]; rintro e w' ⟨rfl, rfl⟩)
  go_loopw [8, 9] (fun vs vi wr => ∃ (k : Nat) (b : Option Addr) (l c : Nat), k ≤ E ∧ vi = .int .i64 k ∧ vs = .slice b l c ∧ l = k ∧ OwnP wr w.heap.size (.slice b l c) ((transL ps ps.length E).take k) ∧ Below w.heap.size w wr) (fun _ vi _ => E - (intOf vi).toNat)
  case atStart => exact ⟨0, _, 0, 0, Nat.zero_le _, rfl, rfl, rfl, OwnP.emptyRow (heap_alloc_new w _) (Nat.le_refl _), below1 _ _⟩
  case round =>
    obtain ⟨k, bv, lv, cv, hk, rfl, rfl, hlv, hO, hB⟩ := hrel
    have HO := Lib.hid hO
    have HL := Lib.hid hlv
    have HSz := Lib.hid hB.size
    have HBo := Lib.hid hB
    have hlv9 : lv ≤ 3 := by omega
    clear hO hlv hB
    obtain ⟨wo, rfl⟩ : ∃ wo : World, wo = wr := ⟨_, rfl⟩
    by_cases hlt : k < E
    · have HTk := Lib.hid (transL_take (ps := ps) (D := ps.length) hlt)
      go_wp2
      go_loopw [10, 11] (fun vs vi wr => ∃ (i : Nat) (b : Option Addr) (l c : Nat), i ≤ ps.length ∧ vi = .int .i64 i ∧ vs = .slice b l c ∧ l = i ∧ OwnI wr wo.heap.size (.slice b l c) ((colI ps ps.length k).take i) ∧ Below wo.heap.size wo wr) (fun _ vi _ => ps.length - (intOf vi).toNat)
      case atStart => exact ⟨0, _, 0, 0, Nat.zero_le _, rfl, rfl, rfl, OwnI.emptyRow (heap_alloc_new wo _) (Nat.le_refl _), below1 _ _⟩
      case round =>
        obtain ⟨i, b2, l2, c2, hi2, rfl, rfl, hlv2, hO2, hB2⟩ := hrel
        have HO2 := Lib.hid hO2
        have HL2 := Lib.hid hlv2
        have HB2 := Lib.hid hB2
        have HSz2 := Lib.hid hB2.size
        have hl29 : l2 ≤ 3 := by omega
        clear hO2 hlv2
        by_cases hlti : i < ps.length
        · obtain ⟨b, off, a', c, rfl, c0, hI⟩ := HT.out.get (HBo.out.trans (hB2.mono HSz.out)) hh hlti
          have hlen := (HP.out i hlti).1
          have HCo := Lib.hid (colI_take (ps := ps) (k := k) hlti)
          have HGD := Lib.hid (getD_of (d := ([] : List Int)) hlti)
          obtain ⟨z, hez⟩ : ∃ z, ps[i] = z := ⟨_, rfl⟩
          rw [hez] at c0 hI hlen HGD
          rw [HGD.out] at HCo
          clear hez hB2
          rcases hI with h | ⟨b', o', rfl, _, _, hI'⟩
          · rw [h] at hlen; simp at hlen; omega
          have hkz : k < z.length := by omega
          have c1 := hI' k hkz
          rw [getD_of hkz] at HCo
          obtain ⟨x, hx⟩ : ∃ x, z[k] = x := ⟨_, rfl⟩
          rw [hx] at c1 HCo
          subst hlen
          clear hx hI'
          go_wp2_with (at_builtin; refine wpList_append_ints rfl _ _ rfl wo.heap.size (.slice b2 l2 c2) l2 ((colI ps ps.length k).take i) [x] rfl (by rw [HL2.out, List.length_take, colI_length]; omega) (HO2.out.alloc _) (some ⟨wr.heap.size, 0, none⟩) 1 1 rfl rfl ?_ (by omega) (by have := HSz2.out; simp; omega) ?_)
          · exact .inr ⟨wr.heap.size, 0, rfl, ints_one wr x⟩
          intro a9 q9 w9 hO9 hG9 _
          have HB9 := Lib.hid (HB2.out.trans (((below1 wr (.cells #[.int .i64 x] 2)).mono HSz2.out).trans (own_grownI (HO2.out.alloc _) hG9 (by have := HSz2.out; simp; omega))))
          have HO9 := Lib.hid hO9
          clear hO9 hG9
          go_wp2
          go_roundw
          case rel => exact ⟨i + 1, a9, l2 + 1, q9, by omega, by go_num, rfl, by rw [HL2.out], by rw [HCo.out]; exact HO9.out, HB9.out⟩
          case measure => simp [intOf]; omega
        · obtain rfl : i = ps.length := by omega
          have HTe := Lib.hid (show (colI ps ps.length k).take ps.length = colI ps ps.length k from List.take_of_length_le (by rw [colI_length]; exact Nat.le_refl _))
          have HLn := Lib.hid (show l2 = (colI ps ps.length k).length from by rw [colI_length]; exact HL2.out)
          have hN := HO2.out
          rw [HTe.out, HLn.out] at hN
          have HN := Lib.hid hN.at_.2
          clear hN hB2
          go_wp2_with (at_builtin; refine wpList_append_path rfl _ _ rfl w.heap.size wo wr bv lv cv ((transL ps ps.length E).take k) (colI ps ps.length k) b2 l2 c2 rfl (by rw [HL.out, List.length_take, transL_length]; omega) HO.out HB2.out HN.out HLn.out rfl (by omega) HSz.out ?_)
          intro a9 q9 w9 hO9 hb9 _
          have HO9 := Lib.hid hO9
          have HBx := Lib.hid ((HBo.out.trans (HB2.out.mono HSz.out)).trans hb9)
          clear hO9 hb9
          go_wp2
          go_roundw
          case rel => exact ⟨k + 1, a9, lv + 1, q9, by omega, by go_num, rfl, by rw [HL.out], by rw [HTk.out]; exact HO9.out, HBx.out⟩
          case measure => simp [intOf]; omega
    · obtain rfl : k = E := by omega
      have HTe := Lib.hid (show (transL ps ps.length k).take k = transL ps ps.length k from List.take_of_length_le (by rw [transL_length]; exact Nat.le_refl _))
      have HLn := Lib.hid (show lv = (transL ps ps.length k).length from by rw [transL_length]; exact HL.out)
      go_wp2
      go_ret2
      have hO := HO.out
      rw [HTe.out] at hO
      exact ⟨bv, cv, by rw [HLn.out]; rfl, HBo.out, hO.at_.2⟩

theorem trans_moves {E : Nat} {ps : List (List Int)} (hP : SmallR E ps) : transL ps ps.length E = (([⟨(linOf ps 0).a, (linOf ps 1).a, (linOf ps 2).a⟩, ⟨(linOf ps 0).b, (linOf ps 1).b, (linOf ps 2).b⟩, ⟨(linOf ps 0).c, (linOf ps 1).c, (linOf ps 2).c⟩] : List Mv).take E).map (stepOf ps.length) := by
  apply List.ext_getElem
  · have := hP.2.2.2.1
    simp [transL]; omega
  · intro k h1 h2
    have hk : k < E := by simpa [transL] using h1
    have hE := hP.2.2.2.1
    have hD := hP.2.1
    have hk3 : k = 0 ∨ k = 1 ∨ k = 2 := by omega
    simp only [transL, List.getElem_map, List.getElem_range, List.getElem_take]
    apply List.ext_getElem
    · rw [colI_length, stepOf_length hD]
    · intro i h3 h4
      have hi : i < ps.length := by simpa [colI] using h3
      have hi3 : i = 0 ∨ i = 1 ∨ i = 2 := by omega
      simp only [colI, List.getElem_map, List.getElem_range, stepOf, List.getElem_take, linOf, mvOf]
      rcases hk3 with rfl | rfl | rfl <;> rcases hi3 with rfl | rfl | rfl <;> rfl

set_option maxRecDepth 100000 in
set_option maxHeartbeats 4000000 in
theorem iTr_2 (lo hi E : Nat) (a : Option Addr) (cap : Nat) (ps : List (List Int)) (w : World) (hr : PRow lo hi w a ps) (hh : hi ≤ w.heap.size) (h : mapB (ps.length : Int) E ps = true) (hP : SmallR E ps) :
    Calls Try.prog 19 #[.int .i64 (ps.length : Int), .int .i64 E, .slice a ps.length cap] w (PathPost (transL ps ps.length E) 0 w) := by
  have hP1 := hP.1
  have hP2 := hP.2.1
  have hP4 := hP.2.2.2.1
  have H := Lib.hid (iIsMap_c lo hi (ps.length : Int) E a cap ps (by omega) (by have := smallR_flat hP; omega) w hr)
  have HT := Lib.hid hr
  have HB := Lib.hid h
  have HLi := Lib.hid (fun W hW hH => linearOf_c lo hi a cap ps hP2 (fun i hi => by have := (hP.2.2.2.2 i hi).1; omega) W hW hH)
  have HTr := Lib.hid (trans_moves hP)
  unfold linV at HLi
  obtain ⟨f0, f1, f2, f3, f4, f5, f6, f7, f8, g0, g1, g2⟩ : ∃ f0 f1 f2 f3 f4 f5 f6 f7 f8, linOf ps 0 = ⟨f0, f1, f2⟩ ∧ linOf ps 1 = ⟨f3, f4, f5⟩ ∧ linOf ps 2 = ⟨f6, f7, f8⟩ := ⟨_, _, _, _, _, _, _, _, _, rfl, rfl, rfl⟩
  rw [g0, g1, g2] at HLi HTr
  simp only at HLi HTr
  have e0 : (0 : Int) ≤ (ps.length : Int) := by omega
  have e1 : (0 : Int) ≤ (E : Int) := by omega
  have e2 : (E : Int) ≤ 3 := by omega
  clear hr h hP g0 g1 g2
  go_enter Try.func19, Try.ntmps19
  go_wp2_with (go_at_call 16; refine H.out.mono ?_; rw [HB.out]; rintro e w' ⟨rfl, rfl⟩)
  refine (HLi.out _ HT.out hh).mono ?_
  rintro e w1 ⟨rfl, hb1⟩
  have HB1 := Lib.hid hb1
  clear hb1
  go_wp2_with fail
  refine (transposed_c f0 f1 f2 f3 f4 f5 f6 f7 f8 _).mono ?_
  rintro e w2 ⟨rfl, hb2⟩
  have HB2 := Lib.hid (HB1.out.trans (hb2.mono HB1.out.size))
  clear hb2
  go_wp2_with fail
  have hMv : MvsIn (w2.alloc (.cells #[.int .i64 f0, .int .i64 f3, .int .i64 f6, .int .i64 f1, .int .i64 f4, .int .i64 f7, .int .i64 f2, .int .i64 f5, .int .i64 f8] 53)) w2.heap.size 0 (([⟨f0, f3, f6⟩, ⟨f1, f4, f7⟩, ⟨f2, f5, f8⟩] : List Mv).take E) := fun i hi => by
    have h3 : i = 0 ∨ i = 1 ∨ i = 2 := by simp at hi; omega
    rw [List.getElem_take]
    rcases h3 with rfl | rfl | rfl <;> exact ⟨by go_simp, by go_simp, by go_simp⟩
  have hml : (([⟨f0, f3, f6⟩, ⟨f1, f4, f7⟩, ⟨f2, f5, f8⟩] : List Mv).take E).length = E := by simp; omega
  have hTr := HTr.out
  obtain ⟨ms, hms⟩ : ∃ ms, ([⟨f0, f3, f6⟩, ⟨f1, f4, f7⟩, ⟨f2, f5, f8⟩] : List Mv).take E = ms := ⟨_, rfl⟩
  rw [hms] at hMv hml hTr
  have hR := rowsOf_c 0 (w2.heap.size + 1) ps.length ⟨hP1, hP2⟩ (some ⟨w2.heap.size, 0, none⟩) 3 ms (by omega) _ (.inr ⟨w2.heap.size, 0, rfl, Nat.zero_le _, Nat.lt_succ_self _, hMv⟩) (by simp)
  rw [hml, ← hTr] at hR
  refine hR.mono ?_
  rintro e w3 ⟨a3, c3, rfl, hb3, hN3⟩
  have HB3 := Lib.hid (HB2.out.trans (((below1 w2 _).mono HB2.out.size).trans (hb3.mono (by have := HB2.out.size; simp; omega))))
  have HN3 := Lib.hid (hN3.mono (lo' := w.heap.size) (by have := HB2.out.size; simp; omega) (Nat.le_refl _))
  clear hb3 hN3 hR hMv
  go_wp2
  go_ret2
  exact ⟨a3, c3, by rw [transL_length]; rfl, HB3.out, HN3.out⟩
end Go.Proofs.Ytkgcbbbmiklgaaa
