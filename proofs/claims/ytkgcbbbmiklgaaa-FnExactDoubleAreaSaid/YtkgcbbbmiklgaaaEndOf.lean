/-
  Contracts of EndOf, of the program and of its model: both return the same numbers and code.
-/
import Derived.Test.YtkgcbbbmiklgaaaIsPath
import Derived.Test.YtkgcbbbmiklgaaaMvs
import Derived.Test.YtkgcbbbmiklgaaaPos
namespace Go.Proofs.Ytkgcbbbmiklgaaa
open Go.RowKit

/-- what a function that returns numbers and a code comes to -/
def NumsPost (zs : List Int) (c : Int) (W : World) (e : Ending) (w' : World) : Prop :=
  ∃ (a : Option Addr) (cap : Nat), e = .returned (.tuple #[.slice a zs.length cap, .int .i64 c]) ∧ Below W.heap.size W w' ∧ NewI W.heap.size w'.heap.size w' a zs
theorem IntsIn.upd {w : World} {g : Nat} {zs : List Int} {j : Nat} (h : IntsIn w g 0 zs) (hm : Made w g zs.length) (hj : j < zs.length) (z : Int) : IntsIn (w.setCell ⟨g, j, none⟩ (.int .i64 z)) g 0 (zs.set j z) := by
  intro i hi
  rw [List.length_set] at hi
  rw [List.getElem_set]
  simp only [Nat.zero_add]
  by_cases e : j = i
  · subst e
    rw [if_pos rfl]
    obtain ⟨⟨v0, m0⟩, -⟩ := hm.2 j hj
    exact World.cell?_setCell_same _ _ _ m0
  · rw [if_neg e, World.cell?_setCell_other _ _ _ _ (fun e2 => by injection e2 with _ e3; omega)]
    have := h i hi
    rwa [Nat.zero_add] at this

section
variable (lo hi : Nat) (L : Int) (a : Option Addr) (cap : Nat) (ps : List (List Int)) (hl : ps.length ≤ 1048576) (hs : flat ps ≤ 1048576) (w : World) (hr : PRow lo hi w a ps) (hh : hi ≤ w.heap.size)
include hl hs hr
theorem sEndOf_1 (h : pathB L ps = false) : Calls Try.prog 28 #[.int .i64 L, .slice a ps.length cap] w (NumsPost [] 1 w) := by
  have H := Lib.hid (l04Is_c lo hi L a cap ps hl hs w hr)
  have HB := Lib.hid h
  clear hr h
  go_enter Try.func28, Try.ntmps28
  go_wp2_with (go_at_call 53; refine H.out.mono ?_; rw [HB.out]; rintro e w' ⟨rfl, rfl⟩)
  go_ret2
  exact ⟨none, 0, rfl, Below.refl _ _, .inl rfl⟩
theorem iEndOf_1 (h : pathB L ps = false) : Calls Try.prog 29 #[.int .i64 L, .slice a ps.length cap] w (NumsPost [] 1 w) := by
  have H := Lib.hid (iIsPath_c lo hi L a cap ps hl hs w hr)
  have HB := Lib.hid h
  clear hr h
  go_enter Try.func29, Try.ntmps29
  go_wp2_with (go_at_call 27; refine H.out.mono ?_; rw [HB.out]; rintro e w' ⟨rfl, rfl⟩)
  go_ret2
  exact ⟨none, 0, rfl, Below.refl _ _, .inl rfl⟩
end

set_option maxRecDepth 100000 in
set_option maxHeartbeats 2000000 in
theorem sEndOf_2 (lo hi : Nat) (D : Nat) (a : Option Addr) (cap : Nat) (ps : List (List Int)) (hs : flat ps ≤ 1048576) (w : World) (hr : PRow lo hi w a ps) (hh : hi ≤ w.heap.size) (h : pathB D ps = true) (hP : SmallP D ps) :
    Calls Try.prog 28 #[.int .i64 D, .slice a ps.length cap] w (NumsPost (endL ps D) 0 w) := by
  have hl12 := hP.1
  have hD1 := hP.2.1
  have hD3 := hP.2.2.1
  have H := Lib.hid (l04Is_c lo hi D a cap ps (by omega) hs w hr)
  have HT := Lib.hid hr
  have HB := Lib.hid h
  have HP := Lib.hid hP
  obtain ⟨O, hmk, hmade⟩ := make_ints D (by omega)
  have HM := Lib.hid hmade
  have HE := Lib.hid (rowKJ_end ps D)
  have e0 : (0 : Int) ≤ (D : Int) := by omega
  clear hr h hP hmade
  go_enter Try.func28, Try.ntmps28
  go_wp2_with (go_at_call 53; refine H.out.mono ?_; rw [HB.out]; rintro e w' ⟨rfl, rfl⟩)
  clear hmk
  go_loopw [7] (fun vi wr => ∃ k : Nat, k ≤ ps.length ∧ vi = .int .i64 k ∧ Below w.heap.size w wr ∧ Made wr w.heap.size D ∧ IntsIn wr w.heap.size 0 (rowKJ ps D k 0)) (fun i _ => ps.length - (intOf i).toNat)
  case atStart => exact ⟨0, Nat.zero_le _, rfl, (Below.refl _ _).alloc (Nat.le_refl _) _, (HM.out _).1, by rw [rowKJ_zero]; exact (HM.out _).2⟩
  case round =>
    obtain ⟨k, hk, rfl, hB, hM, hI⟩ := hrel
    have HBk := Lib.hid hB
    have HMk := Lib.hid hM
    have HIk := Lib.hid hI
    have hz := hB.size
    clear hB hM hI
    obtain ⟨wo, rfl⟩ : ∃ wo : World, wo = wr := ⟨_, rfl⟩
    by_cases hlt : k < ps.length
    · obtain ⟨b, off, a', c, rfl, hbz, c0, hI⟩ := HT.out.getB HBk.out hh hlt
      have HI := Lib.hid hI
      have hzl := HP.out.len hlt
      have HG := Lib.hid (fun j => posK_succ ps k j)
      have HGD := Lib.hid (getD_of (d := ([] : List Int)) hlt)
      have HBD := Lib.hid (fun j => posK_bd12 HP.out (k := k) (by omega) j)
      have HBZ := Lib.hid (fun j => HP.out.get k j)
      obtain ⟨z, hez⟩ : ∃ z, ps[k] = z := ⟨_, rfl⟩
      rw [hez] at c0 HI hzl HGD
      subst hzl
      have HC0 := Lib.hid c0
      clear hez hI c0
      go_wp2
      go_loopw [8] (fun vj wr => ∃ j : Nat, j ≤ z.length ∧ vj = .int .i64 j ∧ Below w.heap.size wo wr ∧ Made wr w.heap.size z.length ∧ IntsIn wr w.heap.size 0 (rowKJ ps z.length k j)) (fun i _ => z.length - (intOf i).toNat)
      case atStart => exact ⟨0, Nat.zero_le _, rfl, Below.refl _ _, HMk.out, HIk.out⟩
      case round =>
        obtain ⟨j, hj, rfl, hB, hM, hI⟩ := hrel
        have HBj := Lib.hid hB
        have HMj := Lib.hid hM
        have HIj := Lib.hid hI
        have hzj := hB.size
        clear hM hI
        by_cases hltj : j < z.length
        · rcases HI.out with h | ⟨b', o', rfl, _, hb2, hI'⟩
          · rw [h] at hltj; simp at hltj
          have c0 := (hB.cell (p := ⟨b, off + k, none⟩) (Nat.lt_of_lt_of_le hbz hh)).trans HC0.out
          have c1 := hI'.below hB (by omega) j hltj
          have c2 := HIj.out j (by rw [rowKJ_length]; exact hltj)
          rw [rowKJ_get, if_neg (Nat.lt_irrefl _), Nat.zero_add] at c2
          obtain ⟨-, f2⟩ := HMj.out.2 j hltj
          have hg := HG.out j
          rw [HGD.out, getD_of hltj] at hg
          have hb1 := HBD.out j
          have hb2' := HBZ.out j
          rw [HGD.out, getD_of hltj] at hb2'
          obtain ⟨x, hx⟩ : ∃ x, z[j] = x := ⟨_, rfl⟩
          obtain ⟨y, hy⟩ : ∃ y, posK ps k j = y := ⟨_, rfl⟩
          rw [hx] at c1 hg hb2'
          rw [hy] at c2 hg hb1
          have HSum := Lib.hid hg
          have HSet := Lib.hid (rowKJ_set ps z.length k j hltj)
          have e1 : (0 : Int) ≤ (j : Int) := by omega
          have e2 : (j : Int) < (z.length : Int) := by omega
          have e3 : (0 : Int) ≤ (k : Int) := by omega
          have e4 : (k : Int) < (ps.length : Int) := by omega
          have e5 := HMj.out.1
          clear hB hI' hx hy hg
          go_wp2
          go_region
          go_wp2
          go_roundw
          case rel => exact ⟨j + 1, by omega, by go_num, HBj.out.drew.setCell (p := ⟨w.heap.size, j, none⟩) (Nat.le_refl _) _, HMj.out.set _ _, by rw [← HSet.out, HSum.out]; exact IntsIn.upd (w := wr.drew) HIj.out (by rw [rowKJ_length]; exact HMj.out) (by rw [rowKJ_length]; exact hltj) _⟩
          case measure => simp [intOf]; omega
        · obtain rfl : j = z.length := by omega
          have HN := Lib.hid (rowKJ_next ps z.length k)
          have c0 := (hB.cell (p := ⟨b, off + k, none⟩) (Nat.lt_of_lt_of_le hbz hh)).trans HC0.out
          clear hB
          go_wp2
          go_roundw
          case rel => exact ⟨k + 1, by omega, by go_num, HBk.out.trans HBj.out, HMj.out, by rw [← HN.out]; exact HIj.out⟩
          case measure => simp [intOf]; omega
    · obtain rfl : k = ps.length := by omega
      have hI := HIk.out
      rw [HE.out] at hI
      have HIe := Lib.hid hI
      clear hI
      have HL := Lib.hid (show (endL ps D).length = D from by simp [endL])
      go_wp2
      go_ret2
      exact ⟨some ⟨w.heap.size, 0, none⟩, D, by rw [HL.out]; rfl, HBk.out, .inr ⟨w.heap.size, rfl, Nat.le_refl _, HMk.out.1, by rw [HL.out]; exact HMk.out, HIe.out⟩⟩

/-- three cells of a block, which may be written -/
def Tri (w : World) (g : Nat) (x y z : Int) : Prop := g < w.heap.size ∧ w.cell? ⟨g, 0, none⟩ = some (.int .i64 x) ∧ w.cell? ⟨g, 1, none⟩ = some (.int .i64 y) ∧ w.cell? ⟨g, 2, none⟩ = some (.int .i64 z) ∧
  w.frozen? ⟨g, 0, none⟩ = false ∧ w.frozen? ⟨g, 1, none⟩ = false ∧ w.frozen? ⟨g, 2, none⟩ = false
theorem Tri.below {w w' : World} {B g : Nat} {x y z : Int} (h : Tri w g x y z) (hb : Below B w w') (hg : g < B) : Tri w' g x y z :=
  ⟨Nat.lt_of_lt_of_le h.1 hb.size, (hb.cell (p := ⟨g, 0, none⟩) hg).trans h.2.1, (hb.cell (p := ⟨g, 1, none⟩) hg).trans h.2.2.1, (hb.cell (p := ⟨g, 2, none⟩) hg).trans h.2.2.2.1,
    (hb.frozen (p := ⟨g, 0, none⟩) hg).trans h.2.2.2.2.1, (hb.frozen (p := ⟨g, 1, none⟩) hg).trans h.2.2.2.2.2.1, (hb.frozen (p := ⟨g, 2, none⟩) hg).trans h.2.2.2.2.2.2⟩
theorem Tri.set {w : World} {g : Nat} {x y z : Int} (h : Tri w g x y z) (x' y' z' : Int) : Tri (((w.setCell ⟨g, 0, none⟩ (.int .i64 x')).setCell ⟨g, 1, none⟩ (.int .i64 y')).setCell ⟨g, 2, none⟩ (.int .i64 z')) g x' y' z' := by
  obtain ⟨h0, c0, c1, c2, f0, f1, f2⟩ := h
  have ne : ∀ {a b : Nat}, a ≠ b → (⟨g, a, none⟩ : Addr) ≠ ⟨g, b, none⟩ := fun h e => h (by injection e)
  refine ⟨by simp only [World.size_setCell]; exact h0, ?_, ?_, ?_, by simp only [World.frozen?_setCell]; exact f0, by simp only [World.frozen?_setCell]; exact f1, by simp only [World.frozen?_setCell]; exact f2⟩
  · rw [World.cell?_setCell_other _ _ _ _ (ne (by omega)), World.cell?_setCell_other _ _ _ _ (ne (by omega))]; exact World.cell?_setCell_same _ _ _ c0
  · rw [World.cell?_setCell_other _ _ _ _ (ne (by omega))]
    refine World.cell?_setCell_same _ _ _ (u := .int .i64 y) ?_
    rw [World.cell?_setCell_other _ _ _ _ (ne (by omega))]; exact c1
  · refine World.cell?_setCell_same _ _ _ (u := .int .i64 z) ?_
    rw [World.cell?_setCell_other _ _ _ _ (ne (by omega)), World.cell?_setCell_other _ _ _ _ (ne (by omega))]; exact c2
theorem Tri.ints {w : World} {g : Nat} {x y z : Int} (h : Tri w g x y z) {zs : List Int} (hl : zs.length ≤ 3) (h0 : ∀ (h : 0 < zs.length), zs[0] = x) (h1 : ∀ (h : 1 < zs.length), zs[1] = y) (h2 : ∀ (h : 2 < zs.length), zs[2] = z) : IntsIn w g 0 zs := fun i hi => by
  have : i = 0 ∨ i = 1 ∨ i = 2 := by omega
  rcases this with rfl | rfl | rfl
  · rw [h0 hi]; exact h.2.1
  · rw [h1 hi]; exact h.2.2.1
  · rw [h2 hi]; exact h.2.2.2.1
theorem endL_get (ps : List (List Int)) (L i : Nat) (h : i < (endL ps L).length) : (endL ps L)[i] = posK ps ps.length i := by simp [endL]
theorem mv_get {ps : List (List Int)} {k : Nat} (h : k < (ps.map mvOf).length) : (ps.map mvOf)[k] = ⟨(ps.getD k []).getD 0 0, (ps.getD k []).getD 1 0, (ps.getD k []).getD 2 0⟩ := by
  have hk : k < ps.length := by simpa using h
  rw [List.getElem_map, getD_of hk]; rfl

set_option maxRecDepth 100000 in
set_option maxHeartbeats 2000000 in
theorem iEndOf_2 (lo hi : Nat) (D : Nat) (a : Option Addr) (cap : Nat) (ps : List (List Int)) (hs : flat ps ≤ 1048576) (w : World) (hr : PRow lo hi w a ps) (hh : hi ≤ w.heap.size) (h : pathB D ps = true) (hP : SmallP D ps) :
    Calls Try.prog 29 #[.int .i64 D, .slice a ps.length cap] w (NumsPost (endL ps D) 0 w) := by
  have hl12 := hP.1
  have hD1 := hP.2.1
  have hD3 := hP.2.2.1
  have H := Lib.hid (iIsPath_c lo hi D a cap ps (by omega) hs w hr)
  have HT := Lib.hid hr
  have HB := Lib.hid h
  have HP := Lib.hid hP
  have e0 : (0 : Int) ≤ (D : Int) := by omega
  clear hr h hP
  go_enter Try.func29, Try.ntmps29
  go_wp2_with (first | (go_at_call 27; refine H.out.mono ?_; rw [HB.out]; rintro e w' ⟨rfl, rfl⟩) | fail)
  refine (movesOf_c lo hi a cap ps hl12 (fun i hi => by rw [HP.out.len hi]; exact hD3) _ (HT.out.below (below1 w _) hh) (by simp; omega)).mono ?_
  rintro e w1 ⟨am, cm, rfl, hb1, hO1⟩
  have HR1 := Lib.hid hO1.at_.2.row
  have HLn := Lib.hid (show (ps.map mvOf).length = ps.length from by simp)
  have hT1 : Tri w1 w.heap.size 0 0 0 := by
    have h : Tri (w.alloc (.cells #[.int .i64 0, .int .i64 0, .int .i64 0] 51)) w.heap.size 0 0 0 := ⟨by simp, by go_simp, by go_simp, by go_simp, by go_simp, by go_simp, by go_simp⟩
    exact h.below hb1 (by simp)
  have HT1 := Lib.hid hT1
  have HB1 := Lib.hid ((below1 w (.cells #[.int .i64 0, .int .i64 0, .int .i64 0] 51)).trans (hb1.mono (by simp)))
  have HSz1 := Lib.hid (show w.heap.size + 1 ≤ w1.heap.size from by have := hb1.size; simpa using this)
  clear hb1 hO1 hT1
  go_wp2
  go_loopw [17] (fun vi wr => ∃ k : Nat, k ≤ ps.length ∧ vi = .int .i64 k ∧ Outside w.heap.size (w.heap.size + 1) w1 wr ∧ Tri wr w.heap.size (posK ps k 0) (posK ps k 1) (posK ps k 2)) (fun i _ => ps.length - (intOf i).toNat)
  case atStart => exact ⟨0, Nat.zero_le _, rfl, Outside.refl _ _ _, HT1.out⟩
  case round =>
    obtain ⟨k, hk, rfl, hO, hT⟩ := hrel
    have HO := Lib.hid hO
    have HTr := Lib.hid hT
    clear hO hT
    by_cases hlt : k < ps.length
    · obtain ⟨b, off, rfl, d0, d1, d2⟩ := (HR1.out.outside HO.out (Nat.le_refl _) (.inr (by simp))).get (Below.refl _ _) (Nat.le_refl w1.heap.size) (k := k) (by rw [HLn.out]; exact hlt)
      rw [mv_get] at d0 d1 d2
      obtain ⟨hgs, c0, c1, c2, f0, f1, f2⟩ := HTr.out
      have hp0 := posK_bd12 HP.out (k := k) (by omega) 0
      have hp1 := posK_bd12 HP.out (k := k) (by omega) 1
      have hp2 := posK_bd12 HP.out (k := k) (by omega) 2
      have hq0 := HP.out.get k 0
      have hq1 := HP.out.get k 1
      have hq2 := HP.out.get k 2
      have HS0 := Lib.hid (posK_succ ps k 0)
      have HS1 := Lib.hid (posK_succ ps k 1)
      have HS2 := Lib.hid (posK_succ ps k 2)
      generalize (ps.getD k []).getD 0 0 = y0 at d0 hq0 HS0
      generalize (ps.getD k []).getD 1 0 = y1 at d1 hq1 HS1
      generalize (ps.getD k []).getD 2 0 = y2 at d2 hq2 HS2
      generalize posK ps k 0 = x0 at c0 hp0 HS0 HTr
      generalize posK ps k 1 = x1 at c1 hp1 HS1 HTr
      generalize posK ps k 2 = x2 at c2 hp2 HS2 HTr
      have hgw : w.heap.size < wr.heap.size := hgs
      go_wp2_with fail
      refine (plus_c x0 x1 x2 y0 y1 y2 (by omega) (by omega) (by omega) (by omega) (by omega) (by omega) _).mono ?_
      rintro e w2 ⟨rfl, hb2⟩
      have HT2 := Lib.hid ((HTr.out.below (below1 wr (.cells #[.int .i64 y0, .int .i64 y1, .int .i64 y2] 51)) hgw).below hb2 (by simp; omega))
      have HO2 := Lib.hid ((HO.out.alloc (.cells #[.int .i64 y0, .int .i64 y1, .int .i64 y2] 51)).step hb2)
      clear hb2 c0 c1 c2 f0 f1 f2 d0 d1 d2 HTr HO
      obtain ⟨hg2, c0, c1, c2, f0, f1, f2⟩ := HT2.out
      go_wp2
      go_roundw
      case rel => exact ⟨k + 1, by omega, by go_num, ((HO2.out.setCell (p := ⟨w.heap.size, 0, none⟩) (Nat.le_refl _) (Nat.lt_succ_self _) _).setCell (p := ⟨w.heap.size, 1, none⟩) (Nat.le_refl _) (Nat.lt_succ_self _) _).setCell (p := ⟨w.heap.size, 2, none⟩) (Nat.le_refl _) (Nat.lt_succ_self _) _, by rw [HS0.out, HS1.out, HS2.out]; exact HT2.out.set _ _ _⟩
      case measure => simp [intOf]; omega
    · obtain rfl : k = ps.length := by omega
      have HL := Lib.hid (show (endL ps D).length = D from by simp [endL])
      have HI := Lib.hid (HTr.out.ints (zs := endL ps D) (by rw [HL.out]; exact hD3) (fun _ => endL_get ps D 0 _) (fun _ => endL_get ps D 1 _) (fun _ => endL_get ps D 2 _))
      have HBr := Lib.hid (HB1.out.trans (HO.out.below (Nat.le_refl _) (by have := HSz1.out; omega)))
      have hgw := HTr.out.1
      have hD3' : (D : Int) ≤ 3 := by omega
      have hcl := fun W => cloneI_c 0 W.heap.size ⟨w.heap.size, 0, none⟩ 3 (endL ps D) (by rw [HL.out]; omega) W
      rw [HL.out] at hcl
      have HCl := Lib.hid hcl
      clear hcl
      go_wp2_with fail
      refine (HCl.out _ (.inr ⟨w.heap.size, 0, rfl, Nat.zero_le _, hgw, HI.out⟩) (Nat.le_refl _)).mono ?_
      rintro e w3 ⟨a3, c3, rfl, hb3, hN3⟩
      have HB3 := Lib.hid (HBr.out.trans (hb3.mono HBr.out.size))
      have HN3 := Lib.hid (hN3.mono HBr.out.size (Nat.le_refl _))
      clear hb3 hN3
      go_wp2
      go_ret2
      exact ⟨a3, c3, by first | rfl | (rw [HL.out]; rfl), HB3.out, HN3.out⟩
end Go.Proofs.Ytkgcbbbmiklgaaa
