/-
  Letter sums: the end of the path of a group word. LetterSums: contracts of the program and of the model.
-/
import Derived.Test.YtnhiceopgjfaaaaPthZ
namespace Go.Proofs.Ytnhiceopgjfaaaa
open Go.RowKit

theorem pthG_getD {D : Nat} {z : List Int} {k : Nat} (h : k < z.length) : (pthG D z).getD k [] = stG D z[k] := by
  rw [getD_of (by rw [pthG_length]; exact h)]
  simp [pthG]
theorem stG_getD {D : Nat} (hD : D ≤ 3) (x : Int) {i : Nat} (hi : i < D) : (stG D x).getD i 0 = uG x i := by
  rw [getD_of (by rw [stG_length hD]; exact hi), stG_get hD]
/-- one number more -/
theorem rowKJ_add {D : Nat} (hD : D ≤ 3) {z : List Int} {k : Nat} (hk : k < z.length) (x : Int) (hx : z[k] = x) (j : Nat) (s : Int) (_hj : j < D) (hxs : (x = (j : Int) + 1 ∧ s = 1) ∨ (x = -((j : Int) + 1) ∧ s = -1)) :
    (rowKJ (pthG D z) D k 0).set j (posK (pthG D z) k j + s) = rowKJ (pthG D z) D (k + 1) 0 := by
  apply List.ext_getElem
  · simp [rowKJ]
  · intro i h1 h2
    have hi : i < D := by simpa [rowKJ] using h2
    rw [List.getElem_set, rowKJ_get _ _ _ _ i h2, if_neg (Nat.not_lt_zero _), posK_succ, pthG_getD hk, hx, stG_getD hD x hi]
    by_cases e : j = i
    · subst e
      rw [if_pos rfl]
      unfold uG
      rcases hxs with ⟨h, rfl⟩ | ⟨h, rfl⟩
      · rw [if_pos h]
      · rw [if_neg (by omega), if_pos h]
    · rw [if_neg e, rowKJ_get, if_neg (Nat.not_lt_zero _)]
      unfold uG
      rw [if_neg (by omega), if_neg (by omega)]
      omega
theorem pthG_flat {D : Nat} (hD : D ≤ 3) (z : List Int) : flat (pthG D z) = D * z.length := by
  have h := flat_steps hD (z.map mvG)
  rw [List.map_map, List.length_map] at h
  exact h
theorem pthG_small {D : Nat} {z : List Int} (h : GoodD (D : Int) z) : SmallP D (pthG D z) := by
  obtain ⟨D', e, hP⟩ := small_of (pthG_ok h)
  have : D' = D := by omega
  rwa [this] at hP

section
variable (d : Int) (a : Option Addr) (cap : Nat) (z : List Int) (hl : z.length ≤ 1048576) (w : World) (hr : IRow 0 w.heap.size w a z)
include hl hr
theorem sLetterSums_1 (h : grpB d z = false) : Calls Try.prog 27 #[.int .i64 d, .slice a z.length cap] w (NumsPost [] 2 w) := by
  have H := Lib.hid (l09Is_c 0 w.heap.size d a cap z hl w hr)
  have HB := Lib.hid h
  clear hr h
  go_enter Try.func27, Try.ntmps27
  go_wp2_with (go_at_call 40; refine H.out.mono ?_; rw [HB.out]; rintro e w' ⟨rfl, rfl⟩)
  go_ret2
  exact ⟨none, 0, rfl, Below.refl _ _, .inl rfl⟩
theorem iLetterSums_1 (h : grpB d z = false) : Calls Try.prog 28 #[.int .i64 d, .slice a z.length cap] w (NumsPost [] 2 w) := by
  have H := Lib.hid (iPathOfWord_1 d a cap z hl w hr h)
  clear hr h
  go_enter Try.func28, Try.ntmps28
  go_wp2_with fail
  refine H.out.mono ?_
  rintro e w1 ⟨a1, c1, rfl, hb1, _⟩
  go_wp2
  go_ret2
  exact ⟨none, 0, rfl, hb1, .inl rfl⟩
end
section
variable (D : Nat) (a : Option Addr) (cap : Nat) (z : List Int) (hl : z.length ≤ 1048576) (w : World) (hr : IRow 0 w.heap.size w a z)
include hl hr
theorem iLetterSums_2 (h : grpB (D : Int) z = true) : Calls Try.prog 28 #[.int .i64 D, .slice a z.length cap] w (NumsPost (endL (pthG D z) D) 0 w) := by
  have H := Lib.hid (iPathOfWord_2 D a cap z hl w hr h)
  have hG := grpB_true h
  have hl12 := hG.len
  have hD : 1 ≤ D ∧ D ≤ 3 := by have := hG.d1; have := hG.d3; omega
  have HOk := Lib.hid (pthG_ok hG)
  have HSm := Lib.hid (pthG_small hG)
  have hfl : flat (pthG D z) ≤ 1048576 := by
    rw [pthG_flat hD.2]
    have : D * z.length ≤ 3 * 12 := Nat.mul_le_mul hD.2 hl12
    omega
  obtain ⟨qs, hq⟩ : ∃ qs, pthG D z = qs := ⟨_, rfl⟩
  rw [hq] at H HOk HSm hfl ⊢
  clear hr h hG hq
  go_enter Try.func28, Try.ntmps28
  go_wp2_with fail
  refine H.out.mono ?_
  rintro e w1 ⟨a1, c1, rfl, hb1, hN1⟩
  have hz1 := hb1.size
  have HB1 := Lib.hid hb1
  have HC := Lib.hid (iEndOf_2 w.heap.size w1.heap.size D a1 c1 qs hfl w1 hN1.row (Nat.le_refl _) HOk.out HSm.out)
  clear hb1 hN1 hfl
  go_wp2_with fail
  refine HC.out.mono ?_
  rintro e w2 ⟨a2, c2, rfl, hb2, hN2⟩
  have HB2 := Lib.hid (HB1.out.trans (hb2.mono hz1))
  have HN2 := Lib.hid (hN2.mono hz1 (Nat.le_refl _))
  clear hb2 hN2
  go_wp2
  go_ret2
  exact ⟨a2, c2, rfl, HB2.out, HN2.out⟩

set_option maxRecDepth 100000 in
set_option maxHeartbeats 4000000 in
theorem sLetterSums_2 (h : grpB (D : Int) z = true) : Calls Try.prog 27 #[.int .i64 D, .slice a z.length cap] w (NumsPost (endL (pthG D z) D) 0 w) := by
  have H := Lib.hid (l09Is_c 0 w.heap.size D a cap z hl w hr)
  have HB0 := Lib.hid h
  have hG := grpB_true h
  have hl12 := hG.len
  have hD : 1 ≤ D ∧ D ≤ 3 := by have := hG.d1; have := hG.d3; omega
  have hD3 : (D : Int) ≤ 3 := by omega
  have hD0 : (0 : Int) ≤ (D : Int) := by omega
  have HT := Lib.hid hr
  have HX := Lib.hid (fun x (hx : x ∈ z) => And.intro (six_of hG x hx) (And.intro (hG.lo x hx) (hG.hi x hx)))
  have HSm := Lib.hid (pthG_small hG)
  have HAdd := Lib.hid (fun k (hk : k < z.length) x hx j s hj hxs => rowKJ_add hD.2 hk x hx j s hj hxs)
  have HEnd := Lib.hid (show rowKJ (pthG D z) D z.length 0 = endL (pthG D z) D from by have := rowKJ_end (pthG D z) D; rwa [pthG_length] at this)
  have HZero := Lib.hid (rowKJ_zero (pthG D z) D)
  have HEl := Lib.hid (show (endL (pthG D z) D).length = D from by simp [endL])
  obtain ⟨qs, hq⟩ : ∃ qs, pthG D z = qs := ⟨_, rfl⟩
  rw [hq] at HSm HEnd HZero HEl HAdd ⊢
  have HLen := Lib.hid (fun k => rowKJ_length qs D k 0)
  obtain ⟨O, hmk, hmade⟩ := make_ints D (by omega)
  have HMk := Lib.hid hmade
  clear hr h hG hq hmade
  go_enter Try.func27, Try.ntmps27
  go_wp2_with (go_at_call 40; refine H.out.mono ?_; rw [HB0.out]; rintro e w' ⟨rfl, rfl⟩)
  clear hmk
  go_loopw [7] (fun vi wr => ∃ k : Nat, k ≤ z.length ∧ vi = .int .i64 k ∧ Below w.heap.size w wr ∧ Made wr w.heap.size D ∧ IntsIn wr w.heap.size 0 (rowKJ qs D k 0)) (fun vi _ => z.length - (intOf vi).toNat)
  case atStart => exact ⟨0, Nat.zero_le _, rfl, below1 _ _, (HMk.out _).1, by rw [HZero.out]; exact (HMk.out _).2⟩
  case round =>
    obtain ⟨k, hk, rfl, hB, hM, hI⟩ := hrel
    have hzr := hB.size
    have HB := Lib.hid hB
    have HM := Lib.hid hM
    have HI := Lib.hid hI
    have hgs := hM.1
    clear hM hI
    by_cases hlt : k < z.length
    · rcases (HT.out.below hB (Nat.le_refl _)) with h | ⟨b', o', rfl, _, hb', hI'⟩
      · rw [h] at hlt; simp at hlt
      have c1 := hI' k hlt
      obtain ⟨hx6, hxlo, hxhi⟩ := HX.out z[k] (List.getElem_mem hlt)
      have HA := Lib.hid (HAdd.out k hlt)
      have HPB := Lib.hid (fun j => posK_bd12 HSm.out (k := k) (by omega) j)
      obtain ⟨x, hx⟩ : ∃ x, z[k] = x := ⟨_, rfl⟩
      have HXk := Lib.hid hx
      rw [hx] at c1 hx6 hxlo hxhi
      have e0 : (0 : Int) ≤ (k : Int) := by omega
      have e1 : (k : Int) < (z.length : Int) := by omega
      clear hx hI' hB
      unfold Six at hx6
      rcases hx6 with rfl | rfl | rfl | rfl | rfl | rfl
      · have hjD : 2 < D := by omega
        have hjI : ((2 : Nat) : Int) < (D : Int) := by omega
        have hjI2 : (2 : Int) < (D : Int) := by omega
        have hf := (HM.out.2 2 hjD).2
        have hc := HI.out 2 (by rw [HLen.out]; exact hjD)
        rw [rowKJ_get, if_neg (Nat.not_lt_zero _), Nat.zero_add] at hc
        have hy := HPB.out 2
        have HS := Lib.hid (HA.out (-3) HXk.out 2 (-1) hjD (by omega))
        obtain ⟨y, hyy⟩ : ∃ y, posK qs k 2 = y := ⟨_, rfl⟩
        rw [hyy] at hc hy HS
        clear hyy
        go_wp2
        go_roundw
        case rel => exact ⟨k + 1, by omega, by go_num, HB.out.setCell (p := ⟨w.heap.size, 2, none⟩) (Nat.le_refl _) _, HM.out.set _ _, by rw [← HS.out]; exact IntsIn.upd HI.out (by rw [HLen.out]; exact HM.out) (by rw [HLen.out]; exact hjD) _⟩
        case measure => simp [intOf]; omega
      · have hjD : 1 < D := by omega
        have hjI : ((1 : Nat) : Int) < (D : Int) := by omega
        have hjI2 : (1 : Int) < (D : Int) := by omega
        have hf := (HM.out.2 1 hjD).2
        have hc := HI.out 1 (by rw [HLen.out]; exact hjD)
        rw [rowKJ_get, if_neg (Nat.not_lt_zero _), Nat.zero_add] at hc
        have hy := HPB.out 1
        have HS := Lib.hid (HA.out (-2) HXk.out 1 (-1) hjD (by omega))
        obtain ⟨y, hyy⟩ : ∃ y, posK qs k 1 = y := ⟨_, rfl⟩
        rw [hyy] at hc hy HS
        clear hyy
        go_wp2
        go_roundw
        case rel => exact ⟨k + 1, by omega, by go_num, HB.out.setCell (p := ⟨w.heap.size, 1, none⟩) (Nat.le_refl _) _, HM.out.set _ _, by rw [← HS.out]; exact IntsIn.upd HI.out (by rw [HLen.out]; exact HM.out) (by rw [HLen.out]; exact hjD) _⟩
        case measure => simp [intOf]; omega
      · have hjD : 0 < D := by omega
        have hjI : ((0 : Nat) : Int) < (D : Int) := by omega
        have hjI2 : (0 : Int) < (D : Int) := by omega
        have hf := (HM.out.2 0 hjD).2
        have hc := HI.out 0 (by rw [HLen.out]; exact hjD)
        rw [rowKJ_get, if_neg (Nat.not_lt_zero _), Nat.zero_add] at hc
        have hy := HPB.out 0
        have HS := Lib.hid (HA.out (-1) HXk.out 0 (-1) hjD (by omega))
        obtain ⟨y, hyy⟩ : ∃ y, posK qs k 0 = y := ⟨_, rfl⟩
        rw [hyy] at hc hy HS
        clear hyy
        go_wp2
        go_roundw
        case rel => exact ⟨k + 1, by omega, by go_num, HB.out.setCell (p := ⟨w.heap.size, 0, none⟩) (Nat.le_refl _) _, HM.out.set _ _, by rw [← HS.out]; exact IntsIn.upd HI.out (by rw [HLen.out]; exact HM.out) (by rw [HLen.out]; exact hjD) _⟩
        case measure => simp [intOf]; omega
      · have hjD : 0 < D := by omega
        have hjI : ((0 : Nat) : Int) < (D : Int) := by omega
        have hjI2 : (0 : Int) < (D : Int) := by omega
        have hf := (HM.out.2 0 hjD).2
        have hc := HI.out 0 (by rw [HLen.out]; exact hjD)
        rw [rowKJ_get, if_neg (Nat.not_lt_zero _), Nat.zero_add] at hc
        have hy := HPB.out 0
        have HS := Lib.hid (HA.out (1) HXk.out 0 (1) hjD (by omega))
        obtain ⟨y, hyy⟩ : ∃ y, posK qs k 0 = y := ⟨_, rfl⟩
        rw [hyy] at hc hy HS
        clear hyy
        go_wp2
        go_roundw
        case rel => exact ⟨k + 1, by omega, by go_num, HB.out.setCell (p := ⟨w.heap.size, 0, none⟩) (Nat.le_refl _) _, HM.out.set _ _, by rw [← HS.out]; exact IntsIn.upd HI.out (by rw [HLen.out]; exact HM.out) (by rw [HLen.out]; exact hjD) _⟩
        case measure => simp [intOf]; omega
      · have hjD : 1 < D := by omega
        have hjI : ((1 : Nat) : Int) < (D : Int) := by omega
        have hjI2 : (1 : Int) < (D : Int) := by omega
        have hf := (HM.out.2 1 hjD).2
        have hc := HI.out 1 (by rw [HLen.out]; exact hjD)
        rw [rowKJ_get, if_neg (Nat.not_lt_zero _), Nat.zero_add] at hc
        have hy := HPB.out 1
        have HS := Lib.hid (HA.out (2) HXk.out 1 (1) hjD (by omega))
        obtain ⟨y, hyy⟩ : ∃ y, posK qs k 1 = y := ⟨_, rfl⟩
        rw [hyy] at hc hy HS
        clear hyy
        go_wp2
        go_roundw
        case rel => exact ⟨k + 1, by omega, by go_num, HB.out.setCell (p := ⟨w.heap.size, 1, none⟩) (Nat.le_refl _) _, HM.out.set _ _, by rw [← HS.out]; exact IntsIn.upd HI.out (by rw [HLen.out]; exact HM.out) (by rw [HLen.out]; exact hjD) _⟩
        case measure => simp [intOf]; omega
      · have hjD : 2 < D := by omega
        have hjI : ((2 : Nat) : Int) < (D : Int) := by omega
        have hjI2 : (2 : Int) < (D : Int) := by omega
        have hf := (HM.out.2 2 hjD).2
        have hc := HI.out 2 (by rw [HLen.out]; exact hjD)
        rw [rowKJ_get, if_neg (Nat.not_lt_zero _), Nat.zero_add] at hc
        have hy := HPB.out 2
        have HS := Lib.hid (HA.out (3) HXk.out 2 (1) hjD (by omega))
        obtain ⟨y, hyy⟩ : ∃ y, posK qs k 2 = y := ⟨_, rfl⟩
        rw [hyy] at hc hy HS
        clear hyy
        go_wp2
        go_roundw
        case rel => exact ⟨k + 1, by omega, by go_num, HB.out.setCell (p := ⟨w.heap.size, 2, none⟩) (Nat.le_refl _) _, HM.out.set _ _, by rw [← HS.out]; exact IntsIn.upd HI.out (by rw [HLen.out]; exact HM.out) (by rw [HLen.out]; exact hjD) _⟩
        case measure => simp [intOf]; omega
    · obtain rfl : k = z.length := by omega
      have hI := HI.out
      rw [HEnd.out] at hI
      have HIe := Lib.hid hI
      clear hI
      go_wp2
      go_ret2
      exact ⟨some ⟨w.heap.size, 0, none⟩, D, by first | (rw [HEl.out]; done) | (rw [HEl.out]; rfl), HB.out, .inr ⟨w.heap.size, rfl, Nat.le_refl _, HM.out.1, by rw [HEl.out]; exact HM.out, HIe.out⟩⟩
end
end Go.Proofs.Ytnhiceopgjfaaaa
