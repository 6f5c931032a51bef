/-
  Rows of numbers that are slices of one list, each without those behind it: read, written at a place, marked, told.
-/
import Derived.Test.YtknigggjnjkhbaaPaths
namespace Go.Proofs.Ytknigggjnjkhbaa
open Go.RowKit

theorem rows_apart {n i j : Nat} (h : i < j) : i * n + n ≤ j * n := by
  have := Nat.mul_le_mul_right n (show i + 1 ≤ j from h)
  rw [Nat.add_mul, Nat.one_mul] at this
  exact this
theorem row_fits {n i m : Nat} (h : i < m) : i * n + n ≤ m * n := rows_apart h

/-- the rows of `ps` are slices of block `g`, and their headers lie in block `h` -/
def GridAt (n h g : Nat) (C : Nat → Nat) (w : World) (ps : List (List Int)) : Prop :=
  h ≠ g ∧ Made w h ps.length ∧ Made w g (ps.length * n) ∧ ∀ i (hi : i < ps.length), w.cell? ⟨h, i, none⟩ = some (.slice (some ⟨g, i * n, none⟩) n (C i)) ∧ (ps[i]).length = n ∧ IntsIn w g (i * n) ps[i]
def GridP (n lo hi : Nat) (w : World) (a : Option Addr) (ps : List (List Int)) : Prop :=
  ∃ (h g : Nat) (C : Nat → Nat), a = some ⟨h, 0, none⟩ ∧ lo ≤ h ∧ h < hi ∧ lo ≤ g ∧ g < hi ∧ GridAt n h g C w ps
theorem GridAt.below {B n h g : Nat} {C : Nat → Nat} {w w' : World} {ps : List (List Int)} (k : GridAt n h g C w ps) (hb : Below B w w') (h1 : h < B) (h2 : g < B) : GridAt n h g C w' ps :=
  ⟨k.1, k.2.1.below hb h1, k.2.2.1.below hb h2, fun i hi => ⟨(hb.cell (p := ⟨h, i, none⟩) h1).trans (k.2.2.2 i hi).1, (k.2.2.2 i hi).2.1, (k.2.2.2 i hi).2.2.below hb h2⟩⟩
theorem GridAt.outside {lo hi n h g : Nat} {C : Nat → Nat} {w w' : World} {ps : List (List Int)} (k : GridAt n h g C w ps) (hg : Outside lo hi w w') (h1 : h < lo ∨ hi ≤ h) (h2 : g < lo ∨ hi ≤ g) : GridAt n h g C w' ps :=
  ⟨k.1, hg.made k.2.1 h1, hg.made k.2.2.1 h2, fun i hi => ⟨(hg.cell k.2.1.1 h1).trans (k.2.2.2 i hi).1, (k.2.2.2 i hi).2.1, (k.2.2.2 i hi).2.2.outside hg k.2.2.1.1 h2⟩⟩
theorem GridP.row {n lo hi : Nat} {w : World} {a : Option Addr} {ps : List (List Int)} (k : GridP n lo hi w a ps) : PRow lo hi w a ps := by
  obtain ⟨h, g, C, e, a1, a2, a3, a4, k⟩ := k
  exact .inr ⟨h, 0, e, a1, a2, fun i hi => ⟨some ⟨g, i * n, none⟩, C i, by rw [Nat.zero_add, (k.2.2.2 i hi).2.1]; exact (k.2.2.2 i hi).1, .inr ⟨g, i * n, rfl, a3, a4, (k.2.2.2 i hi).2.2⟩⟩⟩
theorem GridP.mono {n lo hi lo' hi' : Nat} {w : World} {a : Option Addr} {ps : List (List Int)} (k : GridP n lo hi w a ps) (h1 : lo' ≤ lo) (h2 : hi ≤ hi') : GridP n lo' hi' w a ps := by
  obtain ⟨h, g, C, e, a1, a2, a3, a4, k⟩ := k
  exact ⟨h, g, C, e, by omega, by omega, by omega, by omega, k⟩
theorem GridP.below {n lo hi B : Nat} {w w' : World} {a : Option Addr} {ps : List (List Int)} (k : GridP n lo hi w a ps) (hb : Below B w w') (hh : hi ≤ B) : GridP n lo hi w' a ps := by
  obtain ⟨h, g, C, e, a1, a2, a3, a4, k⟩ := k
  exact ⟨h, g, C, e, a1, a2, a3, a4, k.below hb (by omega) (by omega)⟩
theorem GridP.outside {n lo hi l h' : Nat} {w w' : World} {a : Option Addr} {ps : List (List Int)} (k : GridP n lo hi w a ps) (hg : Outside l h' w w') (ho : hi ≤ l ∨ h' ≤ lo) : GridP n lo hi w' a ps := by
  obtain ⟨h, g, C, e, a1, a2, a3, a4, k⟩ := k
  exact ⟨h, g, C, e, a1, a2, a3, a4, k.outside hg (by omega) (by omega)⟩
theorem GridAt.cell {n h g : Nat} {C : Nat → Nat} {w : World} {ps : List (List Int)} (k : GridAt n h g C w ps) {i j : Nat} (hi : i < ps.length) (hj : j < n) : w.cell? ⟨g, i * n + j, none⟩ = some (.int .i64 ((ps[i]).getD j 0)) := by
  obtain ⟨_, q2, q3⟩ := k.2.2.2 i hi
  rw [q3 j (by omega), List.getD_eq_getElem?_getD, List.getElem?_eq_getElem (by omega)]
  rfl
/-- a number written at a place -/
theorem GridAt.set {n h g : Nat} {C : Nat → Nat} {w : World} {ps : List (List Int)} (k : GridAt n h g C w ps) {i j : Nat} (hi : i < ps.length) (hj : j < n) (x : Int) :
    GridAt n h g C (w.setCell ⟨g, i * n + j, none⟩ (.int .i64 x)) (ps.set i ((ps[i]).set j x)) := by
  obtain ⟨k1, k2, k3, k4⟩ := k
  have hfit := row_fits (n := n) hi
  refine ⟨k1, by rw [List.length_set]; exact k2.set _ _, by rw [List.length_set]; exact k3.set _ _, fun r hr => ?_⟩
  have hr' : r < ps.length := by simpa using hr
  obtain ⟨q1, q2, q3⟩ := k4 r hr'
  refine ⟨?_, ?_, ?_⟩
  · rw [World.cell?_setCell_other _ _ _ _ (fun e => by injection e with e; exact k1 e.symm)]
    exact q1
  · rw [List.getElem_set]
    split
    · rename_i e; subst e; rw [List.length_set]; exact q2
    · exact q2
  · intro c hc
    by_cases e : i = r
    · subst e
      have hc' : c < (ps[i]).length := by simpa using hc
      simp only [List.getElem_set_self]
      by_cases ec : j = c
      · subst ec
        rw [List.getElem_set_self]
        obtain ⟨⟨u, hu⟩, _⟩ := k3.2 (i * n + j) (by omega)
        exact World.cell?_setCell_same _ _ _ hu
      · rw [List.getElem_set_ne ec, World.cell?_setCell_other _ _ _ _ (fun e2 => by injection e2 with _ e3; omega)]
        exact q3 c hc'
    · have hc' : c < (ps[r]).length := by rw [List.getElem_set_ne e] at hc; exact hc
      simp only [List.getElem_set_ne e]
      have hne : i * n + j ≠ r * n + c := by
        rcases Nat.lt_or_ge i r with h1 | h1
        · have := rows_apart (n := n) h1; omega
        · have := rows_apart (n := n) (show r < i by omega); omega
      rw [World.cell?_setCell_other _ _ _ _ (fun e2 => by injection e2 with _ e3; omega)]
      exact q3 c hc'

theorem markInt64S_off (g off M cap : Nat) (zs : List Int) (k : Int) (hk : 0 < k) (hk2 : k + (zs.length : Int) < 100000000) (hoff : off + zs.length ≤ M) (w : World) (hM : Made w g M) :
    Calls Try.prog 74 #[.slice (some ⟨g, off, none⟩) zs.length cap, .int .i64 k] w fun e w' => e = .returned (.int .i64 (k + zs.length)) ∧ w.grownBy w' (some g) ∧ Made w' g M ∧ IntsIn w' g off (markedI k zs) ∧ ∀ j, j < off ∨ off + zs.length ≤ j → w'.cell? ⟨g, j, none⟩ = w.cell? ⟨g, j, none⟩ := by
  have HM := Lib.hid hM
  have HO := Lib.hid hoff
  clear hM hoff
  go_enter Try.func74, Try.ntmps74
  go_wp2
  go_loopw [1, 5] (fun vk vi wr => ∃ i : Nat, i ≤ zs.length ∧ vi = .int .i64 i ∧ vk = .int .i64 (k + i) ∧ w.grownBy wr (some g) ∧ Made wr g M ∧ (∀ j, j < i → wr.cell? ⟨g, off + j, none⟩ = some (.int .i64 (k + j))) ∧ ∀ j, j < off ∨ off + zs.length ≤ j → wr.cell? ⟨g, j, none⟩ = w.cell? ⟨g, j, none⟩) (fun _ vi _ => zs.length - (intOf vi).toNat)
  case atStart => exact ⟨0, Nat.zero_le _, rfl, by simp, World.grownBy.refl _ _, HM.out, fun j hj => absurd hj (Nat.not_lt_zero _), fun _ _ => rfl⟩
  case round =>
    obtain ⟨i, hi', rfl, rfl, hG, hMr, hin, hout⟩ := hrel
    have HG := Lib.hid hG
    have HMr := Lib.hid hMr
    have HIn := Lib.hid hin
    have HOut := Lib.hid hout
    have hgs := hMr.1
    clear hG hMr hin hout
    by_cases hlt : i < zs.length
    · obtain ⟨⟨v0, m0⟩, z0⟩ := HMr.out.2 (off + i) (by have := HO.out; omega)
      go_wp2
      go_roundw
      case rel =>
        refine ⟨i + 1, by omega, by go_num, by congr 1; omega, grown_set HG.out _, HMr.out.set _ _, fun j hj => ?_, fun j hj => ?_⟩
        · by_cases e : j = i
          · subst e
            exact World.cell?_setCell_same _ _ _ m0
          · rw [World.cell?_setCell_other _ _ _ _ (fun e2 => by injection e2 with _ e3; omega)]
            exact HIn.out j (by omega)
        · rw [World.cell?_setCell_other _ _ _ _ (fun e2 => by injection e2 with _ e3; omega)]
          exact HOut.out j hj
      case measure => simp [intOf]; omega
    · obtain rfl : i = zs.length := by omega
      go_wp2
      go_ret
      refine ⟨rfl, HG.out, HMr.out, fun j hj => ?_, HOut.out⟩
      rw [markedI_get]
      exact HIn.out j (by rw [markedI_length] at hj; exact hj)

/-- rows of which the first `i` are marked -/
def HalfG (n h g : Nat) (C : Nat → Nat) (w : World) (k : Int) (ps : List (List Int)) (i : Nat) : Prop :=
  h ≠ g ∧ Made w h ps.length ∧ Made w g (ps.length * n) ∧ ∀ j (hj : j < ps.length), w.cell? ⟨h, j, none⟩ = some (.slice (some ⟨g, j * n, none⟩) n (C j)) ∧ (ps[j]).length = n ∧ IntsIn w g (j * n) (if j < i then markedI (k + flat (ps.take j)) ps[j] else ps[j])
theorem HalfG.step {n h g : Nat} {C : Nat → Nat} {w w' : World} {k : Int} {ps : List (List Int)} {i : Nat} (H : HalfG n h g C w k ps i) (hi : i < ps.length) (hG : w.grownBy w' (some g)) (hM : Made w' g (ps.length * n)) (hN : IntsIn w' g (i * n) (markedI (k + flat (ps.take i)) ps[i]))
    (ho : ∀ j, j < i * n ∨ i * n + n ≤ j → w'.cell? ⟨g, j, none⟩ = w.cell? ⟨g, j, none⟩) : HalfG n h g C w' k ps (i + 1) := by
  obtain ⟨k1, k2, k3, k4⟩ := H
  have hne : some h ≠ some g := fun e => by injection e with e; exact k1 e
  refine ⟨k1, ⟨Nat.lt_of_lt_of_le k2.1 hG.size, fun j hj => by rw [World.cell?_of_block (a := ⟨h, j, none⟩) (hG.block h k2.1 hne), World.frozen?_of_block (a := ⟨h, j, none⟩) (hG.block h k2.1 hne)]; exact k2.2 j hj⟩, hM, fun j hj => ?_⟩
  obtain ⟨q1, q2, q3⟩ := k4 j hj
  refine ⟨by rw [World.cell?_of_block (a := ⟨h, j, none⟩) (hG.block h k2.1 hne)]; exact q1, q2, ?_⟩
  by_cases e : j = i
  · subst e
    rw [if_pos (by omega)]; exact hN
  · have hsame : ∀ zs : List Int, zs.length = n → IntsIn w g (j * n) zs → IntsIn w' g (j * n) zs := fun zs hz q c hc => by
      rw [ho (j * n + c) (by
        rcases Nat.lt_or_ge j i with h1 | h1
        · have := rows_apart (n := n) h1; omega
        · have := rows_apart (n := n) (show i < j by omega); omega)]
      exact q c hc
    by_cases hlt : j < i
    · rw [if_pos hlt] at q3; rw [if_pos (by omega)]
      exact hsame _ (by rw [markedI_length]; exact q2) q3
    · rw [if_neg hlt] at q3; rw [if_neg (by omega)]
      exact hsame _ q2 q3

set_option maxHeartbeats 1000000 in
theorem markInt64SS_grid (n lo hi : Nat) (a : Option Addr) (cap : Nat) (ps : List (List Int)) (k : Int) (hk : 0 < k) (hk2 : k + (flat ps : Int) < 100000000) (hl : ps.length ≤ 1048576) (w : World) (h : GridP n lo hi w a ps) :
    Calls Try.prog 38 #[.slice a ps.length cap, .int .i64 k] w fun e w' => e = .returned (.int .i64 (k + flat ps)) ∧ Outside lo hi w w' ∧ GridP n lo hi w' a (markedP k ps) := by
  obtain ⟨h, g, C, rfl, a1, a2, a3, a4, hM⟩ := h
  have HH := Lib.hid (show HalfG n h g C w k ps 0 from ⟨hM.1, hM.2.1, hM.2.2.1, fun j hj => ⟨(hM.2.2.2 j hj).1, (hM.2.2.2 j hj).2.1, by rw [if_neg (by omega)]; exact (hM.2.2.2 j hj).2.2⟩⟩)
  clear hM
  go_enter Try.func38, Try.ntmps38
  go_wp2
  go_loopw [1, 5] (fun vk vi wr => ∃ (i : Nat) (m : Int), i ≤ ps.length ∧ vi = .int .i64 i ∧ vk = .int .i64 m ∧ Hid (m = k + flat (ps.take i)) ∧ Outside lo hi w wr ∧ HalfG n h g C wr k ps i) (fun _ vi _ => ps.length - (intOf vi).toNat)
  case atStart => exact ⟨0, k, Nat.zero_le _, rfl, rfl, Lib.hid (by simp [flat]), Outside.refl _ _ _, HH.out⟩
  case round =>
    obtain ⟨i, m, hi', rfl, rfl, hm, hOut, hHalf⟩ := hrel
    have HOut := Lib.hid hOut
    have HHf := Lib.hid hHalf
    clear hOut hHalf
    by_cases hlt : i < ps.length
    · obtain ⟨c0, hzn, _⟩ := HHf.out.2.2.2 i hlt
      have hzl : m + ((ps[i]).length : Int) < 100000000 := by have := flat_get hlt; have := hm.out; omega
      have hm0 : 0 < m := by have := hm.out; omega
      have HF := Lib.hid (flat_take hlt)
      have HFit := Lib.hid (row_fits (n := n) hlt)
      obtain ⟨z, hez⟩ : ∃ z, ps[i] = z := ⟨_, rfl⟩
      have HE := Lib.hid hez
      rw [hez] at hzl hzn HF
      have HZ := Lib.hid hzn
      obtain ⟨off, hof⟩ : ∃ off, i * n = off := ⟨_, rfl⟩
      have HOf := Lib.hid hof
      rw [hof, ← hzn] at c0
      clear hez hzn hof
      go_wp2_with fail
      refine (markInt64S_off g off (ps.length * n) (C i) z m hm0 hzl (by have := HZ.out; have := HFit.out; have := HOf.out; omega) _ HHf.out.2.2.1).mono ?_
      rintro e w1 ⟨rfl, hG1, hM1, hN1, ho1⟩
      have HH1 := Lib.hid (HHf.out.step hlt hG1 hM1 (by rw [HE.out, ← hm.out, HOf.out]; exact hN1) (by rw [HOf.out, ← HZ.out]; exact ho1))
      have HO1 := Lib.hid (HOut.out.trans (.of_grown hG1 (fun g' e => by injection e with e; omega)))
      clear hG1 hM1 hN1 ho1 c0
      go_wp2
      go_roundw
      case rel => exact ⟨i + 1, m + z.length, by omega, by go_num, rfl, Lib.hid (by rw [HF.out, hm.out]; omega), HO1.out, HH1.out⟩
      case measure => simp [intOf]; omega
    · obtain rfl : i = ps.length := by omega
      have HL := Lib.hid (markedP_length k ps)
      go_wp2
      go_ret
      refine ⟨ret_int (by rw [hm.out, List.take_length]), HOut.out, h, g, C, rfl, a1, a2, a3, a4, HHf.out.1, by rw [HL.out]; exact HHf.out.2.1, by rw [HL.out]; exact HHf.out.2.2.1, fun j hj => ?_⟩
      have hj' : j < ps.length := by rw [← HL.out]; exact hj
      obtain ⟨q1, q2, q3⟩ := HHf.out.2.2.2 j hj'
      rw [if_pos hj'] at q3
      rw [markedP_get, markedI_length]
      exact ⟨q1, q2, q3⟩

end Go.Proofs.Ytknigggjnjkhbaa
