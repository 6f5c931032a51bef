/-
  slices.Reverse of a row of moves of the call's own.
-/
import Derived.Test.YtkgcbbbmiklgaaaScale
import Derived.ChangeAlike
namespace Go.Proofs.Ytkgcbbbmiklgaaa
open Go.RowKit

def mv0 : Mv := ⟨0, 0, 0⟩
/-- the row when `k` pairs have changed places -/
def revK (ms : List Mv) (k : Nat) : List Mv := (List.range ms.length).map fun i => if i < k ∨ ms.length - k ≤ i then ms.getD (ms.length - 1 - i) mv0 else ms.getD i mv0
theorem revK_length (ms : List Mv) (k : Nat) : (revK ms k).length = ms.length := by simp [revK]
theorem revK_get (ms : List Mv) (k i : Nat) (h : i < (revK ms k).length) : (revK ms k)[i] = if i < k ∨ ms.length - k ≤ i then ms.getD (ms.length - 1 - i) mv0 else ms.getD i mv0 := by simp [revK]
theorem revK_zero (ms : List Mv) : revK ms 0 = ms := by
  apply List.ext_getElem
  · exact revK_length ms 0
  · intro i h1 h2
    rw [revK_get, if_neg (by omega), getD_of h2]
theorem revK_swap (ms : List Mv) (k j : Nat) (hj : k + j + 1 = ms.length) (hk : k < j) : ((revK ms k).set k (ms.getD j mv0)).set j (ms.getD k mv0) = revK ms (k + 1) := by
  apply List.ext_getElem
  · simp [revK_length]
  · intro i h1 h2
    have hi : i < ms.length := by rw [revK_length] at h2; exact h2
    rw [List.getElem_set, revK_get ms (k + 1) i h2]
    by_cases e : j = i
    · subst e
      rw [if_pos rfl, if_pos (by omega)]
      congr 1; omega
    · rw [if_neg e, List.getElem_set]
      by_cases e2 : k = i
      · subst e2
        rw [if_pos rfl, if_pos (by omega)]
        congr 1; omega
      · rw [if_neg e2, revK_get]
        by_cases h : i < k ∨ ms.length - k ≤ i
        · rw [if_pos h, if_pos (by omega)]
        · rw [if_neg h, if_neg (by omega)]
theorem revK_done (ms : List Mv) (k : Nat) (h : ms.length ≤ 2 * k + 1) : revK ms k = ms.reverse := by
  apply List.ext_getElem
  · rw [revK_length, List.length_reverse]
  · intro i h1 h2
    have hi : i < ms.length := by rw [revK_length] at h1; exact h1
    rw [revK_get, List.getElem_reverse]
    by_cases h0 : i < k ∨ ms.length - k ≤ i
    · rw [if_pos h0, getD_of (by omega)]
    · rw [if_neg h0, getD_of hi]
      congr 1; omega
theorem revK_at (ms : List Mv) (k j : Nat) (hj : k + j + 1 = ms.length) (hk : k < j) (h1 : k < (revK ms k).length) (h2 : j < (revK ms k).length) : (revK ms k)[k] = ms.getD k mv0 ∧ (revK ms k)[j] = ms.getD j mv0 := by
  rw [revK_get, revK_get, if_neg (by omega), if_neg (by omega)]
  exact ⟨rfl, rfl⟩

theorem MvsIn.set3 {w : World} {g k : Nat} {ms : List Mv} (h : MvsIn w g 0 ms) (hm : Made w g (ms.length * 3)) (hk : k < ms.length) (m : Mv) :
    MvsIn (((w.setCell ⟨g, k * 3, none⟩ (.int .i64 m.a)).setCell ⟨g, k * 3 + 1, none⟩ (.int .i64 m.b)).setCell ⟨g, k * 3 + 2, none⟩ (.int .i64 m.c)) g 0 (ms.set k m) := by
  intro i hi
  rw [List.length_set] at hi
  have ne : ∀ {a b : Nat}, a ≠ b → (⟨g, a, none⟩ : Addr) ≠ ⟨g, b, none⟩ := fun h e => h (by injection e)
  rw [List.getElem_set]
  simp only [Nat.zero_add]
  by_cases hik : k = i
  · subst hik
    rw [if_pos rfl]
    obtain ⟨⟨v0, m0⟩, -⟩ := hm.2 (k * 3) (by omega)
    obtain ⟨⟨v1, m1⟩, -⟩ := (hm.set ⟨g, k * 3, none⟩ (.int .i64 m.a)).2 (k * 3 + 1) (by omega)
    obtain ⟨⟨v2, m2⟩, -⟩ := ((hm.set ⟨g, k * 3, none⟩ (.int .i64 m.a)).set ⟨g, k * 3 + 1, none⟩ (.int .i64 m.b)).2 (k * 3 + 2) (by omega)
    refine ⟨?_, ?_, ?_⟩
    · rw [World.cell?_setCell_other _ _ _ _ (ne (by omega)), World.cell?_setCell_other _ _ _ _ (ne (by omega))]; exact World.cell?_setCell_same _ _ _ m0
    · rw [World.cell?_setCell_other _ _ _ _ (ne (by omega))]; exact World.cell?_setCell_same _ _ _ m1
    · exact World.cell?_setCell_same _ _ _ m2
  · rw [if_neg hik]
    have h0 := h i hi
    simp only [Nat.zero_add] at h0
    refine ⟨?_, ?_, ?_⟩
    · rw [World.cell?_setCell_other _ _ _ _ (ne (by omega)), World.cell?_setCell_other _ _ _ _ (ne (by omega)), World.cell?_setCell_other _ _ _ _ (ne (by omega))]; exact h0.1
    · rw [World.cell?_setCell_other _ _ _ _ (ne (by omega)), World.cell?_setCell_other _ _ _ _ (ne (by omega)), World.cell?_setCell_other _ _ _ _ (ne (by omega))]; exact h0.2.1
    · rw [World.cell?_setCell_other _ _ _ _ (ne (by omega)), World.cell?_setCell_other _ _ _ _ (ne (by omega)), World.cell?_setCell_other _ _ _ _ (ne (by omega))]; exact h0.2.2

theorem made_drew {w : World} {g m : Nat} (h : Made w g m) : Made w.drew g m := h
theorem mvs_drew {w : World} {b o : Nat} {ms : List Mv} (h : MvsIn w b o ms) : MvsIn w.drew b o ms := h
theorem grown_drew {W w : World} {r : Option Nat} (h : W.grownBy w r) : W.grownBy w.drew r := ⟨h.os, h.tape, h.output, h.size, h.block⟩

/-- what turning a row round comes to -/
def RevPost (lo hi : Nat) (a : Option Addr) (ms' : List Mv) (W : World) (e : Ending) (w' : World) : Prop :=
  ∃ r : Option Nat, e = .returned (.tuple #[]) ∧ W.grownBy w' r ∧ (∀ g, r = some g → lo ≤ g ∧ g < hi) ∧ NewM lo hi w' a ms'

set_option maxRecDepth 100000 in
set_option maxHeartbeats 4000000 in
theorem reverse_c (lo hi : Nat) (a : Option Addr) (cap : Nat) (ms : List Mv) (hl : ms.length ≤ 1000) (w : World) (h : NewM lo hi w a ms) :
    Calls Try.prog 61 #[.slice a ms.length cap] w (RevPost lo hi a ms.reverse w) := by
  rcases h with h0 | ⟨g, ha, h1, h2, hM, hI⟩
  · subst h0
    go_enter Try.func61, Try.ntmps61
    go_wp2
    refine wp_loop_rounds 1 ?_
    rw [rounds_succ]; go_wp2
    go_end0
    exact ⟨none, rfl, World.grownBy.refl _ _, (fun g h => by cases h), .inl rfl⟩
  · subst ha
    have HM := Lib.hid hM
    have HI := Lib.hid hI
    clear hM hI
    go_enter Try.func61, Try.ntmps61
    go_wp2
    go_loopw [2, 3] (fun vi vj wr => ∃ (k : Nat) (q : Int), vi = .int .i64 k ∧ vj = .int .i64 q ∧ Hid (q = (ms.length : Int) - 1 - k) ∧ 2 * k ≤ ms.length + 1 ∧ w.grownBy wr (some g) ∧ Made wr g (ms.length * 3) ∧ MvsIn wr g 0 (revK ms k)) (fun vi _ _ => ms.length - (intOf vi).toNat)
    case atStart => exact ⟨0, (ms.length : Int) - 1, rfl, rfl, Lib.hid (by simp), by omega, World.grownBy.refl _ _, HM.out, by rw [revK_zero]; exact HI.out⟩
    case round =>
      obtain ⟨k, q, rfl, rfl, hq, hk2, hG, hMr, hIr⟩ := hrel
      have HG := Lib.hid hG
      have HMr := Lib.hid hMr
      have HIr := Lib.hid hIr
      clear hG hMr hIr
      by_cases hlt : (k : Int) < q
      · obtain ⟨j, rfl⟩ : ∃ j : Nat, q = j := ⟨q.toNat, by omega⟩
        have hkj : k + j + 1 = ms.length := by have := hq.out; omega
        have hkl : k < j := by omega
        obtain ⟨c0, c1, c2⟩ := HIr.out k (by rw [revK_length]; omega)
        obtain ⟨d0, d1, d2⟩ := HIr.out j (by rw [revK_length]; omega)
        obtain ⟨e1, e2⟩ := revK_at ms k j hkj hkl (by rw [revK_length]; omega) (by rw [revK_length]; omega)
        rw [e1] at c0 c1 c2
        rw [e2] at d0 d1 d2
        simp only [Nat.zero_add] at c0 c1 c2 d0 d1 d2
        have HSw := Lib.hid (revK_swap ms k j hkj hkl)
        obtain ⟨x, hx⟩ : ∃ x, ms.getD k mv0 = x := ⟨_, rfl⟩
        obtain ⟨y, hy⟩ : ∃ y, ms.getD j mv0 = y := ⟨_, rfl⟩
        rw [hx] at c0 c1 c2 HSw
        rw [hy] at d0 d1 d2 HSw
        have z0 := (HMr.out.2 (k * 3) (by omega)).2
        have z1 := (HMr.out.2 (k * 3 + 1) (by omega)).2
        have z2 := (HMr.out.2 (k * 3 + 2) (by omega)).2
        have y0 := (HMr.out.2 (j * 3) (by omega)).2
        have y1 := (HMr.out.2 (j * 3 + 1) (by omega)).2
        have y2 := (HMr.out.2 (j * 3 + 2) (by omega)).2
        have hgs := HMr.out.1
        have f0 : (0 : Int) ≤ (k : Int) := by omega
        have f1 : (0 : Int) ≤ (j : Int) := by omega
        have f2 : (k : Int) < (ms.length : Int) := by omega
        have f3 : (j : Int) < (ms.length : Int) := by omega
        have HKJ := Lib.hid hkj
        clear hx hy e1 e2 hkj
        go_wp2
        go_region
        go_wp2
        go_roundw
        case rel =>
          refine ⟨k + 1, (j : Int) - 1, by go_num, rfl, Lib.hid (by have := hq.out; omega), by have := HKJ.out; omega, ?_, ?_, ?_⟩
          · exact grown_drew (grown_set (grown_set (grown_set (grown_set (grown_set (grown_set HG.out _) _) _) _) _) _)
          · exact made_drew (Made.set (Made.set (Made.set (Made.set (Made.set (Made.set HMr.out _ _) _ _) _ _) _ _) _ _) _ _)
          · rw [← HSw.out]
            have hm1 : Made wr g ((revK ms k).length * 3) := by rw [revK_length]; exact HMr.out
            have s1 := MvsIn.set3 (k := k) HIr.out hm1 (by rw [revK_length]; have := HKJ.out; omega) y
            have s2 := MvsIn.set3 (k := j) s1 (by rw [List.length_set]; exact ((hm1.set _ _).set _ _).set _ _) (by rw [List.length_set, revK_length]; have := HKJ.out; omega) x
            exact mvs_drew s2
        case measure => simp [intOf]; omega
      · go_wp2
        go_end0
        have hI := HIr.out
        rw [revK_done ms k (by have := hq.out; omega)] at hI
        exact ⟨some g, rfl, HG.out, fun g' e => by cases e; exact ⟨h1, h2⟩, .inr ⟨g, rfl, h1, h2, by rw [List.length_reverse]; exact HMr.out, hI⟩⟩
end Go.Proofs.Ytkgcbbbmiklgaaa
