/-
  Inverses of group words: the opposites in the reverse order. Contracts of the model's inverse, and of the numbers of the program's inverse of a word.
-/
import Derived.Test.YtnhiceopgjfaaaaGrp
import Derived.ChangeAlike
import Derived.Handy
namespace Go.Proofs.Ytnhiceopgjfaaaa
open Go.RowKit

def invL (z : List Int) : List Int := (z.map fun x => -x).reverse
theorem invL_length (z : List Int) : (invL z).length = z.length := by simp [invL]
theorem invL_get {z : List Int} {k : Nat} (h : k < z.length) (j : Nat) (hj : j + k + 1 = z.length) : (invL z)[k]'(by rw [invL_length]; exact h) = -(z[j]'(by omega)) := by
  have e : z.length - 1 - k = j := by omega
  simp only [invL, List.getElem_reverse, List.getElem_map, List.length_map]
  congr 1
  simp only [e]
theorem getDI {z : List Int} {i : Nat} (h : i < z.length) : z.getD i 0 = z[i] := by simp [List.getD, h]

/-- the row when `k` pairs have changed places -/
def revI (ms : List Int) (k : Nat) : List Int := (List.range ms.length).map fun i => if i < k ∨ ms.length - k ≤ i then ms.getD (ms.length - 1 - i) 0 else ms.getD i 0
theorem revI_length (ms : List Int) (k : Nat) : (revI ms k).length = ms.length := by simp [revI]
theorem revI_get (ms : List Int) (k i : Nat) (h : i < (revI ms k).length) : (revI ms k)[i] = if i < k ∨ ms.length - k ≤ i then ms.getD (ms.length - 1 - i) 0 else ms.getD i 0 := by simp [revI]
theorem revI_zero (ms : List Int) : revI ms 0 = ms := by
  apply List.ext_getElem
  · exact revI_length ms 0
  · intro i h1 h2
    rw [revI_get, if_neg (by omega), getDI h2]
theorem revI_swap (ms : List Int) (k j : Nat) (hj : k + j + 1 = ms.length) (hk : k < j) : ((revI ms k).set k (ms.getD j 0)).set j (ms.getD k 0) = revI ms (k + 1) := by
  apply List.ext_getElem
  · simp [revI_length]
  · intro i h1 h2
    have hi : i < ms.length := by rw [revI_length] at h2; exact h2
    rw [List.getElem_set, revI_get ms (k + 1) i h2]
    by_cases e : j = i
    · subst e
      rw [if_pos rfl, if_pos (by omega)]
      congr 1; omega
    · rw [if_neg e, List.getElem_set]
      by_cases e2 : k = i
      · subst e2
        rw [if_pos rfl, if_pos (by omega)]
        congr 1; omega
      · rw [if_neg e2, revI_get]
        by_cases h : i < k ∨ ms.length - k ≤ i
        · rw [if_pos h, if_pos (by omega)]
        · rw [if_neg h, if_neg (by omega)]
theorem revI_done (ms : List Int) (k : Nat) (h : ms.length ≤ 2 * k + 1) : revI ms k = ms.reverse := by
  apply List.ext_getElem
  · rw [revI_length, List.length_reverse]
  · intro i h1 h2
    have hi : i < ms.length := by rw [revI_length] at h1; exact h1
    rw [revI_get, List.getElem_reverse]
    by_cases h0 : i < k ∨ ms.length - k ≤ i
    · rw [if_pos h0, getDI (by omega)]
    · rw [if_neg h0, getDI hi]
      congr 1; omega
theorem revI_at (ms : List Int) (k j : Nat) (hj : k + j + 1 = ms.length) (hk : k < j) (h1 : k < (revI ms k).length) (h2 : j < (revI ms k).length) : (revI ms k)[k] = ms.getD k 0 ∧ (revI ms k)[j] = ms.getD j 0 := by
  rw [revI_get, revI_get, if_neg (by omega), if_neg (by omega)]
  exact ⟨rfl, rfl⟩
theorem madeI_drew {w : World} {g m : Nat} (h : Made w g m) : Made w.drew g m := h
theorem intsI_drew {w : World} {b o : Nat} {ms : List Int} (h : IntsIn w b o ms) : IntsIn w.drew b o ms := h
theorem grownI_drew {W w : World} {r : Option Nat} (h : W.grownBy w r) : W.grownBy w.drew r := ⟨h.os, h.tape, h.output, h.size, h.block⟩

/-- what turning a row round comes to -/
def RevIPost (lo hi : Nat) (a : Option Addr) (ms' : List Int) (W : World) (e : Ending) (w' : World) : Prop :=
  ∃ r : Option Nat, e = .returned (.tuple #[]) ∧ W.grownBy w' r ∧ (∀ g, r = some g → lo ≤ g ∧ g < hi) ∧ NewI lo hi w' a ms'

set_option maxRecDepth 100000 in
set_option maxHeartbeats 4000000 in
theorem reverseI_c (lo hi : Nat) (a : Option Addr) (cap : Nat) (ms : List Int) (hl : ms.length ≤ 1000) (w : World) (h : NewI lo hi w a ms) :
    Calls Try.prog 60 #[.slice a ms.length cap] w (RevIPost lo hi a ms.reverse w) := by
  rcases h with h0 | ⟨g, ha, h1, h2, hM, hI⟩
  · subst h0
    go_enter Try.func60, Try.ntmps60
    go_wp2
    refine wp_loop_rounds 1 ?_
    rw [rounds_succ]; go_wp2
    go_end0
    exact ⟨none, rfl, World.grownBy.refl _ _, (fun g h => by cases h), .inl rfl⟩
  · subst ha
    have HM := Lib.hid hM
    have HI := Lib.hid hI
    clear hM hI
    go_enter Try.func60, Try.ntmps60
    go_wp2
    go_loopw [2, 3] (fun vi vj wr => ∃ (k : Nat) (q : Int), vi = .int .i64 k ∧ vj = .int .i64 q ∧ Hid (q = (ms.length : Int) - 1 - k) ∧ 2 * k ≤ ms.length + 1 ∧ w.grownBy wr (some g) ∧ Made wr g ms.length ∧ IntsIn wr g 0 (revI ms k)) (fun vi _ _ => ms.length - (intOf vi).toNat)
    case atStart => exact ⟨0, (ms.length : Int) - 1, rfl, rfl, Lib.hid (by simp), by omega, World.grownBy.refl _ _, HM.out, by rw [revI_zero]; exact HI.out⟩
    case round =>
      obtain ⟨k, q, rfl, rfl, hq, hk2, hG, hMr, hIr⟩ := hrel
      have HG := Lib.hid hG
      have HMr := Lib.hid hMr
      have HIr := Lib.hid hIr
      clear hG hMr hIr
      by_cases hlt : (k : Int) < q
      · obtain ⟨j, rfl⟩ : ∃ j : Nat, q = j := ⟨q.toNat, by omega⟩
        have hkj : k + j + 1 = ms.length := by have := hq.out; omega
        have hkl : k < j := by omega
        have c0 := HIr.out k (by rw [revI_length]; omega)
        have d0 := HIr.out j (by rw [revI_length]; omega)
        obtain ⟨e1, e2⟩ := revI_at ms k j hkj hkl (by rw [revI_length]; omega) (by rw [revI_length]; omega)
        rw [e1] at c0
        rw [e2] at d0
        simp only [Nat.zero_add] at c0 d0
        have HSw := Lib.hid (revI_swap ms k j hkj hkl)
        obtain ⟨x, hx⟩ : ∃ x, ms.getD k 0 = x := ⟨_, rfl⟩
        obtain ⟨y, hy⟩ : ∃ y, ms.getD j 0 = y := ⟨_, rfl⟩
        rw [hx] at c0 HSw
        rw [hy] at d0 HSw
        have z0 := (HMr.out.2 k (by omega)).2
        have y0 := (HMr.out.2 j (by omega)).2
        have hgs := HMr.out.1
        have f0 : (0 : Int) ≤ (k : Int) := by omega
        have f1 : (0 : Int) ≤ (j : Int) := by omega
        have f2 : (k : Int) < (ms.length : Int) := by omega
        have f3 : (j : Int) < (ms.length : Int) := by omega
        have HKJ := Lib.hid hkj
        clear hx hy e1 e2 hkj
        go_wp2
        go_region
        go_wp2
        go_roundw
        case rel =>
          refine ⟨k + 1, (j : Int) - 1, by go_num, rfl, Lib.hid (by have := hq.out; omega), by have := HKJ.out; omega, ?_, ?_, ?_⟩
          · exact grownI_drew (grown_set (grown_set HG.out _) _)
          · exact madeI_drew (Made.set (Made.set HMr.out _ _) _ _)
          · rw [← HSw.out]
            have hm1 : Made wr g (revI ms k).length := by rw [revI_length]; exact HMr.out
            have s1 := IntsIn.upd (j := k) HIr.out hm1 (by rw [revI_length]; have := HKJ.out; omega) y
            have s2 := IntsIn.upd (j := j) s1 (by rw [List.length_set]; exact hm1.set _ _) (by rw [List.length_set, revI_length]; have := HKJ.out; omega) x
            exact intsI_drew s2
        case measure => simp [intOf]; omega
      · go_wp2
        go_end0
        have hI := HIr.out
        rw [revI_done ms k (by have := hq.out; omega)] at hI
        exact ⟨some g, rfl, HG.out, fun g' e => by cases e; exact ⟨h1, h2⟩, .inr ⟨g, rfl, h1, h2, by rw [List.length_reverse]; exact HMr.out, hI⟩⟩

/-- the row when the first `k` numbers are turned to their opposites -/
def negK (u : List Int) (k : Nat) : List Int := (List.range u.length).map fun i => if i < k then -(u.getD i 0) else u.getD i 0
theorem negK_length (u : List Int) (k : Nat) : (negK u k).length = u.length := by simp [negK]
theorem negK_get (u : List Int) (k i : Nat) (h : i < (negK u k).length) : (negK u k)[i] = if i < k then -(u.getD i 0) else u.getD i 0 := by simp [negK]
theorem negK_zero (u : List Int) : negK u 0 = u := by
  apply List.ext_getElem
  · exact negK_length u 0
  · intro i h1 h2
    rw [negK_get, if_neg (by omega), getDI h2]
theorem negK_set (u : List Int) (k : Nat) (h : k < u.length) : (negK u k).set k (-(u[k])) = negK u (k + 1) := by
  apply List.ext_getElem
  · simp [negK_length]
  · intro i h1 h2
    have hi : i < u.length := by rw [negK_length] at h2; exact h2
    rw [List.getElem_set, negK_get u (k + 1) i h2]
    by_cases e : k = i
    · subst e
      rw [if_pos rfl, if_pos (by omega), getDI h]
    · rw [if_neg e, negK_get]
      by_cases e2 : i < k
      · rw [if_pos e2, if_pos (by omega)]
      · rw [if_neg e2, if_neg (by omega)]
theorem negK_done (z : List Int) : negK z.reverse z.length = invL z := by
  apply List.ext_getElem
  · simp [negK_length, invL]
  · intro i h1 h2
    have hi : i < z.length := by simpa [negK_length] using h1
    rw [negK_get, if_pos hi, getDI (by simpa using hi)]
    simp [invL]

set_option maxRecDepth 100000 in
set_option maxHeartbeats 2000000 in
theorem l09Inverse_c (lo hi : Nat) (a : Option Addr) (cap : Nat) (z : List Int) (hl : z.length ≤ 1000) (hb : ∀ x ∈ z, -3 ≤ x ∧ x ≤ 3) (w : World) (hr : IRow lo hi w a z) (hh : hi ≤ w.heap.size) :
    Calls Try.prog 46 #[.slice a z.length cap] w (IntsPost (invL z) w) := by
  have HT := Lib.hid hr
  have HBd := Lib.hid hb
  have HIL := Lib.hid (invL_length z)
  clear hr hb
  go_enter Try.func46, Try.ntmps46
  go_wp2
  go_loopw [3, 4] (fun vs vi wr => ∃ (k c' l : Nat) (q : Int) (a' : Option Addr), k ≤ z.length ∧ vi = .int .i64 q ∧ Hid (q = (z.length : Int) - 1 - k) ∧ vs = .slice a' l c' ∧ l = k ∧ Below w.heap.size w wr ∧ OwnI wr w.heap.size (.slice a' l c') ((invL z).take k)) (fun _ vi _ => (intOf vi + 1).toNat)
  case atStart => exact ⟨0, 0, 0, _, _, Nat.zero_le _, rfl, Lib.hid (by simp), rfl, rfl, below1 _ _, OwnI.emptyRow (heap_alloc_new w _) (Nat.le_refl _)⟩
  case round =>
    obtain ⟨k, c', l, q, a', hk, rfl, hq, rfl, hlk, hB, hO⟩ := hrel
    subst hlk
    have hzr := hB.size
    by_cases hlt : (0 : Int) ≤ q
    · obtain ⟨j, rfl⟩ : ∃ j : Nat, q = j := ⟨q.toNat, by omega⟩
      have hkj : j + l + 1 = z.length := by have := hq.out; omega
      rcases (HT.out.below hB hh) with h | ⟨b', o', rfl, _, hb', hI'⟩
      · rw [h] at hkj; simp at hkj
      have c1 := hI' j (by omega)
      have hbx := HBd.out (z[j]'(by omega)) (List.getElem_mem _)
      have HS := Lib.hid (List.take_succ_eq_append_getElem (l := invL z) (i := l) (by rw [invL_length]; omega))
      have hg := invL_get (z := z) (k := l) (by omega) j hkj
      obtain ⟨x, hx⟩ : ∃ x, z[j]'(by omega) = x := ⟨_, rfl⟩
      rw [hx] at c1 hbx hg
      rw [hg] at HS
      have HB := Lib.hid hB
      have HO := Lib.hid hO
      have HKJ := Lib.hid hkj
      have hkn : l + 1 ≤ z.length := by omega
      have hj2 : (j : Int) < (z.length : Int) := by omega
      have hw2 : IntKind.i64.wrap (-x) = -x := IntWalk.i64_in _ (by omega)
      clear hx hI' hB hO hg hkj
      go_wp2_with (at_builtin; refine wpList_append_ints rfl _ _ rfl w.heap.size (.slice a' l c') l ((invL z).take l) [-x] rfl (by rw [List.length_take, HIL.out]; omega) (HO.out.alloc _) _ 1 1 rfl rfl (.inr ⟨_, 0, rfl, ints_one _ _⟩) (by omega) (by simp; omega) ?_)
      intro a4 c4 w4 hO4 hG4 _
      have HB4 := Lib.hid (HB.out.trans (((below1 _ _).mono (by exact hzr)).trans (own_grownI (by exact OwnI.alloc (by exact HO.out) _) hG4 (by simp; omega))))
      have HO4 := Lib.hid hO4
      clear hO4 hG4
      go_wp2
      go_roundw
      case rel => exact ⟨l + 1, c4, l + 1, (j : Int) - 1, a4, hkn, rfl, Lib.hid (by have := HKJ.out; omega), rfl, rfl, HB4.out, by rw [HS.out]; exact HO4.out⟩
      case measure => simp [intOf]
    · have hkz : l = z.length := by have := hq.out; omega
      have HB := Lib.hid hB
      have HO := Lib.hid hO
      have HZ := Lib.hid hkz
      clear hB hO hkz
      go_wp2
      go_ret
      have hO := HO.out
      rw [List.take_of_length_le (by rw [HIL.out, HZ.out]; exact Nat.le_refl _)] at hO
      have hlr : l = (invL z).length := by rw [HIL.out]; exact HZ.out
      subst hlr
      exact ⟨a', c', rfl, HB.out, hO.at_.2⟩
end Go.Proofs.Ytnhiceopgjfaaaa
