/-
  Plain mathematics of scaling: which products are nought.
-/
import Derived.Test.YtbhbcjaaomdlaaaScS
namespace Go.Proofs.Ytbhbcjaaomdlaaa
open Go.RowKit

theorem f_nought {d : Int} (hd : 1 ≤ d) : fOk 0 d = true ∧ fN 0 d = 0 ∧ fD 0 d = 1 := by
  have hg : gi 0 d = d := by unfold gi; rw [Int.gcd_zero_left]; omega
  have hn : lowN 0 d = 0 := by unfold lowN; simp
  have hdd : lowD 0 d = 1 := by
    unfold lowD
    rw [if_neg (by omega), hg]
    exact Int.ediv_self (by omega)
  have h01 : isF 0 1 = true := by decide
  have hok : fOk 0 d = true := by
    rw [fOk_of (by omega)]
    unfold lowOk
    rw [hn, hdd]
    exact h01
  have h := low_yes hok
  exact ⟨hok, by rw [h.1, hn], by rw [h.2.1, hdd]⟩
theorem f_nonzero {n d : Int} (hn : n ≠ 0) (h : fOk n d = true) : fN n d ≠ 0 := by
  rw [(low_yes h).1]
  intro e
  unfold lowN at e
  have hdv : gi n d ∣ (if d < 0 then -n else n) := by
    split
    · exact Int.dvd_neg.2 (gi_dvd_left n d)
    · exact gi_dvd_left n d
  have := Int.ediv_mul_cancel hdv
  rw [e, Int.zero_mul] at this
  split at this <;> omega

section
variable {L V p q : Int} {ts : List Tm}
theorem ser_isF (h : serB L V ts = true) : ∀ t ∈ ts, isF t.n t.d = true := fun t ht => by
  have := ser_term h t ht
  simp only [termB, Bool.and_eq_true, decide_eq_true_eq] at this
  simp_all
theorem ser_nn (h : serB L V ts = true) : ∀ t ∈ ts, t.n ≠ 0 := fun t ht => by
  have := ser_term h t ht
  simp only [termB, Bool.and_eq_true, decide_eq_true_eq] at this
  simp_all
theorem zero_ok (hq : 1 ≤ q) (hF : ∀ t ∈ ts, isF t.n t.d = true) : okAll ts 0 q = true := by
  unfold okAll
  rw [List.all_eq_true]
  intro t ht
  have hd := (isF_out (hF t ht)).1
  rw [Int.mul_zero]
  exact (f_nought (by have := Int.mul_le_mul hd hq (by omega) (by omega); omega)).1
theorem keep_zero (hq : 1 ≤ q) (hF : ∀ t ∈ ts, isF t.n t.d = true) : keepL 0 q ts = [] := by
  unfold keepL
  rw [List.filter_eq_nil_iff]
  intro t ht
  obtain ⟨u, hu, rfl⟩ := List.mem_map.1 ht
  have hd := (isF_out (hF u hu)).1
  have h := f_nought (d := u.d * q) (by have := Int.mul_le_mul hd hq (by omega) (by omega); omega)
  unfold keepT mulT
  rw [Int.mul_zero, h.2.1, h.2.2]
  simp
theorem keep_all (hp : p ≠ 0) (hn : ∀ t ∈ ts, t.n ≠ 0) (hok : okAll ts p q = true) : keepL p q ts = ts.map (mulT p q) := by
  unfold keepL
  rw [List.filter_eq_self]
  intro t ht
  obtain ⟨u, hu, rfl⟩ := List.mem_map.1 ht
  unfold okAll at hok
  rw [List.all_eq_true] at hok
  have h := f_nonzero (Int.mul_ne_zero (hn u hu) hp) (hok u hu)
  unfold keepT mulT
  simp [h]
end
end Go.Proofs.Ytbhbcjaaomdlaaa
