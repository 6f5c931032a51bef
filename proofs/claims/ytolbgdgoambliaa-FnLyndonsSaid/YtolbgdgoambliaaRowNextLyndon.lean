/-
  'FnExactNextLyndon' returns true at every input: the program's NextLyndon and its model's return the same word and code. No condition.
-/
import Derived.Test.YtolbgdgoambliaaNxI
import Derived.Test.YtolbgdgoambliaaLynL8
import Derived.Test.YtolbgdgoambliaaLwM
import Derived.Test.YtolbgdgoambliaaOpenR
namespace Go.Proofs.Ytolbgdgoambliaa
open Go.ChangeShapes Go.WideShapes Go.ChangeAt Go.RowKit
open Go.ChangeMaps (open_string shut_string)

theorem baL_list (a : List UInt8) : (baL a).toList = a := by
  rw [ByteArray.toList_eq]
  simp [baL]
theorem list_baL (s : ByteArray) : baL s.toList = s := by
  unfold baL
  rw [ByteArray.toList_eq]
/-- what the program finds in its list is the least of all Lyndon words that are greater -/
theorem next_is {D N : Nat} (hd : 1 ≤ D ∧ D ≤ 3) (hn : 1 ≤ N ∧ N ≤ 8) (x : ByteArray) : ∃ ss : List ByteArray, ss ≠ [] ∧ ss.length ≤ 2000 ∧
    (∃ L, genL (UInt8.ofNat (47 + D)) N 2000 [48] = some L ∧ L.map baL = ss) ∧
    ∃ (k : Nat) (f : Bool), k ≤ ss.length ∧ (∀ t (h : t < ss.length), t < k → ltS ss[t] x = true) ∧ (∀ t (h : t < ss.length), k ≤ t → ltS ss[t] x = false) ∧ (f = true → ∃ h : k < ss.length, ss[k] = x) ∧ (f = false → ∀ h : k < ss.length, ss[k] ≠ x) ∧
      ss[if f = true then k + 1 else k]? = nextN x (wordsTo D N) := by
  obtain ⟨L, hL, hsort, hfil⟩ := genL_all hd hn
  have hlen := genL_len 2000 [48] L (by simp; omega) hL
  have hp := sortB_ne hsort
  -- the Lyndon words greater than x of the list are those of up to N letters
  have hmem : ∀ v, nxB x v = true → (v ∈ L.map baL ↔ v ∈ wordsTo D N) := fun v hv => by
    have hlyn : lynB v = true := by
      unfold nxB at hv
      rw [Bool.and_eq_true] at hv
      exact hv.2
    have hv0 := (lynB_true hlyn).1
    rw [mem_wordsTo, List.mem_map]
    constructor
    · rintro ⟨a, ha, rfl⟩
      have hs : (baL a).size = a.length := by simp [baL, ByteArray.size]
      refine ⟨a.length, by omega, hlen.2.2 a ha, ?_⟩
      have h1 : a ∈ L.filter (fun w => w.length == a.length) := List.mem_filter.2 ⟨ha, by simp⟩
      rw [hfil a.length (by omega) (hlen.2.2 a ha)] at h1
      obtain ⟨u, hu, rfl⟩ := List.mem_map.1 h1
      rw [list_baL]
      exact (List.mem_filter.1 hu).1
    · rintro ⟨j, h1, h2, hvj⟩
      have h3 : v.toList ∈ ((wordsL D j).filter lynB).map (fun s => s.toList) := List.mem_map.2 ⟨v, List.mem_filter.2 ⟨hvj, hlyn⟩, rfl⟩
      rw [← hfil j h1 h2] at h3
      exact ⟨v.toList, (List.mem_filter.1 h3).1, list_baL v⟩
  have hlyn : ∀ v ∈ L.map baL, ltS x v = true → lynB v = true := fun v hv hx => by
    obtain ⟨a, ha, rfl⟩ := List.mem_map.1 hv
    have h0 : 1 ≤ a.length := by
      cases a with
      | nil =>
        unfold ltS at hx
        rw [baL_list] at hx
        simp [Op.bytesLess] at hx
      | cons c r => simp
    have h1 : a ∈ L.filter (fun w => w.length == a.length) := List.mem_filter.2 ⟨ha, by simp⟩
    rw [hfil a.length h0 (hlen.2.2 a ha)] at h1
    obtain ⟨u, hu, rfl⟩ := List.mem_map.1 h1
    rw [list_baL]
    exact (List.mem_filter.1 hu).2
  have hasc : ∀ i j (hi : i < (L.map baL).length) (hj : j < (L.map baL).length), i < j → ltS (L.map baL)[i] (L.map baL)[j] = true := fun i j hi hj hij => by
    have h := List.pairwise_iff_getElem.1 hp i j (by simpa using hi) (by simpa using hj) hij
    unfold ltS
    rw [List.getElem_map, List.getElem_map, baL_list, baL_list]
    exact h
  have hne : L.map baL ≠ [] := by simpa using hlen.1
  have hfew : (L.map baL).length ≤ 2000 := by simpa using hlen.2.1
  refine ⟨L.map baL, hne, hfew, ⟨L, hL, rfl⟩, ?_⟩
  generalize L.map baL = ss at hmem hlyn hasc hne hfew
  obtain ⟨k, hk, k1, k2⟩ := cut_at (fun t => ltS (ss.getD t ByteArray.empty) x) ss.length (fun i j hij hj h => by
    have hi : i < ss.length := by omega
    have ei : ss.getD i ByteArray.empty = ss[i] := by simp [List.getD, hi]
    have ej : ss.getD j ByteArray.empty = ss[j] := by simp [List.getD, hj]
    simp only [ei] at h
    simp only [ej]
    rcases Nat.lt_or_ge i j with h1 | h1
    · cases hq : ltS ss[j] x with
      | false => rfl
      | true => have := ltS_trans (hasc i j hi hj h1) hq; rw [h] at this; cases this
    · obtain rfl : i = j := by omega
      exact h)
  have k1' : ∀ t (h : t < ss.length), t < k → ltS ss[t] x = true := fun t h ht => by have := k1 t ht; simpa [List.getD, h] using this
  have k2' : ∀ t (h : t < ss.length), k ≤ t → ltS ss[t] x = false := fun t h ht => by have := k2 t ht h; simpa [List.getD, h] using this
  refine ⟨k, decide (∃ h : k < ss.length, ss[k] = x), hk, k1', k2', fun h => of_decide_eq_true h, fun h hk2 he => absurd ⟨hk2, he⟩ (of_decide_eq_false h), ?_⟩
  have h := (found_is hasc hlyn hk k1' k2').congr hmem
  have e : (if decide (∃ h : k < ss.length, ss[k] = x) = true then k + 1 else k) = (if ∃ h : k < ss.length, ss[k] = x then k + 1 else k) := by
    by_cases hf : ∃ h : k < ss.length, ss[k] = x
    · rw [if_pos hf, if_pos (decide_eq_true hf)]
    · rw [if_neg hf, if_neg (by simpa using hf)]
  rw [e]
  exact h.uniq (nextN_is x _)
namespace fnExactNextLyndon
end fnExactNextLyndon
end Go.Proofs.Ytolbgdgoambliaa
