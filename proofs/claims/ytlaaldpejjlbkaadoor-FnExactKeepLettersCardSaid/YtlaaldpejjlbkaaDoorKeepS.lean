/-
  Contracts of KeepLetters, of its model: it returns the series of the terms of given letters alone.
-/
import Derived.Test.YtlaaldpejjlbkaaDoorFew
import Derived.Test.YtlaaldpejjlbkaaDoorKeep
namespace Go.Proofs.YtlaaldpejjlbkaaDoor
open Go.RowKit

def onlyT (u : ByteArray) (t : Tm) : Bool := t.s.data.toList.all fun c => u.data.toList.contains c
theorem pick_only (u : ByteArray) : ∀ ts : List Tm, pickL (ofOnly u) ts = ts.filter (onlyT u)
  | [] => rfl
  | t :: ts => by
    have ih := pick_only u ts
    unfold pickL at ih ⊢
    cases h : onlyT u t with
    | true =>
      have e : pickT (ofOnly u) t = some t := by
        have h2 := h
        unfold onlyT at h2
        unfold pickT ofOnly
        rw [if_pos h2]; rfl
      rw [List.filterMap_cons, e, ih, List.filter_cons, if_pos h]
    | false =>
      have e : pickT (ofOnly u) t = none := by
        have h2 := h
        unfold onlyT at h2
        unfold pickT ofOnly
        rw [if_neg (by rw [h2]; simp)]; rfl
      rw [List.filterMap_cons, e, ih, List.filter_cons, if_neg (by rw [h]; simp)]
theorem diffT_at {l : List UInt8} {k n : Nat} (h : diffT l n = true) (hk : k < n) : (l.take k).contains (l.getD k 0) = false := by
  cases hc : (l.take k).contains (l.getD k 0) with
  | false => rfl
  | true => rw [diffT_no hk hc] at h; cases h
/-- letters that are all different are at most as many as there are -/
theorem diff_few {d : Int} (hd : 1 ≤ d ∧ d ≤ 3) {l : List UInt8} (hw : wordB d l = true) (h : diffB l = true) : (l.length : Int) ≤ d := by
  have hp : (l.map fun c => c.toNat - 48).Pairwise (fun a b => a ≠ b) := by
    rw [List.pairwise_map, List.pairwise_iff_getElem]
    intro i j hi hj hij e
    have h1 := letB_true (wordB_get hw i hi)
    have h2 := letB_true (wordB_get hw j hj)
    have e2 : l[i] = l[j] := UInt8.toNat_inj.1 (by omega)
    have h3 := diffT_at h hj
    rw [getD_at hj] at h3
    have h4 : l[i] ∈ l.take j := List.mem_take_iff_getElem.2 ⟨i, by omega, rfl⟩
    rw [e2] at h4
    rw [List.contains_iff_mem.2 h4] at h3
    cases h3
  have := sub_len _ (List.range d.toNat) hp (fun x hx => by
    obtain ⟨c, hc, rfl⟩ := List.mem_map.1 hx
    have h1 := letB_true (List.all_eq_true.1 hw c hc)
    rw [List.mem_range]
    omega)
  rw [List.length_map, List.length_range] at this
  omega

def codeK (L V : Int) (ts : List Tm) (u : ByteArray) : Int := if serB L V ts then (if wordB L u.data.toList && diffB u.data.toList then 0 else 2) else 1
/-- which letters have been met -/
def metV (u : ByteArray) (k : Nat) : Array Value := #[.bool ((u.data.toList.take k).contains (letU 0)), .bool ((u.data.toList.take k).contains (letU 1)), .bool ((u.data.toList.take k).contains (letU 2))]
theorem metV_get (u : ByteArray) (k : Nat) {j : Nat} (hj : j < 3) : (metV u k)[j]? = some (.bool ((u.data.toList.take k).contains (letU j))) := by
  have h3 : j = 0 ∨ j = 1 ∨ j = 2 := by omega
  rcases h3 with rfl | rfl | rfl <;> rfl
theorem metV_set {u : ByteArray} {k : Nat} (hk : k < u.size) {j : Nat} (hj : j < 3) (hc : letU j = u[k]) : (metV u k).setIfInBounds j (.bool true) = metV u (k + 1) := by
  have key : ∀ i, i < 3 → (u.data.toList.take (k + 1)).contains (letU i) = ((u.data.toList.take k).contains (letU i) || (letU i == letU j)) := fun i _ => by
    rw [contains_snoc _ k (by simpa using hk), hc]; rfl
  have h3 : j = 0 ∨ j = 1 ∨ j = 2 := by omega
  unfold metV
  rw [key 0 (by omega), key 1 (by omega), key 2 (by omega)]
  have ne01 : (letU 0 == letU 1) = false := by decide
  have ne02 : (letU 0 == letU 2) = false := by decide
  have ne10 : (letU 1 == letU 0) = false := by decide
  have ne12 : (letU 1 == letU 2) = false := by decide
  have ne20 : (letU 2 == letU 0) = false := by decide
  have ne21 : (letU 2 == letU 1) = false := by decide
  rcases h3 with rfl | rfl | rfl
  · rw [ne10, ne20, beq_self_eq_true]; simp
  · rw [ne01, ne21, beq_self_eq_true]; simp
  · rw [ne02, ne12, beq_self_eq_true]; simp
end Go.Proofs.YtlaaldpejjlbkaaDoor
