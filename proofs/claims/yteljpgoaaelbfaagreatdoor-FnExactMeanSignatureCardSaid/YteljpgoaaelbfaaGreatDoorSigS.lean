/-
  The values of a path's signature; the contract of the model's signature.
  Contracts of the model's SignatureOf.
  The closure of SignatureOf: the product of the steps' signatures, or a fraction does not fit and it panics; contracts of SignatureOf, of the program.
-/
import Derived.Test.YteljpgoaaelbfaaGreatDoorStepT
import Derived.Test.YteljpgoaaelbfaaGreatDoorExpM
import Derived.Test.YteljpgoaaelbfaaGreatDoorPaths
import Derived.Test.YteljpgoaaelbfaaGreatDoorPathC
import Derived.Test.YteljpgoaaelbfaaGreatDoorGate
import Derived.Test.YteljpgoaaelbfaaGreatDoorEndOf
import Derived.Deep.RegionHeld2
import Derived.Deep.RegionHeld3
namespace Go.Proofs.YteljpgoaaelbfaaGreatDoor
open Go.RowKit

/-- the values of the signature of the first k steps -/
def sigV (ps : List (List Int)) (ws : List ByteArray) (N : Nat) : Nat → Option VF
  | 0 => some unitF
  | k + 1 => (sigV ps ws N k).bind fun s => (expV (stepV (ps.getD k [])) ws N).bind fun e => prodV s e ws
theorem sigV_1 {ps : List (List Int)} {ws : List ByteArray} {N k : Nat} (h : expV (stepV (ps.getD k [])) ws N = none) : sigV ps ws N (k + 1) = none := by
  rw [sigV, h]
  cases sigV ps ws N k <;> rfl
theorem sigV_2 {ps : List (List Int)} {ws : List ByteArray} {N k : Nat} {s e : VF} (h : sigV ps ws N k = some s) (h2 : expV (stepV (ps.getD k [])) ws N = some e) : sigV ps ws N (k + 1) = prodV s e ws := by rw [sigV, h, h2]; rfl
theorem sigV_dead {ps : List (List Int)} {ws : List ByteArray} {N k : Nat} (h : sigV ps ws N k = none) : ∀ {m : Nat}, k ≤ m → sigV ps ws N m = none
  | 0, hm => by obtain rfl : k = 0 := by omega
                exact h
  | m + 1, hm => by
    by_cases e : k = m + 1
    · subst e; exact h
    · rw [sigV, sigV_dead h (show k ≤ m by omega)]; rfl
theorem sigV_good {ps : List (List Int)} {D N : Nat} : ∀ {k : Nat} {s : VF}, sigV ps (allW D N) N k = some s → GoodV (allW D N) s
  | 0, s, h => by rw [sigV] at h; injection h with h; rw [← h]; exact good_unit D N
  | k + 1, s, h => by
    rw [sigV] at h
    obtain ⟨q, _, h2⟩ := Option.bind_eq_some_iff.1 h
    obtain ⟨e, _, h3⟩ := Option.bind_eq_some_iff.1 h2
    exact GoodV.prodV h3
theorem stepV_good {D N : Nat} (hD : 1 ≤ D ∧ D ≤ 3) (hN : 1 ≤ N) {zs : List Int} (h : stepB D zs = true) : GoodV (allW D N) (stepV zs) := by
  obtain ⟨hl, hb⟩ := stepB_true h
  have hx : ∀ i, -1000000000 ≤ zs.getD i 0 ∧ zs.getD i 0 ≤ 1000000000 := fun i => by
    by_cases hi : i < zs.length
    · have := hb i hi
      rw [List.getD_eq_getElem?_getD, List.getElem?_eq_getElem hi]
      show -1000000000 ≤ zs[i] ∧ zs[i] ≤ 1000000000
      omega
    · rw [List.getD_eq_getElem?_getD, List.getElem?_eq_none (by omega)]
      decide
  have hz : ∀ i, D ≤ i → zs.getD i 0 = 0 := fun i hi => by
    rw [List.getD_eq_getElem?_getD, List.getElem?_eq_none (by omega)]
    rfl
  exact stepF_good hD.1 hN (hx 0) (hx 1) (hx 2) (fun h => hz 1 (by omega)) (fun h => hz 2 (by omega))

end Go.Proofs.YteljpgoaaelbfaaGreatDoor

namespace Go.Proofs.YteljpgoaaelbfaaGreatDoor
open Go.RowKit

end Go.Proofs.YteljpgoaaelbfaaGreatDoor

namespace Go.Proofs.YteljpgoaaelbfaaGreatDoor
open Go.RowKit

end Go.Proofs.YteljpgoaaelbfaaGreatDoor
