/-
  Plain mathematics of the lists of all words of a length.
-/
import Derived.Test.YtblhmdeoliipfaaDig
namespace Go.Proofs.Ytblhmdeoliipfaa

/-- the words that are one letter longer -/
def longer (d : Nat) (w : ByteArray) : List ByteArray := (List.range d).map fun (k : Nat) => w ++ letW (k : Int)
def nextL (d : Nat) (ws : List ByteArray) : List ByteArray := ws.flatMap (longer d)
def wordsL (d : Nat) : Nat → List ByteArray
  | 0 => [ByteArray.empty]
  | n + 1 => nextL d (wordsL d n)
theorem longer_length (d : Nat) (w : ByteArray) : (longer d w).length = d := by simp [longer]
theorem longer_take {d k : Nat} (w : ByteArray) (h : k < d) : (longer d w).take (k + 1) = (longer d w).take k ++ [w ++ letW k] := by
  rw [List.take_succ_eq_append_getElem (by rw [longer_length]; exact h)]
  simp [longer]
theorem nextL_length (d : Nat) (ws : List ByteArray) : (nextL d ws).length = ws.length * d := by
  unfold nextL
  induction ws with
  | nil => simp
  | cons w ws ih => rw [List.flatMap_cons, List.length_append, ih, longer_length]; simp [Nat.add_mul]; omega
theorem nextL_take {d i : Nat} {ws : List ByteArray} (h : i < ws.length) : nextL d (ws.take (i + 1)) = nextL d (ws.take i) ++ longer d ws[i] := by
  unfold nextL
  rw [List.take_succ_eq_append_getElem h, List.flatMap_append]
  simp only [List.flatMap_cons, List.flatMap_nil, List.append_nil]
theorem wordsL_length (d : Nat) : ∀ n, (wordsL d n).length = d ^ n
  | 0 => rfl
  | n + 1 => by rw [wordsL, nextL_length, wordsL_length d n, Nat.pow_succ]
theorem wordsL_size (d : Nat) : ∀ (n : Nat) (s : ByteArray), s ∈ wordsL d n → s.size = n
  | 0, s, h => by simp [wordsL] at h; subst h; rfl
  | n + 1, s, h => by
    unfold wordsL nextL at h
    obtain ⟨u, hu, hs⟩ := List.mem_flatMap.1 h
    unfold longer at hs
    obtain ⟨k, hk, rfl⟩ := List.mem_map.1 hs
    rw [ByteArray.size_append, wordsL_size d n u hu, letW_size]
theorem wordsL_few {d n : Nat} (hd : d ≤ 3) (hn : n ≤ 5) : (wordsL d n).length ≤ 243 := by
  rw [wordsL_length]
  have h1 : d ^ n ≤ 3 ^ n := Nat.pow_le_pow_left hd n
  have h2 : 3 ^ n ≤ 3 ^ 5 := Nat.pow_le_pow_right (by omega) hn
  have h3 : (3 : Nat) ^ 5 = 243 := by decide
  omega
end Go.Proofs.Ytblhmdeoliipfaa
