/-
  Plain mathematics of the numbers of words: the letters that come off from the last one on, in the program's way and in its model's. No program is named here.
-/
import Derived.Test.YtblhmdeoliipfaaMath
namespace Go.Proofs.Ytblhmdeoliipfaa

/-- the letter of a number, as a word -/
def letW (i : Int) : ByteArray := ⟨#[UInt8.ofNat (48 + i).toNat]⟩
/-- how many words have fewer letters than n -/
def offs (d : Int) : Nat → Int
  | 0 => 0
  | n + 1 => offs d n + d ^ n
/-- the word that the program makes: each step undoes one of the number's -/
def wordI (d : Int) : Nat → Int → ByteArray → ByteArray
  | 0, _, acc => acc
  | f + 1, k, acc => if 0 < k then wordI d f ((k - 1) / d) (letW ((k - 1) % d) ++ acc) else acc
/-- the word that the model makes: n letters of a rest -/
def wordS (d : Int) : Nat → Int → ByteArray → ByteArray
  | 0, _, acc => acc
  | n + 1, r, acc => wordS d n (r / d) (letW (r % d) ++ acc)

theorem offs_nonneg {d : Int} (hd : 1 ≤ d) : ∀ n, 0 ≤ offs d n
  | 0 => by simp [offs]
  | n + 1 => by have := offs_nonneg hd n; have : 0 < d ^ n := Int.pow_pos (by omega); simp only [offs]; omega
theorem offs_step {d : Int} : ∀ n, offs d (n + 1) - 1 = d * offs d n
  | 0 => by simp [offs]
  | n + 1 => by
    have ih := offs_step (d := d) n
    have e : offs d (n + 2) = offs d (n + 1) + d ^ (n + 1) := rfl
    rw [e, show offs d (n + 1) = offs d n + d ^ n from rfl, Int.mul_add, ← ih, show offs d (n + 1) = offs d n + d ^ n from rfl, Int.pow_succ, Int.mul_comm d (d ^ n)]
    omega
theorem word_same {d : Int} (hd : 1 ≤ d) : ∀ (n f : Nat) (r : Int) (acc : ByteArray), n ≤ f → 0 ≤ r → r < d ^ n → wordI d f (offs d n + r) acc = wordS d n r acc
  | 0, f, r, acc, _, h0, h1 => by
    have hr : r = 0 := by simp at h1; omega
    subst hr
    cases f with
    | zero => rfl
    | succ f => simp [wordI, wordS, offs]
  | n + 1, f, r, acc, hf, h0, h1 => by
    obtain ⟨f, rfl⟩ : ∃ g, f = g + 1 := ⟨f - 1, by omega⟩
    have hs := offs_step (d := d) n
    have hn := offs_nonneg hd n
    have hp : 0 < d ^ n := Int.pow_pos (by omega)
    have hpos : 0 < offs d (n + 1) + r := by simp only [offs]; omega
    have e : offs d (n + 1) + r - 1 = r + d * offs d n := by omega
    have e1 : (offs d (n + 1) + r - 1) / d = offs d n + r / d := by rw [e, Int.add_mul_ediv_left _ _ (by omega)]; omega
    have e2 : (offs d (n + 1) + r - 1) % d = r % d := by rw [e, Int.add_mul_emod_self_left]
    rw [wordI, if_pos hpos, e1, e2, word_same hd n f (r / d) _ (by omega) (Int.ediv_nonneg h0 (by omega)) (by rw [Int.pow_succ] at h1; exact Int.ediv_lt_of_lt_mul (by omega) h1)]
    rfl
theorem letW_size (i : Int) : (letW i).size = 1 := rfl
theorem wordS_size (d : Int) : ∀ (n : Nat) (r : Int) (acc : ByteArray), (wordS d n r acc).size = acc.size + n
  | 0, r, acc => rfl
  | n + 1, r, acc => by
    rw [wordS, wordS_size d n, ByteArray.size_append, letW_size]; omega
end Go.Proofs.Ytblhmdeoliipfaa
