/-
  Plain mathematics of the numbers of words: the letters that come off from the last one on, in the program's way and in its model's. No program is named here.
  Plain mathematics of the lists of all words of a length.
  Contracts of WordOfNumber, of the program and of its model, and of the program's way to write one letter.
-/
import Derived.Test.YtnlapfclmpilaaaDoorMath
import Derived.Test.YtnlapfclmpilaaaDoorWordW
import Derived.Test.YtnlapfclmpilaaaDoorMark
namespace Go.Proofs.YtnlapfclmpilaaaDoor

/-- the letter of a number, as a word -/
def letW (i : Int) : ByteArray := ⟨#[UInt8.ofNat (48 + i).toNat]⟩
/-- how many words have fewer letters than n -/
def offs (d : Int) : Nat → Int
  | 0 => 0
  | n + 1 => offs d n + d ^ n
/-- the word that the program makes: each step undoes one of the number's -/
def wordI (d : Int) : Nat → Int → ByteArray → ByteArray
  | 0, _, acc => acc
  | f + 1, k, acc => if 0 < k then wordI d f ((k - 1) / d) (letW ((k - 1) % d) ++ acc) else acc
/-- the word that the model makes: n letters of a rest -/
def wordS (d : Int) : Nat → Int → ByteArray → ByteArray
  | 0, _, acc => acc
  | n + 1, r, acc => wordS d n (r / d) (letW (r % d) ++ acc)

theorem offs_nonneg {d : Int} (hd : 1 ≤ d) : ∀ n, 0 ≤ offs d n
  | 0 => by simp [offs]
  | n + 1 => by have := offs_nonneg hd n; have : 0 < d ^ n := Int.pow_pos (by omega); simp only [offs]; omega
theorem offs_step {d : Int} : ∀ n, offs d (n + 1) - 1 = d * offs d n
  | 0 => by simp [offs]
  | n + 1 => by
    have ih := offs_step (d := d) n
    have e : offs d (n + 2) = offs d (n + 1) + d ^ (n + 1) := rfl
    rw [e, show offs d (n + 1) = offs d n + d ^ n from rfl, Int.mul_add, ← ih, show offs d (n + 1) = offs d n + d ^ n from rfl, Int.pow_succ, Int.mul_comm d (d ^ n)]
    omega
theorem word_same {d : Int} (hd : 1 ≤ d) : ∀ (n f : Nat) (r : Int) (acc : ByteArray), n ≤ f → 0 ≤ r → r < d ^ n → wordI d f (offs d n + r) acc = wordS d n r acc
  | 0, f, r, acc, _, h0, h1 => by
    have hr : r = 0 := by simp at h1; omega
    subst hr
    cases f with
    | zero => rfl
    | succ f => simp [wordI, wordS, offs]
  | n + 1, f, r, acc, hf, h0, h1 => by
    obtain ⟨f, rfl⟩ : ∃ g, f = g + 1 := ⟨f - 1, by omega⟩
    have hs := offs_step (d := d) n
    have hn := offs_nonneg hd n
    have hp : 0 < d ^ n := Int.pow_pos (by omega)
    have hpos : 0 < offs d (n + 1) + r := by simp only [offs]; omega
    have e : offs d (n + 1) + r - 1 = r + d * offs d n := by omega
    have e1 : (offs d (n + 1) + r - 1) / d = offs d n + r / d := by rw [e, Int.add_mul_ediv_left _ _ (by omega)]; omega
    have e2 : (offs d (n + 1) + r - 1) % d = r % d := by rw [e, Int.add_mul_emod_self_left]
    rw [wordI, if_pos hpos, e1, e2, word_same hd n f (r / d) _ (by omega) (Int.ediv_nonneg h0 (by omega)) (by rw [Int.pow_succ] at h1; exact Int.ediv_lt_of_lt_mul (by omega) h1)]
    rfl
theorem letW_size (i : Int) : (letW i).size = 1 := rfl
theorem wordS_size (d : Int) : ∀ (n : Nat) (r : Int) (acc : ByteArray), (wordS d n r acc).size = acc.size + n
  | 0, r, acc => rfl
  | n + 1, r, acc => by
    rw [wordS, wordS_size d n, ByteArray.size_append, letW_size]; omega
end Go.Proofs.YtnlapfclmpilaaaDoor

namespace Go.Proofs.YtnlapfclmpilaaaDoor

/-- the words that are one letter longer -/
def longer (d : Nat) (w : ByteArray) : List ByteArray := (List.range d).map fun (k : Nat) => w ++ letW (k : Int)
def nextL (d : Nat) (ws : List ByteArray) : List ByteArray := ws.flatMap (longer d)
def wordsL (d : Nat) : Nat → List ByteArray
  | 0 => [ByteArray.empty]
  | n + 1 => nextL d (wordsL d n)
theorem longer_length (d : Nat) (w : ByteArray) : (longer d w).length = d := by simp [longer]
theorem longer_take {d k : Nat} (w : ByteArray) (h : k < d) : (longer d w).take (k + 1) = (longer d w).take k ++ [w ++ letW k] := by
  rw [List.take_succ_eq_append_getElem (by rw [longer_length]; exact h)]
  simp [longer]
theorem nextL_length (d : Nat) (ws : List ByteArray) : (nextL d ws).length = ws.length * d := by
  unfold nextL
  induction ws with
  | nil => simp
  | cons w ws ih => rw [List.flatMap_cons, List.length_append, ih, longer_length]; simp [Nat.add_mul]; omega
theorem nextL_take {d i : Nat} {ws : List ByteArray} (h : i < ws.length) : nextL d (ws.take (i + 1)) = nextL d (ws.take i) ++ longer d ws[i] := by
  unfold nextL
  rw [List.take_succ_eq_append_getElem h, List.flatMap_append]
  simp only [List.flatMap_cons, List.flatMap_nil, List.append_nil]
theorem wordsL_length (d : Nat) : ∀ n, (wordsL d n).length = d ^ n
  | 0 => rfl
  | n + 1 => by rw [wordsL, nextL_length, wordsL_length d n, Nat.pow_succ]
theorem wordsL_size (d : Nat) : ∀ (n : Nat) (s : ByteArray), s ∈ wordsL d n → s.size = n
  | 0, s, h => by simp [wordsL] at h; subst h; rfl
  | n + 1, s, h => by
    unfold wordsL nextL at h
    obtain ⟨u, hu, hs⟩ := List.mem_flatMap.1 h
    unfold longer at hs
    obtain ⟨k, hk, rfl⟩ := List.mem_map.1 hs
    rw [ByteArray.size_append, wordsL_size d n u hu, letW_size]
theorem wordsL_few {d n : Nat} (hd : d ≤ 3) (hn : n ≤ 5) : (wordsL d n).length ≤ 243 := by
  rw [wordsL_length]
  have h1 : d ^ n ≤ 3 ^ n := Nat.pow_le_pow_left hd n
  have h2 : 3 ^ n ≤ 3 ^ 5 := Nat.pow_le_pow_right (by omega) hn
  have h3 : (3 : Nat) ^ 5 = 243 := by decide
  omega
end Go.Proofs.YtnlapfclmpilaaaDoor

namespace Go.Proofs.YtnlapfclmpilaaaDoor
open Go.RowKit

theorem small_c (i : Int) (h : i = 0 ∨ i = 1 ∨ i = 2) (w : World) :
    Calls Tryd.prog 88 #[.int .i64 i] w fun e w' => e = .returned (.string (letW i)) ∧ w = w' := by
  rcases h with rfl | rfl | rfl
  all_goals
    go_enter Tryd.func88, Tryd.ntmps88
    go_wp2
    go_ret
    exact ⟨rfl, rfl⟩
theorem formatInt0_c (i : Int) (h : i = 0 ∨ i = 1 ∨ i = 2) (w : World) :
    Calls Tryd.prog 77 #[.int .i64 i, .int .i64 10] w fun e w' => e = .returned (.string (letW i)) ∧ w = w' := by
  have HI := Lib.hid h
  have h0 : 0 ≤ i := by omega
  have h1 : i ≤ 2 := by omega
  clear h
  go_enter Tryd.func77, Tryd.ntmps77
  go_wp2_with (go_at_call 88; refine (small_c _ HI.out _).mono ?_; rintro e w' ⟨rfl, rfl⟩)
  go_ret
  exact ⟨rfl, rfl⟩
theorem letterWord_c (i : Int) (h0 : 0 ≤ i) (h1 : i ≤ 2) (w : World) :
    Calls Tryd.prog 32 #[.int .i64 i] w fun e w' => e = .returned (.string (letW i)) ∧ w = w' := by
  have hf : ∀ w : World, Calls Tryd.prog 60 #[.int .i64 i, .int .i64 10] w fun e w' => e = .returned (.string (letW i)) ∧ w = w' := by
    intro w
    go_enter Tryd.func60, Tryd.ntmps60
    go_wp2_with (go_at_call 77; refine (formatInt0_c _ (by omega) _).mono ?_; rintro e w' ⟨rfl, rfl⟩)
    go_ret
    exact ⟨rfl, rfl⟩
  have HF := Lib.hid hf
  clear hf
  go_enter Tryd.func32, Tryd.ntmps32
  go_wp2_with (go_at_call 60; refine (HF.out _).mono ?_; rintro e w' ⟨rfl, rfl⟩)
  go_ret
  exact ⟨rfl, rfl⟩

theorem offs_bd {d : Int} (h : 1 ≤ d ∧ d ≤ 3) (k : Nat) (hk : k ≤ 6) : 0 ≤ offs d k ∧ offs d k ≤ 364 := by
  have hd : d = 1 ∨ d = 2 ∨ d = 3 := by omega
  have hk' : k = 0 ∨ k = 1 ∨ k = 2 ∨ k = 3 ∨ k = 4 ∨ k = 5 ∨ k = 6 := by omega
  rcases hd with rfl | rfl | rfl <;> rcases hk' with rfl | rfl | rfl | rfl | rfl | rfl | rfl <;> decide
theorem offs_next {d : Int} (k : Nat) : offs d (k + 1) * d + 1 = offs d (k + 2) := by
  have h : offs d (k + 1 + 1) - 1 = d * offs d (k + 1) := offs_step (k + 1)
  rw [Int.mul_comm, ← h]
  show offs d (k + 1 + 1) - 1 + 1 = offs d (k + 1 + 1)
  omega
theorem add_str (a b : ByteArray) : a.size + b.size = (a ++ b).size := (ByteArray.size_append ..).symm

theorem wordI_zero (d : Int) (f : Nat) (acc : ByteArray) : wordI d f 0 acc = acc := by
  cases f with
  | zero => rfl
  | succ f => simp [wordI]
def WoNRel (d k : Int) (vk vs : Value) : Prop := ∃ (j : Int) (acc : ByteArray) (f : Nat), vk = .int .i64 j ∧ vs = .string acc ∧ 0 ≤ j ∧ j ≤ f ∧ f ≤ 364 ∧ acc.size + f ≤ 364 ∧ wordI d f j acc = wordI d 364 k ByteArray.empty
end Go.Proofs.YtnlapfclmpilaaaDoor
