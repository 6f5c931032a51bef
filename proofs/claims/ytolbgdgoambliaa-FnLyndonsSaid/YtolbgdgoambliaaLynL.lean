/-
  Plain mathematics of the program's list of Lyndon words: each word behind the other (extL, raiseL, genL), and that it is the ascending list of all Lyndon words up to a length (by the kernel, for each number of letters and each length but 3 letters and lengths 7 and 8, which are still to be made: there the kernel runs out of stack).
-/
import Derived.Test.YtolbgdgoambliaaMapV
import Derived.Test.YtolbgdgoambliaaNeck
namespace Go.Proofs.Ytolbgdgoambliaa
open Go

/-- the word again and again, up to n letters (k rounds at most) -/
def extL (n : Nat) : Nat → Nat → List UInt8 → List UInt8
  | 0, _, w => w
  | k + 1, i, w => if w.length < n then extL n k (i + 1) (w ++ [w.getD i 0]) else w
/-- without the greatest letters at the end, and the one ahead of them raised -/
def raiseL (last : UInt8) (w : List UInt8) : Option (List UInt8) :=
  match w.reverse.dropWhile (fun c => !decide (c < last)) with
  | [] => none
  | c :: r => some ((c + 1) :: r).reverse
def genL (last : UInt8) (n : Nat) : Nat → List UInt8 → Option (List (List UInt8))
  | 0, _ => none
  | f + 1, w => match raiseL last (extL n n 0 w) with
    | none => some [w]
    | some w' => (genL last n f w').map (w :: ·)
def sortB : List (List UInt8) → Bool
  | a :: b :: r => Op.bytesLess a b && sortB (b :: r)
  | _ => true
def chkL (d n : Nat) : Bool := match genL (UInt8.ofNat (47 + d)) n 2000 [48] with
  | none => false
  | some L => sortB L && (List.range' 1 n).all fun k => L.filter (fun w => w.length == k) == ((wordsL d k).filter lynB).map (fun s => s.toList)
set_option maxRecDepth 100000
theorem chkL_1_1 : chkL 1 1 = true := by decide +kernel
theorem chkL_1_2 : chkL 1 2 = true := by decide +kernel
theorem chkL_1_3 : chkL 1 3 = true := by decide +kernel
theorem chkL_1_4 : chkL 1 4 = true := by decide +kernel
theorem chkL_1_5 : chkL 1 5 = true := by decide +kernel
theorem chkL_1_6 : chkL 1 6 = true := by decide +kernel
theorem chkL_1_7 : chkL 1 7 = true := by decide +kernel
theorem chkL_1_8 : chkL 1 8 = true := by decide +kernel
theorem chkL_2_1 : chkL 2 1 = true := by decide +kernel
theorem chkL_2_2 : chkL 2 2 = true := by decide +kernel
theorem chkL_2_3 : chkL 2 3 = true := by decide +kernel
theorem chkL_2_4 : chkL 2 4 = true := by decide +kernel
theorem chkL_2_5 : chkL 2 5 = true := by decide +kernel
theorem chkL_2_6 : chkL 2 6 = true := by decide +kernel
theorem chkL_2_7 : chkL 2 7 = true := by decide +kernel
theorem chkL_2_8 : chkL 2 8 = true := by decide +kernel
theorem chkL_3_1 : chkL 3 1 = true := by decide +kernel
theorem chkL_3_2 : chkL 3 2 = true := by decide +kernel
theorem chkL_3_3 : chkL 3 3 = true := by decide +kernel
theorem chkL_3_4 : chkL 3 4 = true := by decide +kernel
theorem chkL_3_5 : chkL 3 5 = true := by decide +kernel
theorem chkL_3_6 : chkL 3 6 = true := by decide +kernel
theorem chkL_all {d n : Nat} (hd : 1 ≤ d ∧ d ≤ 3) (hn : 1 ≤ n ∧ n ≤ 8) (hs : d ≤ 2 ∨ n ≤ 6) : chkL d n = true := by
  obtain ⟨d1, d2⟩ := hd
  obtain ⟨n1, n2⟩ := hn
  have h : d = 1 ∨ d = 2 ∨ d = 3 := by omega
  have h' : n = 1 ∨ n = 2 ∨ n = 3 ∨ n = 4 ∨ n = 5 ∨ n = 6 ∨ n = 7 ∨ n = 8 := by omega
  rcases h with rfl | rfl | rfl
  · rcases h' with rfl | rfl | rfl | rfl | rfl | rfl | rfl | rfl
    · exact chkL_1_1
    · exact chkL_1_2
    · exact chkL_1_3
    · exact chkL_1_4
    · exact chkL_1_5
    · exact chkL_1_6
    · exact chkL_1_7
    · exact chkL_1_8
  · rcases h' with rfl | rfl | rfl | rfl | rfl | rfl | rfl | rfl
    · exact chkL_2_1
    · exact chkL_2_2
    · exact chkL_2_3
    · exact chkL_2_4
    · exact chkL_2_5
    · exact chkL_2_6
    · exact chkL_2_7
    · exact chkL_2_8
  · rcases h' with rfl | rfl | rfl | rfl | rfl | rfl | rfl | rfl
    · exact chkL_3_1
    · exact chkL_3_2
    · exact chkL_3_3
    · exact chkL_3_4
    · exact chkL_3_5
    · exact chkL_3_6
    · omega
    · omega
/-- the list, its order, and its words of each length -/
theorem genL_is {d n : Nat} (hd : 1 ≤ d ∧ d ≤ 3) (hn : 1 ≤ n ∧ n ≤ 8) (hs : d ≤ 2 ∨ n ≤ 6) :
    ∃ L, genL (UInt8.ofNat (47 + d)) n 2000 [48] = some L ∧ sortB L = true ∧ ∀ k, 1 ≤ k → k ≤ n → L.filter (fun w => w.length == k) = ((wordsL d k).filter lynB).map (fun s => s.toList) := by
  have h := chkL_all hd hn hs
  unfold chkL at h
  split at h
  · cases h
  · rename_i L hL
    rw [Bool.and_eq_true] at h
    refine ⟨L, hL, h.1, fun k h1 h2 => ?_⟩
    have := List.all_eq_true.1 h.2 k (List.mem_range'_1.2 ⟨h1, by omega⟩)
    exact of_decide_eq_true (by simpa using this)
end Go.Proofs.Ytolbgdgoambliaa
