/-
  The program's list of Lyndon words over 3 letters, up to 8 letters: its order and its words of each length, by the kernel, piece by piece (the whole at once runs out of stack).
-/
import Derived.Test.YtolbgdgoambliaaLynL7
namespace Go.Proofs.Ytolbgdgoambliaa
open Go

/-- the words that begin with w and are k letters longer -/
def longs (d : Nat) : Nat → ByteArray → List ByteArray
  | 0, w => [w]
  | k + 1, w => nextL d (longs d k w)
theorem wordsL_longs (d : Nat) : ∀ k, wordsL d (k + 2) = (wordsL d 2).flatMap (longs d k)
  | 0 => by simp [longs]
  | k + 1 => by
    show nextL d (wordsL d (k + 2)) = _
    rw [wordsL_longs d k]
    unfold nextL
    rw [List.flatMap_assoc]
    rfl
def headL (i j : Nat) (w : List UInt8) : Bool := w.length == 8 && (w.headD 0 == UInt8.ofNat (48 + i) && w.tail.headD 0 == UInt8.ofNat (48 + j))
def chuL (i j : Nat) : Bool := match genL 50 8 2000 [48] with
  | none => false
  | some L => L.filter (headL i j) == ((longs 3 6 (ByteArray.empty ++ letW (i : Int) ++ letW (j : Int))).filter lynB).map (fun s => s.toList)
def conL : Bool := match genL 50 8 2000 [48] with
  | none => false
  | some L => L.filter (fun w => w.length == 8) == L.filter (headL 0 0) ++ (L.filter (headL 0 1) ++ (L.filter (headL 0 2) ++ (L.filter (headL 1 0) ++ (L.filter (headL 1 1) ++ (L.filter (headL 1 2) ++ (L.filter (headL 2 0) ++ (L.filter (headL 2 1) ++ (L.filter (headL 2 2)))))))))
set_option maxRecDepth 100000
theorem srtL_8 : srtL 3 8 = true := by decide +kernel
theorem parL_8_1 : parL 3 8 1 = true := by decide +kernel
theorem parL_8_2 : parL 3 8 2 = true := by decide +kernel
theorem parL_8_3 : parL 3 8 3 = true := by decide +kernel
theorem parL_8_4 : parL 3 8 4 = true := by decide +kernel
theorem parL_8_5 : parL 3 8 5 = true := by decide +kernel
theorem parL_8_6 : parL 3 8 6 = true := by decide +kernel
theorem parL_8_7 : parL 3 8 7 = true := by decide +kernel
theorem chuL_0_0 : chuL 0 0 = true := by decide +kernel
theorem chuL_0_1 : chuL 0 1 = true := by decide +kernel
theorem chuL_0_2 : chuL 0 2 = true := by decide +kernel
theorem chuL_1_0 : chuL 1 0 = true := by decide +kernel
theorem chuL_1_1 : chuL 1 1 = true := by decide +kernel
theorem chuL_1_2 : chuL 1 2 = true := by decide +kernel
theorem chuL_2_0 : chuL 2 0 = true := by decide +kernel
theorem chuL_2_1 : chuL 2 1 = true := by decide +kernel
theorem chuL_2_2 : chuL 2 2 = true := by decide +kernel
theorem conL_is : conL = true := by decide +kernel
theorem chuL_true {i j : Nat} {L : List (List UInt8)} (hL : genL 50 8 2000 [48] = some L) (h : chuL i j = true) : L.filter (headL i j) = ((longs 3 6 (ByteArray.empty ++ letW (i : Int) ++ letW (j : Int))).filter lynB).map (fun s => s.toList) := by
  unfold chuL at h
  rw [hL] at h
  exact of_decide_eq_true (by simpa using h)
theorem conL_true {L : List (List UInt8)} (hL : genL 50 8 2000 [48] = some L) : L.filter (fun w => w.length == 8) = L.filter (headL 0 0) ++ (L.filter (headL 0 1) ++ (L.filter (headL 0 2) ++ (L.filter (headL 1 0) ++ (L.filter (headL 1 1) ++ (L.filter (headL 1 2) ++ (L.filter (headL 2 0) ++ (L.filter (headL 2 1) ++ (L.filter (headL 2 2))))))))) := by
  have h := conL_is
  unfold conL at h
  rw [hL] at h
  exact of_decide_eq_true (by simpa using h)
theorem parL_8 {L : List (List UInt8)} (hL : genL 50 8 2000 [48] = some L) : L.filter (fun w => w.length == 8) = ((wordsL 3 8).filter lynB).map (fun s => s.toList) := by
  have e : wordsL 3 8 = longs 3 6 (ByteArray.empty ++ letW ((0 : Nat) : Int) ++ letW ((0 : Nat) : Int)) ++ (longs 3 6 (ByteArray.empty ++ letW ((0 : Nat) : Int) ++ letW ((1 : Nat) : Int)) ++ (longs 3 6 (ByteArray.empty ++ letW ((0 : Nat) : Int) ++ letW ((2 : Nat) : Int)) ++ (longs 3 6 (ByteArray.empty ++ letW ((1 : Nat) : Int) ++ letW ((0 : Nat) : Int)) ++ (longs 3 6 (ByteArray.empty ++ letW ((1 : Nat) : Int) ++ letW ((1 : Nat) : Int)) ++ (longs 3 6 (ByteArray.empty ++ letW ((1 : Nat) : Int) ++ letW ((2 : Nat) : Int)) ++ (longs 3 6 (ByteArray.empty ++ letW ((2 : Nat) : Int) ++ letW ((0 : Nat) : Int)) ++ (longs 3 6 (ByteArray.empty ++ letW ((2 : Nat) : Int) ++ letW ((1 : Nat) : Int)) ++ (longs 3 6 (ByteArray.empty ++ letW ((2 : Nat) : Int) ++ letW ((2 : Nat) : Int)))))))))) := by
    rw [wordsL_longs 3 6]
    have e1 : wordsL 3 2 = [(ByteArray.empty ++ letW ((0 : Nat) : Int) ++ letW ((0 : Nat) : Int)), (ByteArray.empty ++ letW ((0 : Nat) : Int) ++ letW ((1 : Nat) : Int)), (ByteArray.empty ++ letW ((0 : Nat) : Int) ++ letW ((2 : Nat) : Int)), (ByteArray.empty ++ letW ((1 : Nat) : Int) ++ letW ((0 : Nat) : Int)), (ByteArray.empty ++ letW ((1 : Nat) : Int) ++ letW ((1 : Nat) : Int)), (ByteArray.empty ++ letW ((1 : Nat) : Int) ++ letW ((2 : Nat) : Int)), (ByteArray.empty ++ letW ((2 : Nat) : Int) ++ letW ((0 : Nat) : Int)), (ByteArray.empty ++ letW ((2 : Nat) : Int) ++ letW ((1 : Nat) : Int)), (ByteArray.empty ++ letW ((2 : Nat) : Int) ++ letW ((2 : Nat) : Int))] := rfl
    rw [e1]
    simp only [List.flatMap_cons, List.flatMap_nil, List.append_nil]
  rw [conL_true hL, chuL_true hL chuL_0_0, chuL_true hL chuL_0_1, chuL_true hL chuL_0_2, chuL_true hL chuL_1_0, chuL_true hL chuL_1_1, chuL_true hL chuL_1_2, chuL_true hL chuL_2_0, chuL_true hL chuL_2_1, chuL_true hL chuL_2_2, e]
  simp only [List.filter_append, List.map_append]
theorem genL_is8 : ∃ L, genL (UInt8.ofNat (47 + 3)) 8 2000 [48] = some L ∧ sortB L = true ∧ ∀ k, 1 ≤ k → k ≤ 8 → L.filter (fun w => w.length == k) = ((wordsL 3 k).filter lynB).map (fun s => s.toList) := by
  obtain ⟨L, hL, hs⟩ := srtL_true srtL_8
  refine ⟨L, hL, hs, fun k h1 h2 => ?_⟩
  have h' : k = 1 ∨ k = 2 ∨ k = 3 ∨ k = 4 ∨ k = 5 ∨ k = 6 ∨ k = 7 ∨ k = 8 := by omega
  rcases h' with rfl | rfl | rfl | rfl | rfl | rfl | rfl | rfl
  · exact parL_true hL parL_8_1
  · exact parL_true hL parL_8_2
  · exact parL_true hL parL_8_3
  · exact parL_true hL parL_8_4
  · exact parL_true hL parL_8_5
  · exact parL_true hL parL_8_6
  · exact parL_true hL parL_8_7
  · exact parL_8 hL
/-- the list of every number of letters and every length: its order, and its words of each length -/
theorem genL_all {d n : Nat} (hd : 1 ≤ d ∧ d ≤ 3) (hn : 1 ≤ n ∧ n ≤ 8) :
    ∃ L, genL (UInt8.ofNat (47 + d)) n 2000 [48] = some L ∧ sortB L = true ∧ ∀ k, 1 ≤ k → k ≤ n → L.filter (fun w => w.length == k) = ((wordsL d k).filter lynB).map (fun s => s.toList) := by
  by_cases h : d ≤ 2 ∨ n ≤ 6
  · exact genL_is hd hn h
  · obtain rfl : d = 3 := by omega
    have h' : n = 7 ∨ n = 8 := by omega
    rcases h' with rfl | rfl
    · exact genL_is7
    · exact genL_is8
end Go.Proofs.Ytolbgdgoambliaa
