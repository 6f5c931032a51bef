/-
  Plain mathematics of the counts of Lyndon words: by Moebius' sum, and by the aperiodic words. No program is named here.
-/
import Derived.WalkKit
namespace Go.Proofs.Ytolbgdgoambliaa

/-- Moebius' function, step by step: the divisor k, what is left, the sign so far -/
def moB : Nat → Nat → Nat → Int → Int
  | 0, _, _, o => o
  | f + 1, k, n, o => if k ≤ n then (if n % k = 0 then (if (n / k) % k = 0 then 0 else moB f (k + 1) (n / k) (-o)) else moB f (k + 1) n o) else o
theorem moB_end {f k n : Nat} {o : Int} (h : n < k) : moB f k n o = o := by
  cases f with
  | zero => rfl
  | succ f => rw [moB, if_neg (by omega)]
def moe (n : Nat) : Int := moB 20 2 n 1
/-- the sum over the divisors up to k -/
def cS (d : Int) (n : Nat) : Nat → Int
  | 0 => 0
  | k + 1 => cS d n k + (if n % (k + 1) = 0 then moe (k + 1) * d ^ (n / (k + 1)) else 0)
/-- the sum of g over the divisors of n up to k -/
def apSn (g : Nat → Int) (n : Nat) : Nat → Int
  | 0 => 0
  | k + 1 => apSn g n k + (if n % (k + 1) = 0 then g (k + 1) else 0)
/-- how many words of n letters are no powers of shorter ones -/
def ap (d : Int) : Nat → Nat → Int
  | 0, _ => 0
  | f + 1, n => d ^ n - apSn (ap d f) n (n - 1)
def bdC (x : Int) : Bool := decide (-1000000000000 ≤ x ∧ x ≤ 1000000000000)
theorem bdC_out {x : Int} (h : bdC x = true) : -1000000000000 ≤ x ∧ x ≤ 1000000000000 := by simpa [bdC] using h
def allD (p : Int → Bool) : Bool := p 1 && p 2 && p 3
theorem allD_out {p : Int → Bool} (h : allD p = true) {d : Int} (hd : 1 ≤ d ∧ d ≤ 3) : p d = true := by
  simp only [allD, Bool.and_eq_true] at h
  have e : d = 1 ∨ d = 2 ∨ d = 3 := by omega
  rcases e with rfl | rfl | rfl
  · exact h.1.1
  · exact h.1.2
  · exact h.2
def allN (m : Nat) (p : Nat → Bool) : Bool := (List.range (m + 1)).all p
theorem allN_out {m : Nat} {p : Nat → Bool} (h : allN m p = true) {n : Nat} (hn : n ≤ m) : p n = true := List.all_eq_true.1 h n (List.mem_range.2 (by omega))
set_option maxRecDepth 100000 in
theorem pow_all : allD (fun d => allN 20 fun n => bdC (d ^ n) && decide (1 ≤ d ^ n)) = true := by decide +kernel
set_option maxRecDepth 100000 in
theorem moe_all : allN 20 (fun n => decide (-1 ≤ moe n ∧ moe n ≤ 1)) = true := by decide +kernel
set_option maxRecDepth 100000 in
theorem cS_all : allD (fun d => allN 20 fun n => allN 20 fun k => bdC (cS d n k)) = true := by decide +kernel
set_option maxRecDepth 100000 in
theorem ap_all : allD (fun d => allN 20 fun f => allN 20 fun n => bdC (ap d f n) && allN n fun k => bdC (d ^ n - apSn (ap d f) n k)) = true := by decide +kernel
set_option maxRecDepth 100000 in
theorem cnt_all : allD (fun d => allN 20 fun n => decide (n = 0 ∨ (cS d n n = ap d 20 n ∧ 0 ≤ ap d 20 n))) = true := by decide +kernel
theorem pow_b {d : Int} (hd : 1 ≤ d ∧ d ≤ 3) {n : Nat} (hn : n ≤ 20) : 1 ≤ d ^ n ∧ d ^ n ≤ 1000000000000 := by
  have e := allN_out (allD_out pow_all hd) hn
  simp only [Bool.and_eq_true, decide_eq_true_eq] at e
  exact ⟨e.2, (bdC_out e.1).2⟩
theorem moe_b {n : Nat} (hn : n ≤ 20) : -1 ≤ moe n ∧ moe n ≤ 1 := by simpa using allN_out moe_all hn
theorem cS_b {d : Int} (hd : 1 ≤ d ∧ d ≤ 3) {n k : Nat} (hn : n ≤ 20) (hk : k ≤ 20) : -1000000000000 ≤ cS d n k ∧ cS d n k ≤ 1000000000000 := bdC_out (allN_out (allN_out (allD_out cS_all hd) hn) hk)
theorem ap_b {d : Int} (hd : 1 ≤ d ∧ d ≤ 3) {f n : Nat} (hf : f ≤ 20) (hn : n ≤ 20) : -1000000000000 ≤ ap d f n ∧ ap d f n ≤ 1000000000000 := by
  have e := allN_out (allN_out (allD_out ap_all hd) hf) hn
  simp only [Bool.and_eq_true] at e
  exact bdC_out e.1
theorem apSn_b {d : Int} (hd : 1 ≤ d ∧ d ≤ 3) {f n k : Nat} (hf : f ≤ 20) (hn : n ≤ 20) (hk : k ≤ n) : -1000000000000 ≤ d ^ n - apSn (ap d f) n k ∧ d ^ n - apSn (ap d f) n k ≤ 1000000000000 := by
  have e := allN_out (allN_out (allD_out ap_all hd) hf) hn
  simp only [Bool.and_eq_true] at e
  exact bdC_out (allN_out e.2 hk)
theorem cnt_b {d : Int} (hd : 1 ≤ d ∧ d ≤ 3) {n : Nat} (h1 : 1 ≤ n) (hn : n ≤ 20) : cS d n n = ap d 20 n ∧ 0 ≤ ap d 20 n := by
  have e := allN_out (allD_out cnt_all hd) hn
  simp only [decide_eq_true_eq] at e
  exact e.resolve_left (by omega)
end Go.Proofs.Ytolbgdgoambliaa
