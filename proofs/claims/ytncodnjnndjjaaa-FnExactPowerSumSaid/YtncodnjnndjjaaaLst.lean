/-
  Lists of whole numbers: which ones are taken, their differences and their sums. Contracts of DifferencesOf and SumsOf, of the program and of the model.
-/
import Derived.Test.YtncodnjnndjjaaaRed
import Derived.Deep.AppendLies
import Derived.Deep.RegionLaw
namespace Go.Proofs.Ytncodnjnndjjaaa
open Go.RowKit

def listB (z : List Int) : Bool := decide (z.length ≤ 12) && numsD 100 z
theorem listB_nums {z : List Int} (h : numsD 100 z = false) : listB z = false := by simp [listB, h]
theorem listB_long {z : List Int} (h : ¬ z.length ≤ 12) : listB z = false := by simp [listB, h]
theorem listB_yes {z : List Int} (h1 : z.length ≤ 12) (h2 : numsD 100 z = true) : listB z = true := by simp [listB, h1, h2]
theorem listB_true {z : List Int} (h : listB z = true) : z.length ≤ 12 ∧ ∀ x ∈ z, -100 ≤ x ∧ x ≤ 100 := by
  unfold listB at h
  simp only [Bool.and_eq_true, decide_eq_true_eq] at h
  exact ⟨h.1, fun x hx => inB_true (List.all_eq_true.1 h.2 x hx)⟩
/-- a list that is taken, and not too short -/
def lstB (q : Int) (z : List Int) : Bool := listB z && decide (q ≤ (z.length : Int))
theorem lstB_no {q : Int} {z : List Int} (h : listB z = false) : lstB q z = false := by simp [lstB, h]
theorem lstB_short {q : Int} {z : List Int} (h : ¬ q ≤ (z.length : Int)) : lstB q z = false := by simp [lstB, h]
theorem lstB_yes {q : Int} {z : List Int} (h1 : listB z = true) (h : q ≤ (z.length : Int)) : lstB q z = true := by simp [lstB, h, h1]
theorem lstB_list {q : Int} {z : List Int} (h : lstB q z = true) : listB z = true := by unfold lstB at h; simp only [Bool.and_eq_true] at h; exact h.1
theorem lstB_0 (z : List Int) : lstB 0 z = listB z := by simp [lstB]

section
variable (lo hi : Nat) (a : Option Addr) (cap : Nat) (z : List Int) (hl : z.length ≤ 1048576) (w : World) (hr : IRow lo hi w a z)
include hl hr

set_option maxHeartbeats 1000000 in
theorem l10List_c (q : Int) (hq : q = 0 ∨ q = 1) : Calls Try.prog 40 #[.slice a z.length cap, .int .i64 q] w fun e w' => e = .returned (.bool (lstB q z)) ∧ w = w' := by
  have HT := Lib.hid hr
  have hq0 : 0 ≤ q := by omega
  have hq1 : q ≤ 1 := by omega
  clear hr hq
  go_enter Try.func40, Try.ntmps40
  go_wp2
  go_loop [5] (fun vi => ∃ k : Nat, k ≤ z.length ∧ vi = .int .i64 k ∧ ∀ i (h : i < z.length), i < k → inB z[i] (-100) 100 = true) (fun vi => z.length - (intOf vi).toNat)
  case atStart => exact ⟨0, Nat.zero_le _, rfl, fun i _ h => absurd h (Nat.not_lt_zero _)⟩
  case round =>
    obtain ⟨k, hk, rfl, hg⟩ := hrel
    have HG := Lib.hid hg
    clear hg
    by_cases hlt : k < z.length
    · rcases HT.out with h | ⟨b', o', rfl, _, _, hI'⟩
      · rw [h] at hlt; simp at hlt
      have c1 := hI' k hlt
      have HN := Lib.hid (fun h => (lstB_no (q := q) (listB_nums (allD_no k hlt h : numsD 100 z = false))))
      have HY := Lib.hid (fun (h : inB z[k] (-100) 100 = true) i (hi : i < z.length) (hij : i < k + 1) => show inB z[i] (-100) 100 = true from by
        by_cases e : i < k
        · exact HG.out i hi e
        · obtain rfl : i = k := by omega
          exact h)
      obtain ⟨x, hx⟩ : ∃ x, z[k] = x := ⟨_, rfl⟩
      rw [hx] at c1 HN HY
      clear hx hI'
      cases hin : inB x (-100) 100 with
      | false =>
        have HR := Lib.hid (HN.out hin)
        go_wp2_with (go_at_call 59; refine (l01In_c _ _ _ _).mono ?_; rw [hin]; rintro e w' ⟨rfl, rfl⟩)
        go_ret
        exact ⟨retD HR.out.symm, rfl⟩
      | true =>
        have HR := Lib.hid (HY.out hin)
        go_wp2_with (go_at_call 59; refine (l01In_c _ _ _ _).mono ?_; rw [hin]; rintro e w' ⟨rfl, rfl⟩)
        go_round
        case rel => exact ⟨k + 1, by omega, by go_num, HR.out⟩
        case measure => simp [intOf]; omega
    · have HA := Lib.hid (show numsD 100 z = true from allD_yes (fun i hi => HG.out i hi (by omega)))
      by_cases hql : q ≤ (z.length : Int)
      · by_cases h12 : (z.length : Int) ≤ 12
        · have HR := Lib.hid (lstB_yes (q := q) (listB_yes (by omega) HA.out) hql)
          go_wp2
          go_ret
          exact ⟨retD HR.out.symm, rfl⟩
        · have HR := Lib.hid (lstB_no (q := q) (listB_long (z := z) (by omega)))
          go_wp2
          go_ret
          exact ⟨retD HR.out.symm, rfl⟩
      · have HR := Lib.hid (lstB_short (q := q) (z := z) hql)
        go_wp2
        go_ret
        exact ⟨retD HR.out.symm, rfl⟩

theorem areAtMostH_c : Calls Try.prog 61 #[.slice a z.length cap, .int .i64 100] w fun e w' => e = .returned (.bool (numsD 100 z)) ∧ w = w' := by
  have HI := Lib.hid hr
  clear hr
  go_enter Try.func61, Try.ntmps61
  go_wp2
  go_loop [9] (fun vj => ∃ j : Nat, j ≤ z.length ∧ vj = .int .i64 j ∧ ∀ i (h : i < z.length), i < j → inB z[i] (-100) 100 = true) (fun vj => z.length - (intOf vj).toNat)
  case atStart => exact ⟨0, Nat.zero_le _, rfl, fun i _ h => absurd h (Nat.not_lt_zero _)⟩
  case round =>
    obtain ⟨j, hj, rfl, hg⟩ := hrel
    have HGj := Lib.hid hg
    clear hg
    by_cases hltj : j < z.length
    · rcases HI.out with h | ⟨b', o', rfl, _, _, hI'⟩
      · rw [h] at hltj; simp at hltj
      have c1 := hI' j hltj
      have HN := Lib.hid (fun h => (allD_no j hltj h : numsD 100 z = false))
      have HY := Lib.hid (fun (h : inB z[j] (-100) 100 = true) i (hi : i < z.length) (hij : i < j + 1) => show inB z[i] (-100) 100 = true from by
        by_cases e : i < j
        · exact HGj.out i hi e
        · obtain rfl : i = j := by omega
          exact h)
      obtain ⟨x, hx⟩ : ∃ x, z[j] = x := ⟨_, rfl⟩
      rw [hx] at c1 HN HY
      clear hx hI'
      cases hin : inB x (-100) 100 with
      | false =>
        have HR := Lib.hid (HN.out hin)
        go_wp2_with (go_at_call 75; refine (isBetween_c _ _ _ _).mono ?_; rw [hin]; rintro e w' ⟨rfl, rfl⟩)
        go_ret
        exact ⟨retD HR.out.symm, rfl⟩
      | true =>
        have HR := Lib.hid (HY.out hin)
        go_wp2_with (go_at_call 75; refine (isBetween_c _ _ _ _).mono ?_; rw [hin]; rintro e w' ⟨rfl, rfl⟩)
        go_round
        case rel => exact ⟨j + 1, by omega, by go_num, HR.out⟩
        case measure => simp [intOf]; omega
    · have HR := Lib.hid (show numsD 100 z = true from allD_yes (fun i hi => HGj.out i hi (by omega)))
      go_wp2
      go_ret
      exact ⟨retD HR.out.symm, rfl⟩

theorem isNumberList_c : Calls Try.prog 42 #[.slice a z.length cap] w fun e w' => e = .returned (.bool (listB z)) ∧ w = w' := by
  have HA := Lib.hid (areAtMostH_c lo hi a cap z hl w hr)
  clear hr
  by_cases hn : z.length ≤ 12
  · cases h1 : numsD 100 z with
    | false =>
      have HR := Lib.hid (listB_nums h1)
      rw [h1] at HA
      go_enter Try.func42, Try.ntmps42
      go_wp2_with (go_at_call 61; refine HA.out.mono ?_; rintro e w' ⟨rfl, rfl⟩)
      go_ret
      exact ⟨retD HR.out.symm, rfl⟩
    | true =>
      have HR := Lib.hid (listB_yes hn h1)
      rw [h1] at HA
      go_enter Try.func42, Try.ntmps42
      go_wp2_with (go_at_call 61; refine HA.out.mono ?_; rintro e w' ⟨rfl, rfl⟩)
      go_ret
      exact ⟨retD HR.out.symm, rfl⟩
  · have HR := Lib.hid (listB_long hn)
    go_enter Try.func42, Try.ntmps42
    go_wp2
    go_ret
    exact ⟨retD HR.out.symm, rfl⟩
end

/-- the append of one number, as one step of a region that draws -/
theorem step_one {ops : Array Oper} {o : Oper} {a : Act} {W : World} {K : Act → World → Prop} {Q : Exit → Act → World → Prop} {E : Prop} (hgd : o.guard = none) (s x : Operand)
    (ho : o.op = .call { callee := .builtin .append, args := #[s, x], argTypes := #[29, 29] }) (base : Nat) (v : Value) (n : Nat) (zs : List Int) (z : Int) (hs : a.eval s = v)
    (hown : OwnI W base v zs) (hn : n = zs.length) (hx : a.eval x = .slice (some ⟨W.heap.size, 0, none⟩) 1 1) (h9 : n ≤ 100) (hbase : base ≤ W.heap.size)
    (h : ∀ gg cg w', OwnI w' base (.slice (some ⟨gg, 0, none⟩) (n + 1) cg) (zs ++ [z]) → (W.alloc (.cells #[.int .i64 z] 2)).grownBy w' v.ownBlock → K (a.put o.dst (.slice (some ⟨gg, 0, none⟩) (n + 1) cg)) w') :
    if Region.wanted o (yielded ops a.tmps) = true then Oper.wp Try.prog o a (W.alloc (.cells #[.int .i64 z] 2)) K Q else E := by
  obtain ⟨i0, hi0, hi1, hi2, hi3⟩ := info_parts info_int64
  refine step_append_lies _ hgd s x 29 ho base 2 i0 _ 1 8 Try.underlying29 hi0 hi1 hi2 hi3 rfl (by omega) v n (cellsI zs) hs
    (by have h := hown.alloc (.cells #[.int .i64 z] 2); unfold OwnI at h; rw [← hn] at h; exact h)
    ⟨W.heap.size, 0, none⟩ 1 1 [.int .i64 z] hx rfl
    (World.news_of_block (cs := #[.int .i64 z]) (t := 2) (fr := (0, 0)) (heap_alloc_new W _))
    (by simp [Value.oneCell']) (by omega) (by unfold maxLen; omega) (by omega) (by simp; omega) (W.heap.size + 1) (by simp) ?_
  intro gg cg w' h1 h2 _ _
  refine h gg cg w' ?_ h2
  unfold OwnI
  rw [List.length_append, ← hn, cellsI_append]
  exact h1

/-- the differences of neighbours -/
def diffL (z : List Int) : List Int := (List.range (z.length - 1)).map fun i => z.getD (i + 1) 0 - z.getD i 0
theorem diffL_length (z : List Int) : (diffL z).length = z.length - 1 := by simp [diffL]
theorem getD_in {z : List Int} {i : Nat} (h : i < z.length) : z.getD i 0 = z[i] := by simp [List.getD, h]
theorem diffL_take {z : List Int} {k : Nat} (h : k + 1 < z.length) : (diffL z).take (k + 1) = (diffL z).take k ++ [z[k + 1] - z[k]] := by
  rw [List.take_succ_eq_append_getElem (by rw [diffL_length]; omega)]
  congr 2
  simp [diffL, h, show k < z.length by omega]
/-- the sum of the first numbers -/
def sumTo (z : List Int) : Nat → Int
  | 0 => 0
  | k + 1 => sumTo z k + z.getD k 0
def sumsL (z : List Int) : List Int := (List.range (z.length + 1)).map (sumTo z)
theorem sumsL_length (z : List Int) : (sumsL z).length = z.length + 1 := by simp [sumsL]
theorem sumsL_take {z : List Int} {k : Nat} (h : k < z.length + 1) : (sumsL z).take (k + 1) = (sumsL z).take k ++ [sumTo z k] := by
  rw [List.take_succ_eq_append_getElem (by rw [sumsL_length]; omega)]
  congr 2
  simp [sumsL]
theorem sumTo_bd {z : List Int} (h : ∀ x ∈ z, -100 ≤ x ∧ x ≤ 100) : ∀ k : Nat, -(100 * (k : Int)) ≤ sumTo z k ∧ sumTo z k ≤ 100 * (k : Int)
  | 0 => by simp [sumTo]
  | k + 1 => by
    have h1 := sumTo_bd h k
    have h2 : -100 ≤ z.getD k 0 ∧ z.getD k 0 ≤ 100 := by
      by_cases hk : k < z.length
      · rw [getD_in hk]; exact h _ (List.getElem_mem hk)
      · rw [List.getD_eq_getElem?_getD, List.getElem?_eq_none (by omega)]; decide
    simp only [sumTo]
    omega
end Go.Proofs.Ytncodnjnndjjaaa
