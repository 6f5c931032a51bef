/-
  slices.Backward at a row of numbers: the iterator hands on each place and the number there, from the last one on.
-/
import Derived.Test.YtncodnjnndjjaaaPwB
import Derived.RangeFuncNested
import Derived.RangeFuncCalls
import Derived.RangeFuncLeaves
import Derived.RangeFuncFrom
import Derived.Shelf.Abstract
import Derived.WalkKit
import Derived.OwnWalkIn
import Derived.TacticsInMore
import Derived.LoopNIn
import Derived.LoopIn
namespace Go.Proofs.Ytncodnjnndjjaaa
open Go.RowKit Go.Shelf

attribute [local go_sem] Oper.semAt_some

/-- a place of a list and its number -/
abbrev Plc (z : List Int) : Type := { x : Nat × Int // ∃ h : x.1 < z.length, z[x.1] = x.2 }
def plc (z : List Int) (i : Nat) (h : i < z.length) : Plc z := ⟨(i, z[i]), h, rfl⟩
/-- the last `k` places, from the last one on -/
def bwd (z : List Int) : (k : Nat) → k ≤ z.length → List (Plc z)
  | 0, _ => []
  | k + 1, h => bwd z k (by omega) ++ [plc z (z.length - 1 - k) (by omega)]
theorem bwd_length (z : List Int) : ∀ (k : Nat) (h : k ≤ z.length), (bwd z k h).length = k
  | 0, _ => rfl
  | k + 1, h => by rw [bwd, List.length_append, bwd_length z k (by omega)]; rfl
theorem bwd_pre (z : List Int) {k : Nat} (hk : k ≤ z.length) : ∀ (d : Nat) (h : k + d ≤ z.length), ∃ t, bwd z (k + d) h = bwd z k hk ++ t
  | 0, _ => ⟨[], by simp⟩
  | d + 1, h => by
    obtain ⟨t, ht⟩ := bwd_pre z hk d (by omega)
    exact ⟨t ++ [plc z (z.length - 1 - (k + d)) (by omega)], show bwd z ((k + d) + 1) h = _ from by rw [bwd, ht, List.append_assoc]⟩
def encP (z : List Int) (x : Plc z) : Array Value := #[.int .i64 (x.1.1 : Int), .int .i64 x.1.2]

/-- what a round keeps: what lay below `n₀`, and the box of the list -/
def KpB (n₀ Bs : Nat) (A B : World) : Prop := Below n₀ A B ∧ ∀ v, A.cell? ⟨Bs, 0, none⟩ = some v → B.cell? ⟨Bs, 0, none⟩ = some v
theorem kpB_t {n₀ Bs : Nat} {A B C : World} (h : KpB n₀ Bs A B) (k : KpB n₀ Bs B C) : KpB n₀ Bs A C := ⟨h.1.trans k.1, fun v e => k.2 v (h.2 v e)⟩
theorem kpB_b {n₀ Bs : Nat} {w : World} (hn : n₀ ≤ w.heap.size) (W : World) (l : Nat) (o o' : Obj) (hl : w.heap.size ≤ l) (h : W.heap[l]? = some o) (ho : o.isCells = false) (hk : o.isWalk = false) : KpB n₀ Bs W (W.putObj l o') :=
  ⟨belowK_b hn W l o o' hl h ho hk, fun v e => cell_kept e (grownBy_putObj' W l o') (fun r e2 => by cases e2; exact ⟨o, h, ho⟩)⟩

set_option maxRecDepth 100000 in
set_option maxHeartbeats 2000000 in
theorem backward1_in (F : Fence) (n : Nat) (hF : F.fn 65) (hro : F.round = none) (hn : 1 ≤ n) (l Bs n₀ b off cap : Nat) (z : List Int) (hl : z.length ≤ 1048576) (hb : b < n₀) (J Jx : List (Plc z) → World → Prop)
    (hY : ∀ pre x W, J pre W → pre.length < z.length → YieldAt F (n - 1) Try.prog l (encP z x) W fun e W' =>
      (e = .returned (.bool true) ∧ J (pre ++ [x]) W' ∧ KpB n₀ Bs W W') ∨ (e = .returned (.bool false) ∧ Jx (pre ++ [x]) W'))
    (W : World) (hBs : W.cell? ⟨Bs, 0, none⟩ = some (.slice (some ⟨b, off, none⟩) z.length cap)) (hc : IntsIn W b off z) (h0 : J [] W) :
    CallsIn F n Try.prog 65 #[.func (.yield l) #[] #[], .pointer (some ⟨Bs, 0, none⟩)] W fun e W' => (∃ v, e = .returned v) ∧
      (J (bwd z z.length (Nat.le_refl _)) W' ∨ (∃ k, ∃ h : k ≤ z.length, Jx (bwd z k h) W')) := by
  have HC := Lib.hid hc
  clear hc
  refine callsIn_of_wp Try.func65 rfl hF ?_ hro
  simp only [Try.ntmps65, List.size_toArray, List.length_cons, List.length_nil, Nat.reduceAdd, Nat.reduceSub, Array.replicate_succ, Array.replicate_zero, List.push_toArray, List.append_toArray, List.nil_append, List.cons_append]
  have k0 : IntKind.i64.wrap ((z.length : Int) - 1) = (z.length : Int) - 1 := IntWalk.i64_in _ (by omega)
  gi_wp2
  gi_loopw [3] (fun i wr => ∃ k : Nat, ∃ h : k ≤ z.length, i = .int .i64 ((z.length : Int) - 1 - k) ∧ J (bwd z k h) wr ∧ KpB n₀ Bs W wr)
    (fun i _ => (intOf i + 1).toNat)
  case atStart => exact ⟨0, Nat.zero_le _, by simp, h0, Below.refl _ _, fun _ h => h⟩
  case round =>
    obtain ⟨k, hk, rfl, hJs, hnx⟩ := hrel
    have hbs' := hnx.2 _ hBs
    by_cases hlt : k < z.length
    · have hlt' : z.length - 1 - k < z.length := by omega
      obtain ⟨x, hx⟩ : ∃ x : Plc z, plc z (z.length - 1 - k) hlt' = x := ⟨_, rfl⟩
      obtain ⟨⟨i, v⟩, hi, hv⟩ := x
      have hxi : z.length - 1 - k = i := congrArg (fun y : Plc z => y.1.1) hx
      have hc1 := (HC.out.below hnx.1 hb) i hi
      simp only at hi hv
      rw [hv] at hc1
      have hii : (z.length : Int) - 1 - k = (i : Int) := by omega
      rw [hii]
      obtain ⟨fn, tmps, assign, body, hy, hR⟩ := hY _ ⟨(i, v), hi, hv⟩ wr hJs (by rw [bwd_length]; exact hlt)
      dsimp only [encP] at hy
      have e0 : (0 : Int) ≤ (i : Int) := by omega
      have e1 : (i : Int) < (z.length : Int) := by omega
      have k1 : IntKind.i64.wrap ((i : Int) - 1) = (i : Int) - 1 := IntWalk.i64_in _ (by omega)
      gi_wp2
      refine hR.mono ?_
      rintro e W3 (⟨rfl, hJ3, hk3⟩ | ⟨rfl, hJx3⟩)
      · gi_wp2
        go_roundw
        case rel => exact ⟨k + 1, by omega, by rw [show (i : Int) - 1 = (z.length : Int) - 1 - ((k + 1 : Nat) : Int) from by omega], by rw [bwd, hx]; exact hJ3, kpB_t hnx hk3⟩
        case measure => simp [intOf]
      · gi_wp2
        refine bodyPost_ret (results_none rfl _ _ _) rfl ?_
        exact ⟨⟨_, rfl⟩, .inr ⟨k + 1, by omega, by rw [bwd, hx]; exact hJx3⟩⟩
    · obtain rfl : k = z.length := by omega
      have e1 : (z.length : Int) - 1 - (z.length : Int) = -1 := by omega
      rw [e1]
      gi_wp2
      go_end0
      exact ⟨⟨_, rfl⟩, .inl hJs⟩

set_option maxRecDepth 100000 in
set_option maxHeartbeats 1000000 in
theorem backward1_nil_in (F : Fence) (n : Nat) (hF : F.fn 65) (hro : F.round = none) (l Bs cap : Nat) (a : Option Addr) (J : List (Plc []) → World → Prop) (W : World) (hBs : W.cell? ⟨Bs, 0, none⟩ = some (.slice a 0 cap)) (h0 : J [] W) :
    CallsIn F n Try.prog 65 #[.func (.yield l) #[] #[], .pointer (some ⟨Bs, 0, none⟩)] W fun e W' => (∃ v, e = .returned v) ∧ J [] W' := by
  refine callsIn_of_wp Try.func65 rfl hF ?_ hro
  simp only [Try.ntmps65, List.size_toArray, List.length_cons, List.length_nil, Nat.reduceAdd, Nat.reduceSub, Array.replicate_succ, Array.replicate_zero, List.push_toArray, List.append_toArray, List.nil_append, List.cons_append]
  gi_wp2
  gi_loopw [3] (fun i wr => i = .int .i64 (-1) ∧ J [] wr) (fun _ _ => 0)
  case atStart => exact ⟨rfl, h0⟩
  case round =>
    obtain ⟨rfl, hJs⟩ := hrel
    gi_wp2
    go_end0
    exact ⟨⟨_, rfl⟩, hJs⟩

set_option maxHeartbeats 1000000 in
theorem backward_c (a : Option Addr) (len cap : Nat) (w : World) :
    Calls Try.prog 45 #[.slice a len cap] w fun e w' => e = .returned (.func (.func 65) #[] #[.pointer (some ⟨w.heap.size, 0, none⟩)]) ∧ w' = w.alloc (.cells #[.slice a len cap] 29) := by
  go_enter Try.func45, Try.ntmps45
  go_wp2
  go_ret
  exact ⟨rfl, rfl⟩

theorem backward_stops (F : Fence) (n : Nat) (hF : F.fn 65) (hro : F.round = none) (hn : 1 ≤ n) (Bs n₀ lo hi : Nat) (a : Option Addr) (cap : Nat) (z : List Int) (hl : z.length ≤ 1048576) (w : World) (hs : Bs < w.heap.size) (hn₀ : n₀ ≤ w.heap.size) (hh : hi ≤ n₀)
    (hc : w.cell? ⟨Bs, 0, none⟩ = some (.slice a z.length cap)) (hI : IRow lo hi w a z) :
    SeqStopsK F n Try.prog 65 #[.pointer (some ⟨Bs, 0, none⟩)] (encP z) (KpB n₀ Bs) (fun ys => ys = bwd z z.length (Nat.le_refl _)) (fun pre => ∃ k, ∃ h : k ≤ z.length, pre = bwd z k h) z.length w := fun l J Jx W hW _ _ hY h0 => by
  have hc' := (hW.cell (p := ⟨Bs, 0, none⟩) hs).trans hc
  rcases hI with rfl | ⟨b, off, rfl, _, hb, hi'⟩
  · exact (backward1_nil_in F n hF hro l Bs cap a J W hc' h0).mono fun e W' ⟨he, hj⟩ => ⟨he, .inl ⟨_, rfl, hj⟩⟩
  · refine (backward1_in F n hF hro hn l Bs n₀ b off cap z hl (by omega) J Jx hY W hc' (hi'.below hW (by omega)) h0).mono ?_
    rintro e W' ⟨he, hj | ⟨k, h, hj⟩⟩
    · exact ⟨he, .inl ⟨_, rfl, hj⟩⟩
    · exact ⟨he, .inr ⟨_, ⟨k, h, rfl⟩, hj⟩⟩
end Go.Proofs.Ytncodnjnndjjaaa
