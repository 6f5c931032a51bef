/-
  A fraction that has to fit (else the call panics), a value of a map, a value that is put: contracts of fitting, at, put.
  The program's product of two maps of values: it is made, or a fraction does not fit and the call panics.
  The door of a space: what work makes is turned into a series; where it panics with a fraction that does not fit, the door returns the code.
-/
import Derived.Test.YtdgkkcjjfpenpaaGreatDoorPrM
import Derived.Test.YtdgkkcjjfpenpaaGreatDoorAddP
import Derived.Test.YtdgkkcjjfpenpaaGreatDoorUnitS
import Derived.WalkLawsBesides
import Derived.Defers
import Derived.Recover
import Derived.Deep.RegionHeld3
import Derived.RegionTactic
namespace Go.Proofs.YtdgkkcjjfpenpaaGreatDoor
open Go.RowKit

theorem gr_below {w w' : World} {r : Option Nat} (h : Below w.heap.size w w') : w.grownBy w' r := ⟨h.os, h.tape, h.output, h.size, fun k hk _ => h.block k hk⟩
theorem gr_trans {a b c : World} {r : Option Nat} (h : a.grownBy b r) (k : b.grownBy c r) : a.grownBy c r :=
  ⟨k.os.trans h.os, k.tape.trans h.tape, k.output.trans h.output, Nat.le_trans h.size k.size, fun i hi hne => (k.block i (Nat.lt_of_lt_of_le hi h.size) hne).trans (h.block i hi hne)⟩
/-- the panic of a fraction that does not fit -/
def misP (c : Int) : PanicEntry := { v := .iface 116 (.agg #[.int .i64 c]), recovered := false }
/-- what a fraction that has to fit comes to -/
def FitPost (r : Option (Int × Int)) (W : World) (e : Ending) (w' : World) : Prop :=
  match r with
  | none => e = .panicked [misP 3] ∧ Below W.heap.size W w'
  | some p => e = .returned (.agg #[.int .i64 p.1, .int .i64 p.2]) ∧ Below W.heap.size W w'
/-- what values of a map that have to fit come to -/
def WorkPost (r : Option VF) (W : World) (e : Ending) (w' : World) : Prop :=
  match r with
  | none => e = .panicked [misP 3] ∧ Below W.heap.size W w'
  | some h => ∃ b n, e = .returned (.map (some b)) ∧ W.heap.size ≤ b ∧ Below W.heap.size W w' ∧ n ≤ 1048576 ∧ MapV w' b n h

set_option maxHeartbeats 1000000 in
theorem fitting_ok (n d : Int) (w : World) : Calls Tryz.prog 71 #[.agg #[.int .i64 n, .int .i64 d], .int .i64 0] w fun e w' => e = .returned (.agg #[.int .i64 n, .int .i64 d]) ∧ Below w.heap.size w w' := by
  go_enter Tryz.func71, Tryz.ntmps71
  go_wp2
  exact bodyPost_ret (v := .agg #[.int .i64 n, .int .i64 d]) (by simp [results, Tryz.results71, go_sem]) rfl ⟨rfl, by go_grown⟩
set_option maxHeartbeats 1000000 in
theorem fitting_no (n d : Int) (w : World) : Calls Tryz.prog 71 #[.agg #[.int .i64 n, .int .i64 d], .int .i64 3] w fun e w' => e = .panicked [misP 3] ∧ Below w.heap.size w w' := by
  go_enter Tryz.func71, Tryz.ntmps71
  go_wp2
  exact ⟨rfl, rfl, below2 _ _ _⟩
/-- a call that panics, in a region that draws its order: what would follow is laid behind a hidden False, for the walk asks that something follow -/
theorem fitting_dead (n d : Int) (w : World) (R : Ending → World → Prop) (hp : ∀ w', Below w.heap.size w w' → R (.panicked [misP 3]) w') (_hr : Hid False → R (.returned (.agg #[.int .i64 n, .int .i64 d])) w) : Calls Tryz.prog 71 #[.agg #[.int .i64 n, .int .i64 d], .int .i64 3] w R := by
  refine (fitting_no n d w).mono ?_
  rintro e w' ⟨rfl, hb⟩
  exact hp w' hb
theorem dead_of {f : FuncId} {args : Array Value} {w : World} {R : Ending → World → Prop} (v : Value) (h : Calls Tryz.prog f args w (WorkPost none w)) (hp : ∀ w', Below w.heap.size w w' → R (.panicked [misP 3]) w') (_h : Hid False → R (.returned v) w) : Calls Tryz.prog f args w R := by
  refine h.mono ?_
  rintro e w' ⟨rfl, hb⟩
  exact hp w' hb
theorem dead_call (hF : Hid False) {f : FuncId} {args : Array Value} {w : World} {R : Ending → World → Prop} (v : Value) (_h : R (.returned v) w) : Calls Tryz.prog f args w R := hF.out.elim
set_option maxHeartbeats 1000000 in
theorem at_c (b n : Nat) (f : VF) (s : ByteArray) (hs : s.size ≤ maxLen) (w : World) (hm : MapV w b n f) : Calls Tryz.prog 85 #[.map (some b), .string s] w fun e w' => e = .returned (.agg #[.int .i64 (valF f s).1, .int .i64 (valF f s).2]) ∧ Below w.heap.size w w' := by
  have HM := Lib.hid (hm.alloc (.cells #[.int .i64 0, .int .i64 0] 44))
  clear hm
  cases hf : f s with
  | none =>
    have HF := Lib.hid hf
    have HV := Lib.hid (valF_none hf)
    clear hf
    rw [HV.out]
    go_enter Tryz.func85, Tryz.ntmps85
    go_wp2_with (first | (at_lookup; refine wpList_lookV rfl _ _ rfl rfl HM.out s rfl hs ?_; rw [HF.out]; simp only [lookV]) | fail)
    refine (wholeFraction_c _ _).mono ?_
    rintro e w1 ⟨rfl, hb⟩
    have hB := hb
    simp only [World.size_alloc] at hB
    have bc := bcellB hB
    have r0 : w1.cell? ⟨w.heap.size, 0, none⟩ = some (.int .i64 0) := (bc.1 _ _ (by omega)).trans (by go_simp)
    have r1 : w1.cell? ⟨w.heap.size, 1, none⟩ = some (.int .i64 0) := (bc.1 _ _ (by omega)).trans (by go_simp)
    have z0 : w1.frozen? ⟨w.heap.size, 0, none⟩ = false := (bc.2 _ _ (by omega)).trans (by go_simp)
    have z1 : w1.frozen? ⟨w.heap.size, 1, none⟩ = false := (bc.2 _ _ (by omega)).trans (by go_simp)
    have hW := (below2 w _ _).trans (hB.mono (by omega))
    have hz : w.heap.size < w1.heap.size := by have := hB.size; simp at this; omega
    clear bc hb hB
    go_wp2
    exact bodyPost_ret (v := .agg #[.int .i64 0, .int .i64 1]) (by simp [results, Tryz.results85, go_sem, r0, r1]) rfl ⟨rfl, by go_grown⟩
  | some p =>
    obtain ⟨x, d⟩ := p
    have HF := Lib.hid hf
    have HV := Lib.hid (valF_some hf)
    clear hf
    rw [HV.out]
    go_enter Tryz.func85, Tryz.ntmps85
    go_wp2_with (at_lookup; refine wpList_lookV rfl _ _ rfl rfl HM.out s rfl hs ?_; rw [HF.out]; simp only [lookV])
    exact bodyPost_ret (v := .agg #[.int .i64 x, .int .i64 d]) (by simp [results, Tryz.results85, go_sem]) rfl ⟨rfl, by go_grown⟩
set_option maxRecDepth 100000 in
set_option maxHeartbeats 1000000 in
theorem put_c (b n : Nat) (f : VF) (s : ByteArray) (x d : Int) (hF : isF x d = true) (hn : n ≤ 1048576) (hs : s.size ≤ maxLen) (w : World) (hm : MapV w b n f) : Calls Tryz.prog 83 #[.map (some b), .string s, .agg #[.int .i64 x, .int .i64 d]] w fun e w' => e = .returned (.tuple #[]) ∧ MapV w' b (n + 1) (setF f s (nzF (x, d))) ∧ w.grownBy w' (some b) := by
  have hn2 : n < maxLen := by unfold maxLen; omega
  have hlt := hm.lt
  have HM := Lib.hid hm
  clear hm hn
  by_cases h0 : x = 0
  · subst h0
    obtain rfl := isF_zero hF
    have HN := Lib.hid (show nzF (0, 1) = none from nzF_0 rfl)
    rw [HN.out]
    go_enter Tryz.func83, Tryz.ntmps83
    go_wp2_with fail
    refine (isZero_c 0 1 _).mono ?_
    rintro e w1 ⟨rfl, hb⟩
    have HB := Lib.hid ((below1 w _).trans (hb.mono (by simp)))
    have HM1 := Lib.hid (HM.out.below HB.out hlt)
    clear hb
    go_wp2_with (at_delete; refine wpList_delV rfl _ _ rfl rfl HM1.out s rfl hs ?_)
    intro w2 hM2 hT2
    have HM2 := Lib.hid (hM2.mono (Nat.le_succ _))
    have HG2 := Lib.hid (gr_trans (gr_below HB.out) hT2.grown)
    clear hM2 hT2
    go_wp2
    first | go_end0 | refine bodyPost_ret (results_none rfl _ _ _) rfl ?_
    exact ⟨rfl, HM2.out, HG2.out⟩
  · have HN := Lib.hid (show nzF (x, d) = some (x, d) from nzF_1 h0)
    have hne : (x == 0) = false := by simpa using h0
    rw [HN.out]
    go_enter Tryz.func83, Tryz.ntmps83
    go_wp2_with fail
    refine (isZero_c x d _).mono ?_
    rw [hne]
    rintro e w1 ⟨rfl, hb⟩
    have HB := Lib.hid ((below1 w _).trans (hb.mono (by simp)))
    have hB := hb
    simp only [World.size_alloc] at hB
    have bc := bcellB hB
    have r0 : w1.cell? ⟨w.heap.size, 0, none⟩ = some (.int .i64 x) := (bc.1 _ _ (by omega)).trans (by go_simp)
    have r1 : w1.cell? ⟨w.heap.size, 1, none⟩ = some (.int .i64 d) := (bc.1 _ _ (by omega)).trans (by go_simp)
    have HM1 := Lib.hid (HM.out.below HB.out hlt)
    clear hb hB bc
    go_wp2_with (refine wpList_putV rfl _ _ _ (.inl rfl) rfl HM1.out hn2 s rfl hs x d rfl ?_)
    intro w2 hM2 hT2
    have HM2 := Lib.hid hM2
    have HG2 := Lib.hid (gr_trans (gr_below HB.out) hT2)
    clear hM2 hT2
    go_wp2
    first | go_end0 | refine bodyPost_ret (results_none rfl _ _ _) rfl ?_
    exact ⟨rfl, HM2.out, HG2.out⟩
end Go.Proofs.YtdgkkcjjfpenpaaGreatDoor

namespace Go.Proofs.YtdgkkcjjfpenpaaGreatDoor
open Go.RowKit

theorem lookV_any (o : Option (Int × Int)) : ∃ (x d : Int) (t : Bool), lookV o = .tuple #[.agg #[.int .i64 x, .int .i64 d], .bool t] ∧ (t = true → o = some (x, d)) ∧ (t = false → o = none) := by
  cases o with
  | none => exact ⟨0, 0, false, rfl, fun h => by (cases h), fun _ => rfl⟩
  | some p => exact ⟨p.1, p.2, true, rfl, fun _ => rfl, fun h => by (cases h)⟩
theorem apR_apS (a b n d p q : Int) : apR a b n d p q = match apS a b n d p q with | none => (0, 0, 3) | some r => (r.1, r.2, 0) := by
  cases hok : fOk (n * p) (d * q) with
  | false => rw [apS_bad1 hok]; unfold apR; rw [hok]; rfl
  | true =>
    cases hok2 : fOk (a * fD (n * p) (d * q) + fN (n * p) (d * q) * b) (b * fD (n * p) (d * q)) with
    | false =>
      rw [apS_bad2 hok rfl rfl hok2]
      unfold apR
      rw [hok, if_pos rfl, q3_no hok2]
    | true =>
      rw [apS_good hok rfl rfl hok2]
      unfold apR
      rw [hok, if_pos rfl, q3_yes hok2]

end Go.Proofs.YtdgkkcjjfpenpaaGreatDoor

namespace Go.Proofs.YtdgkkcjjfpenpaaGreatDoor
open Go.RowKit

set_option maxRecDepth 100000 in
set_option maxHeartbeats 1000000 in
theorem codeOfPanic_c (c : Int) (w : World) : Calls Tryz.prog 81 #[.iface 116 (.agg #[.int .i64 c])] w fun e w' => e = .returned (.int .i64 c) ∧ Below w.heap.size w w' := by
  have hta : ∀ W : World, (Instr.typeAssert (.iface 116 (.agg #[.int .i64 c])) 20 116 true).run Tryz.prog W = .ok (.tuple #[.agg #[.int .i64 c], .bool true]) W := fun _ => by kernel_rfl
  go_enter Tryz.func81, Tryz.ntmps81
  go_wp2
  go_ret
  exact ⟨rfl, below1 _ _⟩

set_option maxRecDepth 100000 in
set_option maxHeartbeats 1000000 in
theorem catch_idle (p q : Addr) (w : World) :
    CallsD Tryz.prog 80 #[.pointer (some p), .pointer (some q)] .returning w fun e u' w' => e = .returned (.tuple #[]) ∧ u' = .returning ∧ w' = w := by
  refine callsD_of_wpS Tryz.func80 rfl fun c₀ cs hu => ?_
  apply wpS_seq
  apply wpS_region
  simp [wpOpsS, go_sem, recoverD, hu, Tryz.ntmps80, Exit.thenS]
  apply wpS_seq
  apply wpS_region
  simp [wpOpsS, go_sem, Exit.thenS]
  refine wpS_cond (t := false) (by simp [Act.eval, Array.replicate]) ?_
  simp only [Bool.false_eq_true, if_false]
  refine wpS_of_wp (wp_skip ?_)
  cases c₀
  simp_all [bodyPostS, results, Tryz.results80]
set_option maxRecDepth 100000 in
set_option maxHeartbeats 1000000 in
theorem catch_panicking (r c : Nat) (w : World) (h0 : Z3 w r) (h1 : w.cell? ⟨c, 0, none⟩ = some (.int .i64 0)) (h2 : w.frozen? ⟨c, 0, none⟩ = false) (hc : c < w.heap.size) (hrc : r < c) (older : List PanicEntry) :
    CallsD Tryz.prog 80 #[.pointer (some ⟨r, 0, none⟩), .pointer (some ⟨c, 0, none⟩)] (.panicking (misP 3 :: older)) w fun e u' w' =>
      e = .returned (.tuple #[]) ∧ u' = .panicking ({ misP 3 with recovered := true } :: older) ∧ ∃ w1, Below w.heap.size w w1 ∧ w' = (((w1.setCell ⟨r, 0, none⟩ (.int .i64 0)).setCell ⟨r, 1, none⟩ (.int .i64 0)).setCell ⟨r, 2, none⟩ (.slice none 0 0)).setCell ⟨c, 0, none⟩ (.int .i64 3) := by
  refine callsD_of_wpS Tryz.func80 rfl fun c₀ cs hu => ?_
  apply wpS_seq
  apply wpS_region
  unfold misP at hu
  simp [wpOpsS, go_sem, recoverD, hu, Tryz.ntmps80, Exit.thenS]
  apply wpS_seq
  apply wpS_region
  simp [wpOpsS, go_sem, Exit.thenS]
  refine wpS_cond (t := true) (by simp [Act.eval, Array.replicate]) ?_
  simp only [if_true]
  refine wpS_of_wp ?_
  go_wp2_with fail
  refine (codeOfPanic_c 3 _).mono ?_
  rintro e w1 ⟨rfl, hb⟩
  have HB := Lib.hid hb
  have z := h0.below hb h0.1
  have q0 := z.2.1
  have q1 := z.2.2.1
  have q2 := z.2.2.2.1
  have q3 := z.2.2.2.2.1
  have q4 := z.2.2.2.2.2.1
  have q5 := z.2.2.2.2.2.2
  have q6 := (hb.cell (p := ⟨c, 0, none⟩) hc).trans h1
  have q7 := (hb.frozen (p := ⟨c, 0, none⟩) hc).trans h2
  clear hb h0 h1 h2 z
  go_wp2
  refine ⟨rfl, _, rfl, .tuple #[], ?_, rfl, rfl, w1, HB.out, ?_⟩
  · simp [results, Tryz.results80]
  · rfl
theorem far_ser {g n o : Nat} {u v x : Value} {w' : World} (h : g ≠ n) : (((w'.setCell ⟨g, 0, none⟩ u).setCell ⟨g, 1, none⟩ v).setCell ⟨g, 2, none⟩ x).cell? ⟨n, o, none⟩ = w'.cell? ⟨n, o, none⟩ := by
  rw [World.cell?_setCell_far _ _ _ _ (by show g ≠ n; exact h), World.cell?_setCell_far _ _ _ _ (by show g ≠ n; exact h), World.cell?_setCell_far _ _ _ _ (by show g ≠ n; exact h)]
theorem far_ser4 {g c n o : Nat} {u v x y : Value} {w' : World} (h : g ≠ n) (h2 : c ≠ n) : ((((w'.setCell ⟨g, 0, none⟩ u).setCell ⟨g, 1, none⟩ v).setCell ⟨g, 2, none⟩ x).setCell ⟨c, 0, none⟩ y).cell? ⟨n, o, none⟩ = w'.cell? ⟨n, o, none⟩ := by
  rw [World.cell?_setCell_far _ _ _ _ (by show c ≠ n; exact h2), far_ser h]
/-- the way out by a panic: the deferred closure turns it into the code -/
theorem leaves_no (x0 x1 x2 x3 x6 x7 x8 x9 x10 : Value) (w w1 : World) (r : Nat) (hr : w.heap.size ≤ r) (hB : Below w.heap.size w w1) (hZ : Z3 w1 r) (h1 : w1.cell? ⟨r + 1, 0, none⟩ = some (.int .i64 0)) (h2 : w1.frozen? ⟨r + 1, 0, none⟩ = false) (hc : r + 1 < w1.heap.size) :
    Leaves Tryz.prog Tryz.f69 #[x0, x1, x2, x3, .pointer (some ⟨r, 0, none⟩), .pointer (some ⟨r + 1, 0, none⟩), x6, x7, x8, x9, x10] (fun e w' => e = .returned (.tuple #[.agg #[.int .i64 0, .int .i64 0, .slice none 0 0], .int .i64 3]) ∧ Below w.heap.size w w')
      [{ target := .fn (.func 80) #[.pointer (some ⟨r, 0, none⟩), .pointer (some ⟨r + 1, 0, none⟩)], args := #[] }] (.panicking [misP 3]) w1 := by
  refine leaves_cons (f := 80) (args := #[.pointer (some ⟨r, 0, none⟩), .pointer (some ⟨r + 1, 0, none⟩)]) (by simp) (by simp [go_sem]) ?_
  refine (catch_panicking r (r + 1) w1 hZ h1 h2 hc (Nat.lt_succ_self r) []).mono ?_
  rintro e u' w2 ⟨rfl, rfl, w3, hb3, rfl⟩
  have hW : Below w.heap.size w w3 := hB.trans (hb3.mono hB.size)
  have z := hZ.below hb3 hZ.1
  have c0 := (hb3.cell (p := ⟨r + 1, 0, none⟩) hc).trans h1
  have q0 := z.2.1
  have q1 := z.2.2.1
  have q2 := z.2.2.2.1
  refine ⟨.tuple #[.agg #[.int .i64 0, .int .i64 0, .slice none 0 0], .int .i64 3], ?_, rfl, ?_⟩
  · simp [results, Tryz.results69, go_sem, q0, q1, q2, c0]
  · exact (((hW.setCell (p := ⟨r, 0, none⟩) hr _).setCell (p := ⟨r, 1, none⟩) hr _).setCell (p := ⟨r, 2, none⟩) hr _).setCell (p := ⟨r + 1, 0, none⟩) (by show _ ≤ r + 1; omega) _
theorem leaves_yes (x0 x1 x2 x3 x6 x7 x8 x9 x10 y0 y1 y2 : Value) (w1 : World) (r : Nat) (R : Ending → World → Prop) (hR : R (.returned (.tuple #[.agg #[y0, y1, y2], .int .i64 0])) w1) (h0 : w1.cell? ⟨r, 0, none⟩ = some y0) (h1 : w1.cell? ⟨r, 1, none⟩ = some y1) (h2 : w1.cell? ⟨r, 2, none⟩ = some y2) (h3 : w1.cell? ⟨r + 1, 0, none⟩ = some (.int .i64 0)) :
    Leaves Tryz.prog Tryz.f69 #[x0, x1, x2, x3, .pointer (some ⟨r, 0, none⟩), .pointer (some ⟨r + 1, 0, none⟩), x6, x7, x8, x9, x10] R
      [{ target := .fn (.func 80) #[.pointer (some ⟨r, 0, none⟩), .pointer (some ⟨r + 1, 0, none⟩)], args := #[] }] .returning w1 := by
  refine leaves_cons (f := 80) (args := #[.pointer (some ⟨r, 0, none⟩), .pointer (some ⟨r + 1, 0, none⟩)]) (by simp) (by simp [go_sem]) ?_
  refine (catch_idle ⟨r, 0, none⟩ ⟨r + 1, 0, none⟩ w1).mono ?_
  rintro e u' w2 ⟨rfl, rfl, rfl⟩
  exact ⟨_, by simp [results, Tryz.results69, go_sem, h0, h1, h2, h3], hR⟩

set_option maxRecDepth 100000 in
set_option maxHeartbeats 4000000 in
theorem door_no (L V : Int) (a : Option Addr) (n cap : Nat) (k : FuncId) (caps : Array Value) (hk : ∀ W : World, (callFunc k caps).run Tryz.prog W = .ok (.enter k caps) W) (w : World) (hW : ∀ W, Below w.heap.size w W → Calls Tryz.prog k caps W (WorkPost none W)) :
    Calls Tryz.prog 69 #[.agg #[.int .i64 L, .int .i64 V, .slice a n cap], .func (.func k) #[] caps] w fun e w' => e = .returned (.tuple #[.agg #[.int .i64 0, .int .i64 0, .slice none 0 0], .int .i64 3]) ∧ Below w.heap.size w w' := by
  have hmf : ∀ (fn : Fn) (first cap : Array Value) (w : World), (Instr.makeFunc fn first cap).run Tryz.prog w = .ok (.func fn first cap) w := fun _ _ _ _ => rfl
  have HW := Lib.hid hW
  have HK := Lib.hid hk
  clear hW hk
  go_enter_defers Tryz.func69, Tryz.ntmps69
  go_upto_region 2 with fail
  have HB0 := Lib.hid (below3 w (.cells #[.int .i64 L, .int .i64 V, .slice a n cap] 78) (.cells #[.int .i64 0, .int .i64 0, .slice none 0 0] 24) (.cells #[.int .i64 0] 2))
  have HZ := Lib.hid (show Z3 (((w.alloc (.cells #[.int .i64 L, .int .i64 V, .slice a n cap] 78)).alloc (.cells #[.int .i64 0, .int .i64 0, .slice none 0 0] 24)).alloc (.cells #[.int .i64 0] 2)) (w.heap.size + 1) from ⟨by simp, by go_simp, by go_simp, by go_simp, by go_simp, by go_simp, by go_simp⟩)
  have HC := Lib.hid (show (((w.alloc (.cells #[.int .i64 L, .int .i64 V, .slice a n cap] 78)).alloc (.cells #[.int .i64 0, .int .i64 0, .slice none 0 0] 24)).alloc (.cells #[.int .i64 0] 2)).cell? ⟨w.heap.size + 1 + 1, 0, none⟩ = some (.int .i64 0) ∧ (((w.alloc (.cells #[.int .i64 L, .int .i64 V, .slice a n cap] 78)).alloc (.cells #[.int .i64 0, .int .i64 0, .slice none 0 0] 24)).alloc (.cells #[.int .i64 0] 2)).frozen? ⟨w.heap.size + 1 + 1, 0, none⟩ = false from ⟨by go_simp, by go_simp⟩)
  have HS := Lib.hid (show (((w.alloc (.cells #[.int .i64 L, .int .i64 V, .slice a n cap] 78)).alloc (.cells #[.int .i64 0, .int .i64 0, .slice none 0 0] 24)).alloc (.cells #[.int .i64 0] 2)).heap.size = w.heap.size + 1 + 1 + 1 from by simp)
  have s0 : (((w.alloc (.cells #[.int .i64 L, .int .i64 V, .slice a n cap] 78)).alloc (.cells #[.int .i64 0, .int .i64 0, .slice none 0 0] 24)).alloc (.cells #[.int .i64 0] 2)).cell? ⟨w.heap.size, 0, none⟩ = some (.int .i64 L) := by go_simp
  have s1 : (((w.alloc (.cells #[.int .i64 L, .int .i64 V, .slice a n cap] 78)).alloc (.cells #[.int .i64 0, .int .i64 0, .slice none 0 0] 24)).alloc (.cells #[.int .i64 0] 2)).cell? ⟨w.heap.size, 1, none⟩ = some (.int .i64 V) := by go_simp
  have s2 : (((w.alloc (.cells #[.int .i64 L, .int .i64 V, .slice a n cap] 78)).alloc (.cells #[.int .i64 0, .int .i64 0, .slice none 0 0] 24)).alloc (.cells #[.int .i64 0] 2)).cell? ⟨w.heap.size, 2, none⟩ = some (.slice a n cap) := by go_simp
  generalize (((w.alloc (.cells #[.int .i64 L, .int .i64 V, .slice a n cap] 78)).alloc (.cells #[.int .i64 0, .int .i64 0, .slice none 0 0] 24)).alloc (.cells #[.int .i64 0] 2)) = wz at *
  have HEnd : Hid (∀ (x0 x1 x2 x3 x6 x7 x8 x9 x10 : Value) (w1 : World), Below wz.heap.size wz w1 → Leaves Tryz.prog Tryz.f69 #[x0, x1, x2, x3, .pointer (some ⟨w.heap.size + 1, 0, none⟩), .pointer (some ⟨w.heap.size + 1 + 1, 0, none⟩), x6, x7, x8, x9, x10] (fun e w' => e = .returned (.tuple #[.agg #[.int .i64 0, .int .i64 0, .slice none 0 0], .int .i64 3]) ∧ Below w.heap.size w w')
      [{ target := .fn (.func 80) #[.pointer (some ⟨w.heap.size + 1, 0, none⟩), .pointer (some ⟨w.heap.size + 1 + 1, 0, none⟩)], args := #[] }] (.panicking [misP 3]) w1) := Lib.hid (fun x0 x1 x2 x3 x6 x7 x8 x9 x10 w1 hb1 => by
    have hs := HS.out
    have hz := hb1.size
    exact leaves_no x0 x1 x2 x3 x6 x7 x8 x9 x10 w w1 (w.heap.size + 1) (by omega) (HB0.out.trans (hb1.mono (by omega))) (HZ.out.below hb1 (by omega)) ((hb1.cell (p := ⟨w.heap.size + 1 + 1, 0, none⟩) (by show w.heap.size + 1 + 1 < _; omega)).trans HC.out.1) ((hb1.frozen (p := ⟨w.heap.size + 1 + 1, 0, none⟩) (by show w.heap.size + 1 + 1 < _; omega)).trans HC.out.2) (by omega))
  refine wp_region_any (by kernel_rfl) ?_
  change wpAny _ _ _ _ _ _ _ (World.drew _)
  refine wpAny_ready (rs := [0, 1]) (by kernel_rfl) (by simp) ?_
  refine AllReady.cons rfl (fun K hK => ?_) (AllReady.cons rfl (fun K hK => ?_) AllReady.nil)
  · go_simp
    refine hK _ _ ?_; clear hK K
    refine wpAny_ready (rs := [1]) (by kernel_rfl) (by simp) ?_
    refine AllReady.cons rfl (fun K hK => ?_) AllReady.nil
    go_simp
    refine hK _ _ ?_; clear hK K
    refine wpAny_ready (rs := [2]) (by kernel_rfl) (by simp) ?_
    refine AllReady.cons rfl (fun K hK => ?_) AllReady.nil
    go_simp
    rw [HK.out, Oper.upon_enter]
    refine (HW.out _ (Below.drew HB0.out)).mono ?_
    rintro e w1 ⟨rfl, hb1⟩
    exact HEnd.out _ _ _ _ _ _ _ _ _ _ ⟨hb1.os, hb1.tape, hb1.output, hb1.size, hb1.block⟩
  · go_simp
    refine hK _ _ ?_; clear hK K
    refine wpAny_ready (rs := [0, 2]) (by kernel_rfl) (by simp) ?_
    refine AllReady.cons rfl (fun K hK => ?_) (AllReady.cons rfl (fun K hK => ?_) AllReady.nil)
    · go_simp
      refine hK _ _ ?_; clear hK K
      refine wpAny_ready (rs := [2]) (by kernel_rfl) (by simp) ?_
      refine AllReady.cons rfl (fun K hK => ?_) AllReady.nil
      go_simp
      rw [HK.out, Oper.upon_enter]
      refine (HW.out _ (Below.drew HB0.out)).mono ?_
      rintro e w1 ⟨rfl, hb1⟩
      exact HEnd.out _ _ _ _ _ _ _ _ _ _ ⟨hb1.os, hb1.tape, hb1.output, hb1.size, hb1.block⟩
    · go_simp
      rw [HK.out, Oper.upon_enter]
      refine (HW.out _ (Below.drew HB0.out)).mono ?_
      rintro e w1 ⟨rfl, hb1⟩
      exact HEnd.out _ _ _ _ _ _ _ _ _ _ ⟨hb1.os, hb1.tape, hb1.output, hb1.size, hb1.block⟩
set_option maxRecDepth 100000 in
set_option maxHeartbeats 4000000 in
theorem door_yes (L V : Int) (a : Option Addr) (cap : Nat) (ws : List ByteArray) (hl : ws.length ≤ 1048576) (hs : ∀ s ∈ ws, s.size ≤ 1048576) (h : VF) (k : FuncId) (caps : Array Value) (hk : ∀ W : World, (callFunc k caps).run Tryz.prog W = .ok (.enter k caps) W) (w : World) (hW : ∀ W, Below w.heap.size w W → Calls Tryz.prog k caps W (WorkPost (some h) W)) (hr : SRow w a ws) :
    Calls Tryz.prog 69 #[.agg #[.int .i64 L, .int .i64 V, .slice a ws.length cap], .func (.func k) #[] caps] w (SerPost L V (termsOf h ws) 0 w) := by
  have hmf : ∀ (fn : Fn) (first cap : Array Value) (w : World), (Instr.makeFunc fn first cap).run Tryz.prog w = .ok (.func fn first cap) w := fun _ _ _ _ => rfl
  have HW := Lib.hid hW
  have HK := Lib.hid hk
  have HR := Lib.hid hr
  have HSz := Lib.hid hs
  clear hW hk hr hs
  go_enter_defers Tryz.func69, Tryz.ntmps69
  go_upto_region 2 with fail
  have HB0 := Lib.hid (below3 w (.cells #[.int .i64 L, .int .i64 V, .slice a ws.length cap] 78) (.cells #[.int .i64 0, .int .i64 0, .slice none 0 0] 24) (.cells #[.int .i64 0] 2))
  have HZ := Lib.hid (show Z3 (((w.alloc (.cells #[.int .i64 L, .int .i64 V, .slice a ws.length cap] 78)).alloc (.cells #[.int .i64 0, .int .i64 0, .slice none 0 0] 24)).alloc (.cells #[.int .i64 0] 2)) (w.heap.size + 1) from ⟨by simp, by go_simp, by go_simp, by go_simp, by go_simp, by go_simp, by go_simp⟩)
  have HC := Lib.hid (show (((w.alloc (.cells #[.int .i64 L, .int .i64 V, .slice a ws.length cap] 78)).alloc (.cells #[.int .i64 0, .int .i64 0, .slice none 0 0] 24)).alloc (.cells #[.int .i64 0] 2)).cell? ⟨w.heap.size + 1 + 1, 0, none⟩ = some (.int .i64 0) ∧ (((w.alloc (.cells #[.int .i64 L, .int .i64 V, .slice a ws.length cap] 78)).alloc (.cells #[.int .i64 0, .int .i64 0, .slice none 0 0] 24)).alloc (.cells #[.int .i64 0] 2)).frozen? ⟨w.heap.size + 1 + 1, 0, none⟩ = false from ⟨by go_simp, by go_simp⟩)
  have HS := Lib.hid (show (((w.alloc (.cells #[.int .i64 L, .int .i64 V, .slice a ws.length cap] 78)).alloc (.cells #[.int .i64 0, .int .i64 0, .slice none 0 0] 24)).alloc (.cells #[.int .i64 0] 2)).heap.size = w.heap.size + 1 + 1 + 1 from by simp)
  have s0 : (((w.alloc (.cells #[.int .i64 L, .int .i64 V, .slice a ws.length cap] 78)).alloc (.cells #[.int .i64 0, .int .i64 0, .slice none 0 0] 24)).alloc (.cells #[.int .i64 0] 2)).cell? ⟨w.heap.size, 0, none⟩ = some (.int .i64 L) := by go_simp
  have s1 : (((w.alloc (.cells #[.int .i64 L, .int .i64 V, .slice a ws.length cap] 78)).alloc (.cells #[.int .i64 0, .int .i64 0, .slice none 0 0] 24)).alloc (.cells #[.int .i64 0] 2)).cell? ⟨w.heap.size, 1, none⟩ = some (.int .i64 V) := by go_simp
  have s2 : (((w.alloc (.cells #[.int .i64 L, .int .i64 V, .slice a ws.length cap] 78)).alloc (.cells #[.int .i64 0, .int .i64 0, .slice none 0 0] 24)).alloc (.cells #[.int .i64 0] 2)).cell? ⟨w.heap.size, 2, none⟩ = some (.slice a ws.length cap) := by go_simp
  generalize (((w.alloc (.cells #[.int .i64 L, .int .i64 V, .slice a ws.length cap] 78)).alloc (.cells #[.int .i64 0, .int .i64 0, .slice none 0 0] 24)).alloc (.cells #[.int .i64 0] 2)) = wz at *
  have hs := HS.out
  have b0 : w.heap.size < wz.heap.size := by omega
  have n1 : w.heap.size + 1 ≠ w.heap.size := by omega
  have n2 : w.heap.size + 1 + 1 ≠ w.heap.size := by omega
  have hke : ∀ W : World, (callFunc k caps).run Tryz.prog W = .ok (.enter k caps) W := HK.out
  go_region_held3 (fun w' => w'.cell? ⟨w.heap.size, 0, none⟩ = some (.int .i64 L) ∧ w'.cell? ⟨w.heap.size, 1, none⟩ = some (.int .i64 V) ∧ w'.cell? ⟨w.heap.size, 2, none⟩ = some (.slice a ws.length cap))
    (first | with_reducible exact ⟨z0, z1, z2⟩ | with_reducible exact ⟨s0, s1, s2⟩ | (rw [far_ser n1, far_ser n1, far_ser n1]; exact ⟨z0, z1, z2⟩) | (rw [far_ser4 n1 n2, far_ser4 n1 n2, far_ser4 n1 n2]; exact ⟨z0, z1, z2⟩) | go_keep)
    (first
      | (go_at_call 53; have hR1 : SRow w1 a ws := HR.out.below (HB0.out.trans (hb1.mono (by omega))) (Nat.le_refl _); refine (seriesOf_c L V a cap ws hl HSz.out bm nm h _ hR1 hM).mono ?_; rintro e w2 ⟨g, rfl, hb2, hg2, hM2, hT2⟩; have hz1 := hb1.size; have hz2 := hb2.size; have HB2 := hb1.trans (hb2.mono hb1.size); have z0 := (HB2.cell (p := ⟨w.heap.size, 0, none⟩) (by show w.heap.size < _; omega)).trans s0; have z1 := (HB2.cell (p := ⟨w.heap.size, 1, none⟩) (by show w.heap.size < _; omega)).trans s1; have z2 := (HB2.cell (p := ⟨w.heap.size, 2, none⟩) (by show w.heap.size < _; omega)).trans s2; have ZB := HZ.out.below HB2 (by omega); have r0 := ZB.2.1; have r1 := ZB.2.2.1; have r2 := ZB.2.2.2.1; have f0 := ZB.2.2.2.2.1; have f1 := ZB.2.2.2.2.2.1; have f2 := ZB.2.2.2.2.2.2; have r3 := (HB2.cell (p := ⟨w.heap.size + 1 + 1, 0, none⟩) (by show w.heap.size + 1 + 1 < _; omega)).trans HC.out.1; have f3 := (HB2.frozen (p := ⟨w.heap.size + 1 + 1, 0, none⟩) (by show w.heap.size + 1 + 1 < _; omega)).trans HC.out.2)
      | (refine (HW.out _ (Below.drew HB0.out)).mono ?_; rintro e w1 ⟨bm, nm, rfl, hbl, hb1', hnm, hM⟩; have hb1 : Below wz.heap.size wz w1 := ⟨hb1'.os, hb1'.tape, hb1'.output, hb1'.size, hb1'.block⟩; have z0 := (hb1.cell (p := ⟨w.heap.size, 0, none⟩) (by show w.heap.size < _; omega)).trans s0; have z1 := (hb1.cell (p := ⟨w.heap.size, 1, none⟩) (by show w.heap.size < _; omega)).trans s1; have z2 := (hb1.cell (p := ⟨w.heap.size, 2, none⟩) (by show w.heap.size < _; omega)).trans s2)
      | fail)
  all_goals
    have HB3 := Lib.hid (HB0.out.trans (HB2.mono (by omega)))
    have HN2 := Lib.hid (NewRow.of_to (lo := w.heap.size + 1 + 1 + 1) (by omega) hM2 hT2)
    have hc1 : ((((w2.setCell ⟨w.heap.size + 1, 0, none⟩ (.int .i64 L)).setCell ⟨w.heap.size + 1, 1, none⟩ (.int .i64 V)).setCell ⟨w.heap.size + 1, 2, none⟩ (.slice (some ⟨g, 0, none⟩) (termsOf h ws).length (termsOf h ws).length)).setCell ⟨w.heap.size + 1 + 1, 0, none⟩ (.int .i64 0)).cell? ⟨w.heap.size + 1, 0, none⟩ = some (.int .i64 L) := by go_simp
    have hc2 : ((((w2.setCell ⟨w.heap.size + 1, 0, none⟩ (.int .i64 L)).setCell ⟨w.heap.size + 1, 1, none⟩ (.int .i64 V)).setCell ⟨w.heap.size + 1, 2, none⟩ (.slice (some ⟨g, 0, none⟩) (termsOf h ws).length (termsOf h ws).length)).setCell ⟨w.heap.size + 1 + 1, 0, none⟩ (.int .i64 0)).cell? ⟨w.heap.size + 1, 1, none⟩ = some (.int .i64 V) := by go_simp
    have hc3 : ((((w2.setCell ⟨w.heap.size + 1, 0, none⟩ (.int .i64 L)).setCell ⟨w.heap.size + 1, 1, none⟩ (.int .i64 V)).setCell ⟨w.heap.size + 1, 2, none⟩ (.slice (some ⟨g, 0, none⟩) (termsOf h ws).length (termsOf h ws).length)).setCell ⟨w.heap.size + 1 + 1, 0, none⟩ (.int .i64 0)).cell? ⟨w.heap.size + 1, 2, none⟩ = some (.slice (some ⟨g, 0, none⟩) (termsOf h ws).length (termsOf h ws).length) := by go_simp
    have hc4 : ((((w2.setCell ⟨w.heap.size + 1, 0, none⟩ (.int .i64 L)).setCell ⟨w.heap.size + 1, 1, none⟩ (.int .i64 V)).setCell ⟨w.heap.size + 1, 2, none⟩ (.slice (some ⟨g, 0, none⟩) (termsOf h ws).length (termsOf h ws).length)).setCell ⟨w.heap.size + 1 + 1, 0, none⟩ (.int .i64 0)).cell? ⟨w.heap.size + 1 + 1, 0, none⟩ = some (.int .i64 0) := by go_simp
    clear r0 r1 r2 r3 f0 f1 f2 f3 z0 z1 z2 s0 s1 s2
    go_wp2
    refine leaves_yes _ _ _ _ _ _ _ _ _ _ _ _ _ (w.heap.size + 1) _ ⟨some ⟨g, 0, none⟩, (termsOf h ws).length, rfl, ?_, ?_⟩ hc1 hc2 hc3 hc4
    · exact (((HB3.out.setCell (p := ⟨w.heap.size + 1, 0, none⟩) (by show _ ≤ w.heap.size + 1; omega) _).setCell (p := ⟨w.heap.size + 1, 1, none⟩) (by show _ ≤ w.heap.size + 1; omega) _).setCell (p := ⟨w.heap.size + 1, 2, none⟩) (by show _ ≤ w.heap.size + 1; omega) _).setCell (p := ⟨w.heap.size + 1 + 1, 0, none⟩) (by show _ ≤ w.heap.size + 1 + 1; omega) _
    · exact ((((HN2.out.far1s (by omega)).far1s (by omega)).far1s (by omega)).far1s (by omega)).mono (by omega) (by simp)
end Go.Proofs.YtdgkkcjjfpenpaaGreatDoor
