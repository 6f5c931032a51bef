/-
  A fraction that has to fit (else the call panics), a value of a map, a value that is put: contracts of fitting, at, put.
  The program's product of two maps of values: it is made, or a fraction does not fit and the call panics.
  The door of a space: what work makes is turned into a series; where it panics with a fraction that does not fit, the door returns the code.
-/
import Derived.Test.YtmcmbhnkkloknaaDoorPrM
import Derived.Test.YtmcmbhnkkloknaaDoorAddP
import Derived.Test.YtmcmbhnkkloknaaDoorUnitS
import Derived.WalkLawsBesides
import Derived.Defers
import Derived.Recover
import Derived.Deep.RegionHeld3
import Derived.RegionTactic
namespace Go.Proofs.YtmcmbhnkkloknaaDoor
open Go.RowKit

theorem gr_below {w w' : World} {r : Option Nat} (h : Below w.heap.size w w') : w.grownBy w' r := ⟨h.os, h.tape, h.output, h.size, fun k hk _ => h.block k hk⟩
theorem gr_trans {a b c : World} {r : Option Nat} (h : a.grownBy b r) (k : b.grownBy c r) : a.grownBy c r :=
  ⟨k.os.trans h.os, k.tape.trans h.tape, k.output.trans h.output, Nat.le_trans h.size k.size, fun i hi hne => (k.block i (Nat.lt_of_lt_of_le hi h.size) hne).trans (h.block i hi hne)⟩
theorem dead_call (hF : Hid False) {f : FuncId} {args : Array Value} {w : World} {R : Ending → World → Prop} (v : Value) (_h : R (.returned v) w) : Calls Tryd.prog f args w R := hF.out.elim
set_option maxHeartbeats 1000000 in
theorem at_c (b n : Nat) (f : VF) (s : ByteArray) (hs : s.size ≤ maxLen) (w : World) (hm : MapV w b n f) : Calls Tryd.prog 23 #[.map (some b), .string s] w fun e w' => e = .returned (.agg #[.int .i64 (valF f s).1, .int .i64 (valF f s).2]) ∧ Below w.heap.size w w' := by
  have HM := Lib.hid (hm.alloc (.cells #[.int .i64 0, .int .i64 0] 37))
  clear hm
  cases hf : f s with
  | none =>
    have HF := Lib.hid hf
    have HV := Lib.hid (valF_none hf)
    clear hf
    rw [HV.out]
    go_enter Tryd.func23, Tryd.ntmps23
    go_wp2_with (first | (at_lookup; refine wpList_lookV rfl _ _ rfl rfl HM.out s rfl hs ?_; rw [HF.out]; simp only [lookV]) | fail)
    refine (wholeFraction_c _ _).mono ?_
    rintro e w1 ⟨rfl, hb⟩
    have hB := hb
    simp only [World.size_alloc] at hB
    have bc := bcellB hB
    have r0 : w1.cell? ⟨w.heap.size, 0, none⟩ = some (.int .i64 0) := (bc.1 _ _ (by omega)).trans (by go_simp)
    have r1 : w1.cell? ⟨w.heap.size, 1, none⟩ = some (.int .i64 0) := (bc.1 _ _ (by omega)).trans (by go_simp)
    have z0 : w1.frozen? ⟨w.heap.size, 0, none⟩ = false := (bc.2 _ _ (by omega)).trans (by go_simp)
    have z1 : w1.frozen? ⟨w.heap.size, 1, none⟩ = false := (bc.2 _ _ (by omega)).trans (by go_simp)
    have hW := (below2 w _ _).trans (hB.mono (by omega))
    have hz : w.heap.size < w1.heap.size := by have := hB.size; simp at this; omega
    clear bc hb hB
    go_wp2
    exact bodyPost_ret (v := .agg #[.int .i64 0, .int .i64 1]) (by simp [results, Tryd.results23, go_sem, r0, r1]) rfl ⟨rfl, by go_grown⟩
  | some p =>
    obtain ⟨x, d⟩ := p
    have HF := Lib.hid hf
    have HV := Lib.hid (valF_some hf)
    clear hf
    rw [HV.out]
    go_enter Tryd.func23, Tryd.ntmps23
    go_wp2_with (at_lookup; refine wpList_lookV rfl _ _ rfl rfl HM.out s rfl hs ?_; rw [HF.out]; simp only [lookV])
    exact bodyPost_ret (v := .agg #[.int .i64 x, .int .i64 d]) (by simp [results, Tryd.results23, go_sem]) rfl ⟨rfl, by go_grown⟩
end Go.Proofs.YtmcmbhnkkloknaaDoor

namespace Go.Proofs.YtmcmbhnkkloknaaDoor
open Go.RowKit

theorem lookV_any (o : Option (Int × Int)) : ∃ (x d : Int) (t : Bool), lookV o = .tuple #[.agg #[.int .i64 x, .int .i64 d], .bool t] ∧ (t = true → o = some (x, d)) ∧ (t = false → o = none) := by
  cases o with
  | none => exact ⟨0, 0, false, rfl, fun h => by (cases h), fun _ => rfl⟩
  | some p => exact ⟨p.1, p.2, true, rfl, fun _ => rfl, fun h => by (cases h)⟩
theorem apR_apS (a b n d p q : Int) : apR a b n d p q = match apS a b n d p q with | none => (0, 0, 3) | some r => (r.1, r.2, 0) := by
  cases hok : fOk (n * p) (d * q) with
  | false => rw [apS_bad1 hok]; unfold apR; rw [hok]; rfl
  | true =>
    cases hok2 : fOk (a * fD (n * p) (d * q) + fN (n * p) (d * q) * b) (b * fD (n * p) (d * q)) with
    | false =>
      rw [apS_bad2 hok rfl rfl hok2]
      unfold apR
      rw [hok, if_pos rfl, q3_no hok2]
    | true =>
      rw [apS_good hok rfl rfl hok2]
      unfold apR
      rw [hok, if_pos rfl, q3_yes hok2]

end Go.Proofs.YtmcmbhnkkloknaaDoor

namespace Go.Proofs.YtmcmbhnkkloknaaDoor
open Go.RowKit

theorem far_ser {g n o : Nat} {u v x : Value} {w' : World} (h : g ≠ n) : (((w'.setCell ⟨g, 0, none⟩ u).setCell ⟨g, 1, none⟩ v).setCell ⟨g, 2, none⟩ x).cell? ⟨n, o, none⟩ = w'.cell? ⟨n, o, none⟩ := by
  rw [World.cell?_setCell_far _ _ _ _ (by show g ≠ n; exact h), World.cell?_setCell_far _ _ _ _ (by show g ≠ n; exact h), World.cell?_setCell_far _ _ _ _ (by show g ≠ n; exact h)]
theorem far_ser4 {g c n o : Nat} {u v x y : Value} {w' : World} (h : g ≠ n) (h2 : c ≠ n) : ((((w'.setCell ⟨g, 0, none⟩ u).setCell ⟨g, 1, none⟩ v).setCell ⟨g, 2, none⟩ x).setCell ⟨c, 0, none⟩ y).cell? ⟨n, o, none⟩ = w'.cell? ⟨n, o, none⟩ := by
  rw [World.cell?_setCell_far _ _ _ _ (by show c ≠ n; exact h2), far_ser h]
end Go.Proofs.YtmcmbhnkkloknaaDoor
