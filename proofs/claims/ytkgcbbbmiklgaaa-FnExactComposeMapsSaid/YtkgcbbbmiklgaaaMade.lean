/-
  What a linear map makes of steps: sums of multiples of its rows, added one by one in a map of the call's own.
-/
import Derived.Test.YtkgcbbbmiklgaaaMapM
import Derived.Test.YtkgcbbbmiklgaaaTrans
namespace Go.Proofs.Ytkgcbbbmiklgaaa
open Go.RowKit

def MSmall (m : Int) (v : Mv) : Prop := Mv.small m v
/-- what add comes to: the map's block has changed, with one more at the place -/
def AddPost (b n : Nat) (f : Int → Option Mv) (W : World) (e : Ending) (w' : World) : Prop :=
  e = .returned (.tuple #[]) ∧ MapM w' b n f ∧ W.grownBy w' (some b)

theorem grown_of_b {w w' : World} (h : Below w.heap.size w w') (r : Option Nat) : w.grownBy w' r := ⟨h.os, h.tape, h.output, h.size, fun k hk _ => h.block k hk⟩
theorem grown_trans {a b c : World} {r : Option Nat} (h : a.grownBy b r) (k : b.grownBy c r) : a.grownBy c r :=
  ⟨k.os.trans h.os, k.tape.trans h.tape, k.output.trans h.output, Nat.le_trans h.size k.size, fun i hi hn => (k.block i (Nat.lt_of_lt_of_le hi h.size) hn).trans (h.block i hi hn)⟩
set_option maxRecDepth 100000 in
set_option maxHeartbeats 2000000 in
theorem addM_new (b n : Nat) (f : Int → Option Mv) (hn : n < 1000) (p : Int) (hp : SmallI p) (hf : f p = none) (x0 x1 x2 : Int) (w : World) (hm : MapM w b n f) :
    Calls Try.prog 64 #[.map (some b), .int .i64 p, .agg #[.int .i64 x0, .int .i64 x1, .int .i64 x2]] w (AddPost b (n + 1) (putM f p (some ⟨x0, x1, x2⟩)) w) := by
  have HM := Lib.hid hm
  have HF := Lib.hid hf
  have hlt := hm.lt
  have hnm : n < maxLen := by unfold maxLen; omega
  clear hm hf
  go_enter Try.func64, Try.ntmps64
  go_wp2_with (first | (at_lookup; refine wpList_lookM rfl _ _ rfl rfl (HM.out.alloc _) p rfl hp ?_; rw [HF.out]; simp only [lookM]) | (refine wpList_putM rfl _ _ _ rfl rfl ((HM.out.alloc _).alloc _) hnm p rfl hp x0 x1 x2 rfl ?_))
  intro w9 hm9 hg9
  have HG := Lib.hid (grown_trans (grown_of_b (below2 w _ _) (some b)) hg9)
  have HM9 := Lib.hid hm9
  clear hg9 hm9
  go_wp2
  exact bodyPost_ret (v := .tuple #[]) (by simp [results, Try.results64]) rfl ⟨rfl, HM9.out, HG.out⟩

set_option maxRecDepth 100000 in
set_option maxHeartbeats 2000000 in
theorem addM_old (b n : Nat) (f : Int → Option Mv) (hn : n < 1000) (p : Int) (hp : SmallI p) (y0 y1 y2 : Int) (hf : f p = some ⟨y0, y1, y2⟩) (x0 x1 x2 : Int) (w : World) (hm : MapM w b n f)
    (h0 : -1000000 ≤ x0 ∧ x0 ≤ 1000000) (h1 : -1000000 ≤ x1 ∧ x1 ≤ 1000000) (h2 : -1000000 ≤ x2 ∧ x2 ≤ 1000000) (g0 : -1000000 ≤ y0 ∧ y0 ≤ 1000000) (g1 : -1000000 ≤ y1 ∧ y1 ≤ 1000000) (g2 : -1000000 ≤ y2 ∧ y2 ≤ 1000000) :
    Calls Try.prog 64 #[.map (some b), .int .i64 p, .agg #[.int .i64 x0, .int .i64 x1, .int .i64 x2]] w (AddPost b (n + 1) (putM f p (some ⟨y0 + x0, y1 + x1, y2 + x2⟩)) w) := by
  have HM := Lib.hid hm
  have HF := Lib.hid hf
  have hlt := hm.lt
  have hnm : n < maxLen := by unfold maxLen; omega
  clear hm hf
  go_enter Try.func64, Try.ntmps64
  go_wp2_with (at_lookup; refine wpList_lookM rfl _ _ rfl rfl (HM.out.alloc _) p rfl hp ?_; rw [HF.out]; simp only [lookM, mvV])
  refine (plus_c y0 y1 y2 x0 x1 x2 g0 g1 g2 h0 h1 h2 _).mono ?_
  rintro e w1 ⟨rfl, hb1⟩
  have hB := hb1
  simp only [World.size_alloc] at hB
  have bc := bcellB hB
  have c0 : w1.cell? ⟨w.heap.size, 0, none⟩ = some (.int .i64 x0) := (bc.1 _ _ (by omega)).trans (by go_simp)
  have c1 : w1.cell? ⟨w.heap.size, 1, none⟩ = some (.int .i64 x1) := (bc.1 _ _ (by omega)).trans (by go_simp)
  have c2 : w1.cell? ⟨w.heap.size, 2, none⟩ = some (.int .i64 x2) := (bc.1 _ _ (by omega)).trans (by go_simp)
  have z0 : w1.frozen? ⟨w.heap.size, 0, none⟩ = false := (bc.2 _ _ (by omega)).trans (by go_simp)
  have z1 : w1.frozen? ⟨w.heap.size, 1, none⟩ = false := (bc.2 _ _ (by omega)).trans (by go_simp)
  have z2 : w1.frozen? ⟨w.heap.size, 2, none⟩ = false := (bc.2 _ _ (by omega)).trans (by go_simp)
  have HB := Lib.hid ((below2 w _ _).trans (hB.mono (by omega)))
  have HM1 := Lib.hid (HM.out.below HB.out hlt)
  have hz1 := hB.size
  simp only [World.size_alloc] at hz1
  clear hB hb1 bc
  have HBs := Lib.hid (((HB.out.setCell (p := ⟨w.heap.size, 0, none⟩) (Nat.le_refl _) (.int .i64 (y0 + x0))).setCell (p := ⟨w.heap.size, 1, none⟩) (Nat.le_refl _) (.int .i64 (y1 + x1))).setCell (p := ⟨w.heap.size, 2, none⟩) (Nat.le_refl _) (.int .i64 (y2 + x2)))
  go_wp2_with (refine wpList_putM rfl _ _ _ rfl rfl (HM.out.below HBs.out hlt) hnm p rfl hp (y0 + x0) (y1 + x1) (y2 + x2) rfl ?_)
  intro w9 hm9 hg9
  have HG := Lib.hid (grown_trans (grown_of_b HBs.out (some b)) hg9)
  have HM9 := Lib.hid hm9
  clear hg9 hm9
  go_wp2
  exact bodyPost_ret (v := .tuple #[]) (by simp [results, Try.results64]) rfl ⟨rfl, HM9.out, HG.out⟩
end Go.Proofs.Ytkgcbbbmiklgaaa
