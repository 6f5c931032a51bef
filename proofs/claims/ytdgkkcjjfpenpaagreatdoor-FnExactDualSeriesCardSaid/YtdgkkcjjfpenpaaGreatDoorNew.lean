/-
  newTerms and newSeries of the program: a list, and a series, with copies of terms.
-/
import Derived.Test.YtdgkkcjjfpenpaaGreatDoorShelf
import Derived.Test.YtdgkkcjjfpenpaaGreatDoorRes
namespace Go.Proofs.YtdgkkcjjfpenpaaGreatDoor
open Go.RowKit

theorem clone_c (s : ByteArray) (hs : s.size ≤ 1048576) (w : World) :
    Calls Tryz.prog 63 #[.string s] w fun e w' => e = .returned (.string s) ∧ Below w.heap.size w w' := by
  go_enter Tryz.func63, Tryz.ntmps63
  go_wp2_with fail
  refine (Tryz.stringslite_Clone s _ (by omega)).mono ?_
  rintro e w1 ⟨rfl, hb⟩
  go_wp2
  go_ret
  exact ⟨rfl, hb⟩

theorem far_three {g n o i : Nat} {u v x : Value} {w' : World} (h : g ≠ n) : (((w'.setCell ⟨g, i, none⟩ u).setCell ⟨g, i + 1, none⟩ v).setCell ⟨g, i + 2, none⟩ x).cell? ⟨n, o, none⟩ = w'.cell? ⟨n, o, none⟩ := by
  rw [World.cell?_setCell_far _ _ _ _ (by show g ≠ n; exact h), World.cell?_setCell_far _ _ _ _ (by show g ≠ n; exact h), World.cell?_setCell_far _ _ _ _ (by show g ≠ n; exact h)]

theorem make_terms4 (n : Nat) (hn : n ≤ 4194304) : ∃ O : Obj, (∀ W : World, (Instr.makeSlice 22 (.int .i64 (n : Int)) (.int .i64 (n : Int))).run Tryz.prog W = .ok (.slice (some ⟨W.heap.size, 0, none⟩) n n) (W.alloc O)) ∧ ∀ W : World, Made (W.alloc O) W.heap.size (n * 3) := by
  obtain ⟨i, hi, hz, hs, hby⟩ := info_parts info_term
  refine ⟨.cells (madeCells #[.string ByteArray.empty, .int .i64 0, .int .i64 0] (n * 3)) 46, fun W => ?_, fun W => ⟨by simp, fun j hj => ?_⟩⟩
  · have h := run_make (P := Tryz.prog) W 22 46 i _ Tryz.underlying22 hi hz .i64 .i64 (n : Int) (n : Int) (by omega) (by omega) (by rw [hby]; omega) (by omega)
    simp only [Int.toNat_natCast, hs] at h
    exact h
  · refine ⟨⟨_, (World.cell?_alloc_new _ _ _ _).trans (Array.getElem?_eq_getElem (by rw [size_madeCells]; exact hj))⟩, ?_⟩
    simp

/-- what a copy of a list of terms comes to -/
def RowPost (ts : List Tm) (W : World) (e : Ending) (w' : World) : Prop :=
  ∃ g, e = .returned (.slice (some ⟨g, 0, none⟩) ts.length ts.length) ∧ Below W.heap.size W w' ∧ W.heap.size ≤ g ∧ Made w' g (ts.length * 3) ∧ TermsIn w' g 0 ts

set_option maxHeartbeats 1000000 in
theorem newTerms_c (a : Option Addr) (cap : Nat) (ts : List Tm) (hl : ts.length ≤ 4194304) (hs : ∀ i (h : i < ts.length), (ts[i]).s.size ≤ 1048576) (w : World) (hr : Row w a ts) :
    Calls Tryz.prog 46 #[.slice a ts.length cap] w (RowPost ts w) := by
  obtain ⟨O, hmk, hmade⟩ := make_terms4 ts.length hl
  have HM := Lib.hid hmade
  have HR := Lib.hid hr
  have HS := Lib.hid hs
  clear hmade hr hs
  have e0 : (0 : Int) ≤ (ts.length : Int) := by omega
  go_enter Tryz.func46, Tryz.ntmps46
  go_wp2
  clear hmk
  go_loopw [11] (fun vi wr => ∃ k : Nat, k ≤ ts.length ∧ vi = .int .i64 k ∧ Below w.heap.size w wr ∧ Made wr w.heap.size (ts.length * 3) ∧ TermsIn wr w.heap.size 0 (ts.take k)) (fun i _ => ts.length - (intOf i).toNat)
  case atStart => exact ⟨0, Nat.zero_le _, rfl, below1 _ _, HM.out w, fun i hi => by simp at hi⟩
  case round =>
    obtain ⟨k, hk, rfl, hB, hM, hTk⟩ := hrel
    have HMk := Lib.hid hM
    have HTk := Lib.hid hTk
    have HB := Lib.hid hB
    have hgs := hM.1
    have hW := Lib.hid hB
    clear hM hTk hB
    by_cases hlt : k < ts.length
    · rcases HR.out with h | ⟨b, off, rfl, hb, ht⟩
      · rw [h] at hlt; simp at hlt
      obtain ⟨c0, c1, c2⟩ := ht.below hW.out hb k hlt
      obtain ⟨s, n, d, het⟩ : ∃ s n d, ts[k] = ⟨s, n, d⟩ := ⟨_, _, _, rfl⟩
      have hsz := HS.out k hlt
      rw [het] at c0 c1 c2 hsz
      simp only at c0 c1 c2 hsz
      have HE := Lib.hid het
      clear het ht
      have hne : w.heap.size ≠ wr.heap.size := by omega
      have hgs0 : w.heap.size ≤ wr.heap.size := by omega
      go_upto_region 5 with fail
      go_region_held3 (fun w' => w'.cell? ⟨wr.heap.size, 0, none⟩ = some (.string s) ∧ w'.cell? ⟨wr.heap.size, 1, none⟩ = some (.int .i64 n) ∧ w'.cell? ⟨wr.heap.size, 2, none⟩ = some (.int .i64 d)) (first | exact ⟨t0, t1, t2⟩ | (rw [far_three hne, far_three hne, far_three hne]; exact ⟨t0, t1, t2⟩) | go_keep)
          (first | (go_at_call 63; refine (clone_c s hsz _).mono ?_; rintro e w1 ⟨rfl, hb0⟩; have hb1 : Below (wr.heap.size + 1) (wr.alloc (.cells #[.string s, .int .i64 n, .int .i64 d] 46)) w1 := ⟨hb0.os, hb0.tape, hb0.output, hb0.size, fun j hj => hb0.block j (by simp; omega)⟩; have t0 : w1.cell? ⟨wr.heap.size, 0, none⟩ = some (.string s) := (hb1.cell (p := ⟨wr.heap.size, 0, none⟩) (Nat.lt_succ_self _)).trans (by go_simp); have t1 : w1.cell? ⟨wr.heap.size, 1, none⟩ = some (.int .i64 n) := (hb1.cell (p := ⟨wr.heap.size, 1, none⟩) (Nat.lt_succ_self _)).trans (by go_simp); have t2 : w1.cell? ⟨wr.heap.size, 2, none⟩ = some (.int .i64 d) := (hb1.cell (p := ⟨wr.heap.size, 2, none⟩) (Nat.lt_succ_self _)).trans (by go_simp); have hM1 := (HMk.out.below (below1 wr (.cells #[.string s, .int .i64 n, .int .i64 d] 46)) hgs).below hb1 (Nat.lt_succ_of_lt hgs); obtain ⟨⟨v0, m0⟩, z0⟩ := hM1.2 (k * 3) (by omega); obtain ⟨⟨v1, m1⟩, z1⟩ := hM1.2 (k * 3 + 1) (by omega); obtain ⟨⟨v2, m2⟩, z2⟩ := hM1.2 (k * 3 + 2) (by omega); have HM1 := Lib.hid hM1; clear hM1))
      all_goals
        have hBn := Lib.hid ((HB.out.alloc hgs0 (.cells #[.string s, .int .i64 n, .int .i64 d] 46)).trans (hb1.mono (by omega)))
        have hTn := Lib.hid ((HTk.out.below (below1 wr (.cells #[.string s, .int .i64 n, .int .i64 d] 46)) hgs).below hb1 (Nat.lt_succ_of_lt hgs))
        clear hb1 t0 t1 t2
        go_wp2
        go_roundw
        case rel => exact ⟨k + 1, by omega, by go_num, ((hBn.out.setCell (p := ⟨w.heap.size, k * 3, none⟩) (Nat.le_refl _) _).setCell (p := ⟨w.heap.size, k * 3 + 1, none⟩) (Nat.le_refl _) _).setCell (p := ⟨w.heap.size, k * 3 + 2, none⟩) (Nat.le_refl _) _, ((HM1.out.set _ _).set _ _).set _ _, hTn.out.snoc3 hlt HM1.out HE.out⟩
        case measure => simp [intOf]; omega
    · obtain rfl : k = ts.length := by omega
      have hT := HTk.out
      rw [List.take_length] at hT
      have HT := Lib.hid hT
      clear hT
      go_wp2
      go_ret
      exact ⟨w.heap.size, rfl, HB.out, Nat.le_refl _, HMk.out, HT.out⟩

set_option maxHeartbeats 1000000 in
theorem newSeries4_c (L V : Int) (a : Option Addr) (cap : Nat) (ts : List Tm) (hl : ts.length ≤ 4194304) (hs : ∀ i (h : i < ts.length), (ts[i]).s.size ≤ 1048576) (w : World) (hr : Row w a ts) :
    Calls Tryz.prog 31 #[.int .i64 L, .int .i64 V, .slice a ts.length cap] w (ToSer L V ts w) := by
  have HR := Lib.hid (hr.below (below1 w (.cells #[.int .i64 0, .int .i64 0, .slice none 0 0] 24)))
  have HS := Lib.hid hs
  clear hr hs
  go_enter Tryz.func31, Tryz.ntmps31
  go_wp2_with fail
  refine (newTerms_c a cap ts hl HS.out _ HR.out).mono ?_
  rintro e w1 ⟨g, rfl, hb, hg, hM, hT⟩
  have HB := Lib.hid (show Below (w.heap.size + 1) (w.alloc (.cells #[.int .i64 0, .int .i64 0, .slice none 0 0] 24)) w1 from by simpa using hb)
  have hg1 : w.heap.size + 1 ≤ g := by simpa using hg
  have hz : w.heap.size < w1.heap.size := by have := hb.size; simp at this; omega
  have HM := Lib.hid hM
  have HT := Lib.hid hT
  have bc := bcellB HB.out
  have r0 : w1.cell? ⟨w.heap.size, 0, none⟩ = some (.int .i64 0) := (bc.1 _ _ (by omega)).trans (by go_simp)
  have r1 : w1.cell? ⟨w.heap.size, 1, none⟩ = some (.int .i64 0) := (bc.1 _ _ (by omega)).trans (by go_simp)
  have r2 : w1.cell? ⟨w.heap.size, 2, none⟩ = some (.slice none 0 0) := (bc.1 _ _ (by omega)).trans (by go_simp)
  have z0 : w1.frozen? ⟨w.heap.size, 0, none⟩ = false := (bc.2 _ _ (by omega)).trans (by go_simp)
  have z1 : w1.frozen? ⟨w.heap.size, 1, none⟩ = false := (bc.2 _ _ (by omega)).trans (by go_simp)
  have z2 : w1.frozen? ⟨w.heap.size, 2, none⟩ = false := (bc.2 _ _ (by omega)).trans (by go_simp)
  have HW := Lib.hid ((below1 w _).trans (HB.out.mono (Nat.le_succ _)))
  clear bc hb hg hM hT
  go_wp2
  refine bodyPost_ret (v := .agg #[.int .i64 L, .int .i64 V, .slice (some ⟨g, 0, none⟩) ts.length ts.length]) (by simp [results, Tryz.results31, go_sem, r0, r1, r2]) rfl ⟨g, rfl, ?_, by omega, ?_, ?_⟩
  · have hW := HW.out
    go_grown
  · exact ((HM.out.set _ _).set _ _).set _ _
  · exact ((HT.out.setCell (by show w.heap.size ≠ g; omega) _).setCell (by show w.heap.size ≠ g; omega) _).setCell (by show w.heap.size ≠ g; omega) _
theorem newSeries_c (L V : Int) (a : Option Addr) (cap : Nat) (ts : List Tm) (hl : ts.length ≤ 1048576) (hs : ∀ i (h : i < ts.length), (ts[i]).s.size ≤ 1048576) (w : World) (hr : Row w a ts) :
    Calls Tryz.prog 31 #[.int .i64 L, .int .i64 V, .slice a ts.length cap] w (ToSer L V ts w) := newSeries4_c L V a cap ts (by omega) hs w hr
end Go.Proofs.YtdgkkcjjfpenpaaGreatDoor
