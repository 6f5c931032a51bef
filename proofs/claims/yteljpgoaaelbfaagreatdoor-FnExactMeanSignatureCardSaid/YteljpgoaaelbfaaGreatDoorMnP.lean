/-
  Contracts of the program's MeanSignature.
-/
import Derived.Test.YteljpgoaaelbfaaGreatDoorMnI
import Derived.Test.YteljpgoaaelbfaaGreatDoorSopF
import Derived.Test.YteljpgoaaelbfaaGreatDoorConst
import Derived.Test.YteljpgoaaelbfaaGreatDoorSerU
import Derived.Test.YteljpgoaaelbfaaGreatDoorGate
namespace Go.Proofs.YteljpgoaaelbfaaGreatDoor
open Go.RowKit
set_option linter.unusedVariables false

set_option maxRecDepth 100000 in
set_option maxHeartbeats 8000000 in
theorem iPowR_3 (D N K : Nat) (aX : Option Addr) (cX : Nat) (xs : List Tm) (hl1 : xs.length ≤ 1048576) (hs1 : ∀ i (h : i < xs.length), (xs[i]).s.size ≤ maxLen) (h1 : serB D N xs = true) (hK : K ≤ 12) (w : World) (hr1 : Row w aX xs) :
    Calls Tryz.prog 34 #[.agg #[.int .i64 D, .int .i64 N, .slice aX xs.length cX], .int .i64 K] w (FitV D N (powV (valV xs xs.length) (allW D N) K) w) := by
  have hsh : shapeB (D : Int) (N : Int) = true := by unfold serB at h1; rw [Bool.and_eq_true] at h1; exact h1.1
  have hDN := shape_out hsh
  have hmf : ∀ (fn : Fn) (first cap : Array Value) (w : World), (Instr.makeFunc fn first cap).run Tryz.prog w = .ok (.func fn first cap) w := fun _ _ _ _ => rfl
  have HT1 := Lib.hid hr1
  have HS1 := Lib.hid hs1
  have HH := Lib.hid h1
  have HKb := Lib.hid (show inB (K : Int) 0 12 = true from inB_yes (by omega))
  have hfew := allW_few (D := D) (by omega) (n := N) (by omega)
  have HWl := Lib.hid (show (allW D N).length ≤ 1048576 by omega)
  have HWs := Lib.hid (show ∀ s ∈ allW D N, s.size ≤ 1048576 from fun s hs => by have := allW_size D N s hs; omega)
  clear hr1 hs1 h1 hsh
  go_enter Tryz.func34, Tryz.ntmps34
  go_wp2_with fail
  refine (iIs_row D N aX cX xs hl1 HS1.out _ (HT1.out.below (below3 w _ _ _))).mono ?_
  rw [HH.out]
  rintro e w1 ⟨rfl, hb⟩
  have HB := Lib.hid (show Below (w.heap.size + 1 + 1 + 1) (((w.alloc (.cells #[.int .i64 D, .int .i64 N, .slice aX xs.length cX] 26)).alloc (.cells #[.int .i64 K] 2)).alloc (.cells #[.int .i64 0, .int .i64 0, .slice none 0 0] 26)) w1 from by simpa using hb)
  have hz1 : w.heap.size + 1 + 1 + 1 ≤ w1.heap.size := by have := HB.out.size; simp at this; omega
  have bc := bcellB HB.out
  have x0 : w1.cell? ⟨w.heap.size, 0, none⟩ = some (.int .i64 D) := (bc.1 _ _ (by omega)).trans (by go_simp)
  have x1 : w1.cell? ⟨w.heap.size, 1, none⟩ = some (.int .i64 N) := (bc.1 _ _ (by omega)).trans (by go_simp)
  have k0 : w1.cell? ⟨w.heap.size + 1, 0, none⟩ = some (.int .i64 K) := (bc.1 _ _ (by omega)).trans (by go_simp)
  clear hb bc
  go_wp2_with (first | (go_at_call 25; refine (isBetween_c _ _ _ _).mono ?_; rw [HKb.out]; rintro e w' ⟨rfl, rfl⟩) | fail)
  refine (spaceOf_c D N (by omega) (by omega) _).mono ?_
  rintro e w2 ⟨aS, cS, rfl, hb2', hN2⟩
  have HB2 := Lib.hid (HB.out.trans (hb2'.mono (by omega)))
  have hz2 : w1.heap.size ≤ w2.heap.size := hb2'.size
  have HB3 := Lib.hid (HB2.out.alloc (by omega) (.cells #[.int .i64 D, .int .i64 N, .slice aS (allW D N).length cS] 50))
  have HW3 := Lib.hid ((below3 w (.cells #[.int .i64 D, .int .i64 N, .slice aX xs.length cX] 26) (.cells #[.int .i64 K] 2) (.cells #[.int .i64 0, .int .i64 0, .slice none 0 0] 26)).trans (HB3.out.mono (by omega)))
  have bc := bcellB HB3.out
  have Kx0 : (w2.alloc (.cells #[.int .i64 D, .int .i64 N, .slice aS (allW D N).length cS] 50)).cell? ⟨w.heap.size, 0, none⟩ = some (.int .i64 D) := (bc.1 _ _ (by omega)).trans (by go_simp)
  have Kx1 : (w2.alloc (.cells #[.int .i64 D, .int .i64 N, .slice aS (allW D N).length cS] 50)).cell? ⟨w.heap.size, 1, none⟩ = some (.int .i64 N) := (bc.1 _ _ (by omega)).trans (by go_simp)
  have Kx2 : (w2.alloc (.cells #[.int .i64 D, .int .i64 N, .slice aS (allW D N).length cS] 50)).cell? ⟨w.heap.size, 2, none⟩ = some (.slice aX xs.length cX) := (bc.1 _ _ (by omega)).trans (by go_simp)
  have Kk0 : (w2.alloc (.cells #[.int .i64 D, .int .i64 N, .slice aS (allW D N).length cS] 50)).cell? ⟨w.heap.size + 1, 0, none⟩ = some (.int .i64 K) := (bc.1 _ _ (by omega)).trans (by go_simp)
  have Ks0 : (w2.alloc (.cells #[.int .i64 D, .int .i64 N, .slice aS (allW D N).length cS] 50)).cell? ⟨w2.heap.size, 0, none⟩ = some (.int .i64 D) := by go_simp
  have Ks1 : (w2.alloc (.cells #[.int .i64 D, .int .i64 N, .slice aS (allW D N).length cS] 50)).cell? ⟨w2.heap.size, 1, none⟩ = some (.int .i64 N) := by go_simp
  have Ks2 : (w2.alloc (.cells #[.int .i64 D, .int .i64 N, .slice aS (allW D N).length cS] 50)).cell? ⟨w2.heap.size, 2, none⟩ = some (.slice aS (allW D N).length cS) := by go_simp
  have HNs := Lib.hid (hN2.row.below (below1 w2 (.cells #[.int .i64 D, .int .i64 N, .slice aS (allW D N).length cS] 50)) (Nat.le_refl _))
  have hzz : (w2.alloc (.cells #[.int .i64 D, .int .i64 N, .slice aS (allW D N).length cS] 50)).heap.size = w2.heap.size + 1 := by simp
  have HR := Lib.hid (show Z3 w2 (w.heap.size + 1 + 1) from by
    have bc := bcellB HB2.out
    exact ⟨by omega, (bc.1 _ _ (by omega)).trans (by go_simp), (bc.1 _ _ (by omega)).trans (by go_simp), (bc.1 _ _ (by omega)).trans (by go_simp), (bc.2 _ _ (by omega)).trans (by go_simp), (bc.2 _ _ (by omega)).trans (by go_simp), (bc.2 _ _ (by omega)).trans (by go_simp)⟩)
  have HWork := Lib.hid (fun W (hW : Below (w2.alloc (.cells #[.int .i64 D, .int .i64 N, .slice aS (allW D N).length cS] 50)).heap.size (w2.alloc (.cells #[.int .i64 D, .int .i64 N, .slice aS (allW D N).length cS] 50)) W) => powWork D N K (by omega) (by omega) hK w2.heap.size w.heap.size (w.heap.size + 1) aS aX cS cX xs HH.out hl1 HS1.out W (by have := hW.size; omega) (by have := hW.size; omega) (by have := hW.size; omega) ((hW.cell (p := ⟨w2.heap.size, 0, none⟩) (by show w2.heap.size < _; omega)).trans Ks0) ((hW.cell (p := ⟨w2.heap.size, 1, none⟩) (by show w2.heap.size < _; omega)).trans Ks1) ((hW.cell (p := ⟨w2.heap.size, 2, none⟩) (by show w2.heap.size < _; omega)).trans Ks2) ((hW.cell (p := ⟨w.heap.size, 0, none⟩) (by show w.heap.size < _; omega)).trans Kx0) ((hW.cell (p := ⟨w.heap.size, 1, none⟩) (by show w.heap.size < _; omega)).trans Kx1) ((hW.cell (p := ⟨w.heap.size, 2, none⟩) (by show w.heap.size < _; omega)).trans Kx2) ((hW.cell (p := ⟨w.heap.size + 1, 0, none⟩) (by show w.heap.size + 1 < _; omega)).trans Kk0) (HNs.out.below hW (Nat.le_refl _)) (HT1.out.below (HW3.out.trans (hW.mono (by omega)))))
  clear bc hb2' hN2 x0 x1 k0
  cases hv : powV (valV xs xs.length) (allW D N) K with
  | none =>
    have HVv := Lib.hid hv
    have HDoor := Lib.hid (door_no D N aS (allW D N).length cS 63 #[.pointer (some ⟨w.heap.size, 0, none⟩), .pointer (some ⟨w.heap.size + 1, 0, none⟩), .pointer (some ⟨w2.heap.size, 0, none⟩)] (fun _ => by kernel_rfl) (w2.alloc (.cells #[.int .i64 D, .int .i64 N, .slice aS (allW D N).length cS] 50)) (fun W hW => by have hk := HWork.out W hW; rw [hv] at hk; exact hk))
    clear Kx0 Kx1 Kx2 Kk0 Ks0 Ks1 Ks2 hv
    go_wp2_with fail
    refine HDoor.out.mono ?_
    rintro e w4 ⟨rfl, hb4⟩
    have HZ := Lib.hid ((HR.out.below (below1 w2 (.cells #[.int .i64 D, .int .i64 N, .slice aS (allW D N).length cS] 50)) HR.out.1).below hb4 (by omega))
    have r0 := HZ.out.2.1
    have r1 := HZ.out.2.2.1
    have r2 := HZ.out.2.2.2.1
    have z0 := HZ.out.2.2.2.2.1
    have z1 := HZ.out.2.2.2.2.2.1
    have z2 := HZ.out.2.2.2.2.2.2
    have HW4 := Lib.hid (HW3.out.trans (hb4.mono (by omega)))
    clear hb4
    go_wp2
    rw [HVv.out]
    refine bodyPost_ret (v := .tuple #[.agg #[.int .i64 0, .int .i64 0, .slice none 0 0], .int .i64 3]) (by simp [results, Tryz.results34, go_sem, r0, r1, r2]) rfl (SerPost.err 3 rfl ?_)
    have hW := HW4.out
    go_grown
  | some h =>
    have HVv := Lib.hid hv
    have HDoor := Lib.hid (door_yes D N aS cS (allW D N) HWl.out HWs.out h 63 #[.pointer (some ⟨w.heap.size, 0, none⟩), .pointer (some ⟨w.heap.size + 1, 0, none⟩), .pointer (some ⟨w2.heap.size, 0, none⟩)] (fun _ => by kernel_rfl) (w2.alloc (.cells #[.int .i64 D, .int .i64 N, .slice aS (allW D N).length cS] 50)) (fun W hW => by have hk := HWork.out W hW; rw [hv] at hk; exact hk) HNs.out)
    clear Kx0 Kx1 Kx2 Kk0 Ks0 Ks1 Ks2 hv
    go_wp2_with fail
    refine HDoor.out.mono ?_
    rintro e w4 ⟨a4, c4, rfl, hb4, hN4⟩
    have HZ := Lib.hid ((HR.out.below (below1 w2 (.cells #[.int .i64 D, .int .i64 N, .slice aS (allW D N).length cS] 50)) HR.out.1).below hb4 (by omega))
    have r0 := HZ.out.2.1
    have r1 := HZ.out.2.2.1
    have r2 := HZ.out.2.2.2.1
    have z0 := HZ.out.2.2.2.2.1
    have z1 := HZ.out.2.2.2.2.2.1
    have z2 := HZ.out.2.2.2.2.2.2
    have HW4 := Lib.hid (HW3.out.trans (hb4.mono (by omega)))
    have HN4 := Lib.hid hN4
    clear hb4 hN4
    go_wp2
    rw [HVv.out]
    refine bodyPost_ret (v := .tuple #[.agg #[.int .i64 D, .int .i64 N, .slice a4 (termsOf h (allW D N)).length c4], .int .i64 0]) (by simp [results, Tryz.results34, go_sem, r0, r1, r2]) rfl ⟨a4, c4, rfl, ?_, ?_⟩
    · have hW := HW4.out
      go_grown
    · exact (((HN4.out.far1s (n := w.heap.size + 1 + 1) (i := 0) (x := .int .i64 D) (by omega)).far1s (n := w.heap.size + 1 + 1) (i := 1) (x := .int .i64 N) (by omega)).far1s (n := w.heap.size + 1 + 1) (i := 2) (x := .slice a4 (termsOf h (allW D N)).length c4) (by omega)).mono (by omega) (by simp)
set_option maxRecDepth 100000 in
set_option maxHeartbeats 8000000 in
theorem iMn_1 (L V : Int) (n : Int) (lo hi : Nat) (a : Option Addr) (cap : Nat) (ps : List (List Int)) (hl : ps.length ≤ 1048576) (hs : flat ps ≤ 1048576) (c : Int) (hc : codeP L V ps = c) (hn : c ≠ 0) (w : World) (hr : PRow lo hi w a ps) (hh : hi ≤ w.heap.size) :
    Calls Tryz.prog 7 #[.int .i64 L, .int .i64 V, .slice a ps.length cap, .int .i64 n] w (SerPost 0 0 [] c w) := by
  have HR := Lib.hid hr
  have HC := Lib.hid hc
  have hnb : (c != 0) = true := by simpa using hn
  clear hr hc hn
  go_enter Tryz.func7, Tryz.ntmps7
  go_wp2_with fail
  refine (checkPaths1_c lo hi L V a cap ps hl hs (w.heap.size + 1 + 1) _ _ (HR.out.below (below3 w _ _ _) hh) (by go_simp)).mono ?_
  rw [HC.out]
  rintro e w1 ⟨rfl, hb⟩
  have hT := (((T3.new (w.alloc (.cells #[.slice a ps.length cap] 22)) 0 0 none 0 0 26).alloc (.cells #[.slice a ps.length cap] 22)).next hb)
  have HW1 := Lib.hid ((below3 w (.cells #[.slice a ps.length cap] 22) (.cells #[.int .i64 0, .int .i64 0, .slice none 0 0] 26) (.cells #[.slice a ps.length cap] 22)).trans (hb.mono (by simp; omega)))
  simp only [World.size_alloc] at hT
  obtain ⟨hz1, r0, r1, r2, z0, z1, z2⟩ := id hT
  clear hb hT
  go_wp2
  refine bodyPost_ret (v := .tuple #[.agg #[.int .i64 0, .int .i64 0, .slice none 0 0], .int .i64 c]) (by simp [results, Tryz.results7, go_sem, r0, r1, r2]) rfl (SerPost.err c rfl ?_)
  have hW := HW1.out
  go_grown
set_option maxRecDepth 100000 in
set_option maxHeartbeats 8000000 in
theorem iMn_2 (L V : Int) (n : Int) (lo hi : Nat) (a : Option Addr) (cap : Nat) (ps : List (List Int)) (hl : ps.length ≤ 1048576) (hs : flat ps ≤ 1048576) (hc : codeP L V ps = 0) (hn : ps.length = 0 ∨ inB n 0 8 = false) (w : World) (hr : PRow lo hi w a ps) (hh : hi ≤ w.heap.size) :
    Calls Tryz.prog 7 #[.int .i64 L, .int .i64 V, .slice a ps.length cap, .int .i64 n] w (SerPost 0 0 [] 2 w) := by
  have HR := Lib.hid hr
  have HC := Lib.hid hc
  have HN := Lib.hid hn
  clear hr hc hn
  go_enter Tryz.func7, Tryz.ntmps7
  go_wp2_with fail
  refine (checkPaths1_c lo hi L V a cap ps hl hs (w.heap.size + 1 + 1) _ _ (HR.out.below (below3 w _ _ _) hh) (by go_simp)).mono ?_
  rw [HC.out]
  rintro e w1 ⟨rfl, hb⟩
  have hT := (((T3.new (w.alloc (.cells #[.slice a ps.length cap] 22)) 0 0 none 0 0 26).alloc (.cells #[.slice a ps.length cap] 22)).next hb)
  have HW1 := Lib.hid ((below3 w (.cells #[.slice a ps.length cap] 22) (.cells #[.int .i64 0, .int .i64 0, .slice none 0 0] 26) (.cells #[.slice a ps.length cap] 22)).trans (hb.mono (by simp; omega)))
  simp only [World.size_alloc] at hT
  obtain ⟨hz1, r0, r1, r2, z0, z1, z2⟩ := id hT
  have x0 : w1.cell? ⟨w.heap.size, 0, none⟩ = some (.slice a ps.length cap) := ((bcellB hb).1 _ _ (by simp; omega)).trans (by go_simp)
  clear hb hT
  by_cases hz : ps = []
  · subst hz
    clear HN HC HR
    go_wp2
    refine bodyPost_ret (v := .tuple #[.agg #[.int .i64 0, .int .i64 0, .slice none 0 0], .int .i64 2]) (by simp [results, Tryz.results7, go_sem, r0, r1, r2]) rfl (SerPost.err 2 rfl ?_)
    have hW := HW1.out
    go_grown
  · have hz0 : ¬ ps.length = 0 := fun e => hz (List.eq_nil_of_length_eq_zero e)
    have hzI : ¬ (ps.length : Int) = 0 := by omega
    have hB := HN.out.resolve_left hz0
    have HBt := Lib.hid hB
    clear hB
    go_wp2_with (first | (go_at_call 25; refine (isBetween_c _ _ _ _).mono ?_; rw [HBt.out]; rintro e w' ⟨rfl, rfl⟩) | fail)
    refine bodyPost_ret (v := .tuple #[.agg #[.int .i64 0, .int .i64 0, .slice none 0 0], .int .i64 2]) (by simp [results, Tryz.results7, go_sem, r0, r1, r2]) rfl (SerPost.err 2 rfl ?_)
    have hW := HW1.out
    go_grown
set_option maxRecDepth 100000 in
set_option maxHeartbeats 8000000 in
theorem iMn_3no (D N : Nat) (hD : 1 ≤ D ∧ D ≤ 3) (hN : 1 ≤ N ∧ N ≤ 5) (n : Int) (lo hi : Nat) (a : Option Addr) (cap : Nat) (ps : List (List Int)) (hl : ps.length ≤ 1048576) (hs : flat ps ≤ 1048576) (hp : pathB D ps = true) (hp0 : 1 ≤ ps.length) (hnb : inB n 0 8 = true) (hc : codeP D N ps = 0) (hq : meanV ps (allW D N) N = none) (w : World) (hr : PRow lo hi w a ps) (hh : hi ≤ w.heap.size) :
    Calls Tryz.prog 7 #[.int .i64 D, .int .i64 N, .slice a ps.length cap, .int .i64 n] w (SerPost 0 0 [] 3 w) := by
  have HR := Lib.hid hr
  have HC := Lib.hid hc
  have HP := Lib.hid hp
  have HQ := Lib.hid hq
  have hmf : ∀ (fn : Fn) (first cap : Array Value) (w : World), (Instr.makeFunc fn first cap).run Tryz.prog w = .ok (.func fn first cap) w := fun _ _ _ _ => rfl
  have hfew := allW_few (D := D) (by omega) (n := N) (by omega)
  have HWl := Lib.hid (show (allW D N).length ≤ 1048576 by omega)
  have HWs := Lib.hid (show ∀ s ∈ allW D N, s.size ≤ 1048576 from fun s hs => by have := allW_size D N s hs; omega)
  have hzL : ¬ ps = [] := fun e => by rw [e] at hp0; simp at hp0
  have hz0 : ¬ ps.length = 0 := by omega
  have hzI : ¬ (ps.length : Int) = 0 := by omega
  have HBt := Lib.hid (show inB n 0 8 = true from hnb)
  clear hr hc hp hq hfew hnb
  go_enter Tryz.func7, Tryz.ntmps7
  go_wp2_with fail
  refine (checkPaths1_c lo hi D N a cap ps hl hs (w.heap.size + 1 + 1) _ _ (HR.out.below (below3 w _ _ _) hh) (by go_simp)).mono ?_
  rw [HC.out]
  rintro e w1 ⟨rfl, hb⟩
  have hT := (((T3.new (w.alloc (.cells #[.slice a ps.length cap] 22)) 0 0 none 0 0 26).alloc (.cells #[.slice a ps.length cap] 22)).next hb)
  have HW1 := Lib.hid ((below3 w (.cells #[.slice a ps.length cap] 22) (.cells #[.int .i64 0, .int .i64 0, .slice none 0 0] 26) (.cells #[.slice a ps.length cap] 22)).trans (hb.mono (by simp; omega)))
  simp only [World.size_alloc] at hT
  have bc := bcellB hb
  have x0 : w1.cell? ⟨w.heap.size, 0, none⟩ = some (.slice a ps.length cap) := (bc.1 _ _ (by simp; omega)).trans (by go_simp)
  have HT := Lib.hid hT
  have hz1 := hT.1
  clear hb hT bc
  go_wp2_with (first | (go_at_call 25; refine (isBetween_c _ _ _ _).mono ?_; rw [HBt.out]; rintro e w' ⟨rfl, rfl⟩) | fail)
  refine (spaceOf_c D N (by omega) (by omega) _).mono ?_
  rintro e w4 ⟨aS, cS, rfl, hb4, hN4⟩
  have HW4 := Lib.hid (HW1.out.trans (hb4.mono HW1.out.size))
  have HT4 := Lib.hid (HT.out.next hb4)
  have hz4 := hb4.size
  have v0 := (hb4.cell (p := ⟨w.heap.size, 0, none⟩) (by show w.heap.size < _; omega)).trans x0
  have hba := below1 w4 (.cells #[.int .i64 D, .int .i64 N, .slice aS (allW D N).length cS] 50)
  have HW5 := Lib.hid (HW4.out.trans (hba.mono HW4.out.size))
  have HT5 := Lib.hid (HT4.out.next hba)
  have Kx0 := (hba.cell (p := ⟨w.heap.size, 0, none⟩) (by show w.heap.size < _; omega)).trans v0
  have Ks0 : (w4.alloc (.cells #[.int .i64 D, .int .i64 N, .slice aS (allW D N).length cS] 50)).cell? ⟨w4.heap.size, 0, none⟩ = some (.int .i64 D) := by go_simp
  have Ks1 : (w4.alloc (.cells #[.int .i64 D, .int .i64 N, .slice aS (allW D N).length cS] 50)).cell? ⟨w4.heap.size, 1, none⟩ = some (.int .i64 N) := by go_simp
  have Ks2 : (w4.alloc (.cells #[.int .i64 D, .int .i64 N, .slice aS (allW D N).length cS] 50)).cell? ⟨w4.heap.size, 2, none⟩ = some (.slice aS (allW D N).length cS) := by go_simp
  have HNs := Lib.hid (hN4.row.below hba (Nat.le_refl _))
  have hzz : (w4.alloc (.cells #[.int .i64 D, .int .i64 N, .slice aS (allW D N).length cS] 50)).heap.size = w4.heap.size + 1 := by simp
  have HWork := Lib.hid (fun W (hW : Below (w4.alloc (.cells #[.int .i64 D, .int .i64 N, .slice aS (allW D N).length cS] 50)).heap.size (w4.alloc (.cells #[.int .i64 D, .int .i64 N, .slice aS (allW D N).length cS] 50)) W) => (HQ.out ▸ meanWork D N hD hN w4.heap.size w.heap.size aS a cS cap lo hi ps HP.out hp0 W (by have := hW.size; omega) (by have := hW.size; omega) ((hW.cell (p := ⟨w4.heap.size, 0, none⟩) (by show w4.heap.size < _; omega)).trans Ks0) ((hW.cell (p := ⟨w4.heap.size, 1, none⟩) (by show w4.heap.size < _; omega)).trans Ks1) ((hW.cell (p := ⟨w4.heap.size, 2, none⟩) (by show w4.heap.size < _; omega)).trans Ks2) ((hW.cell (p := ⟨w.heap.size, 0, none⟩) (by show w.heap.size < _; omega)).trans Kx0) (HNs.out.below hW (Nat.le_refl _)) (HR.out.below (HW5.out.trans (hW.mono (by omega))) hh) (by have := hW.size; omega) : Calls Tryz.prog 28 #[.pointer (some ⟨w.heap.size, 0, none⟩), .pointer (some ⟨w4.heap.size, 0, none⟩)] W (WorkPost (none) W)))
  have HDoor := Lib.hid (door_no D N aS (allW D N).length cS 28 #[.pointer (some ⟨w.heap.size, 0, none⟩), .pointer (some ⟨w4.heap.size, 0, none⟩)] (fun _ => by kernel_rfl) (w4.alloc (.cells #[.int .i64 D, .int .i64 N, .slice aS (allW D N).length cS] 50)) HWork.out)
  clear hb4 hN4 x0 v0 Kx0 Ks0 Ks1 Ks2 hba
  go_wp2_with fail
  refine HDoor.out.mono ?_
  rintro e w6 ⟨rfl, hb6⟩
  have hT6 := HT5.out.next hb6
  have HW6 := Lib.hid (HW5.out.trans (hb6.mono HW5.out.size))
  obtain ⟨hzr, r0, r1, r2, z0, z1, z2⟩ := id hT6
  clear hb6 hT6
  go_wp2
  refine bodyPost_ret (v := .tuple #[.agg #[.int .i64 0, .int .i64 0, .slice none 0 0], .int .i64 3]) (by simp [results, Tryz.results7, go_sem, r0, r1, r2, hzr]) rfl (SerPost.err 3 rfl ?_)
  have hW := HW6.out
  go_grown
set_option maxRecDepth 100000 in
set_option maxHeartbeats 8000000 in
theorem iMn_3yes (D N : Nat) (hD : 1 ≤ D ∧ D ≤ 3) (hN : 1 ≤ N ∧ N ≤ 5) (K : Nat) (hK : K ≤ 8) (lo hi : Nat) (a : Option Addr) (cap : Nat) (ps : List (List Int)) (hl : ps.length ≤ 1048576) (hs : flat ps ≤ 1048576) (hp : pathB D ps = true) (hp0 : 1 ≤ ps.length) (hc : codeP D N ps = 0) (h : VF) (hsh : shapeB (D : Int) (N : Int) = true) (hq : meanV ps (allW D N) N = some h) (w : World) (hr : PRow lo hi w a ps) (hh : hi ≤ w.heap.size) :
    Calls Tryz.prog 7 #[.int .i64 D, .int .i64 N, .slice a ps.length cap, .int .i64 K] w (FitV D N (powV h (allW D N) K) w) := by
  have HR := Lib.hid hr
  have HC := Lib.hid hc
  have HP := Lib.hid hp
  have HQ := Lib.hid hq
  have HGd := Lib.hid (meanV_good hq)
  have hmf : ∀ (fn : Fn) (first cap : Array Value) (w : World), (Instr.makeFunc fn first cap).run Tryz.prog w = .ok (.func fn first cap) w := fun _ _ _ _ => rfl
  have hfew := allW_few (D := D) (by omega) (n := N) (by omega)
  have HWl := Lib.hid (show (allW D N).length ≤ 1048576 by omega)
  have HWs := Lib.hid (show ∀ s ∈ allW D N, s.size ≤ 1048576 from fun s hs => by have := allW_size D N s hs; omega)
  have hzL : ¬ ps = [] := fun e => by rw [e] at hp0; simp at hp0
  have hz0 : ¬ ps.length = 0 := by omega
  have hzI : ¬ (ps.length : Int) = 0 := by omega
  have HBt := Lib.hid (show inB (K : Int) 0 8 = true from inB_yes (by omega))
  clear hr hc hp hq hfew
  go_enter Tryz.func7, Tryz.ntmps7
  go_wp2_with fail
  refine (checkPaths1_c lo hi D N a cap ps hl hs (w.heap.size + 1 + 1) _ _ (HR.out.below (below3 w _ _ _) hh) (by go_simp)).mono ?_
  rw [HC.out]
  rintro e w1 ⟨rfl, hb⟩
  have hT := (((T3.new (w.alloc (.cells #[.slice a ps.length cap] 22)) 0 0 none 0 0 26).alloc (.cells #[.slice a ps.length cap] 22)).next hb)
  have HW1 := Lib.hid ((below3 w (.cells #[.slice a ps.length cap] 22) (.cells #[.int .i64 0, .int .i64 0, .slice none 0 0] 26) (.cells #[.slice a ps.length cap] 22)).trans (hb.mono (by simp; omega)))
  simp only [World.size_alloc] at hT
  have bc := bcellB hb
  have x0 : w1.cell? ⟨w.heap.size, 0, none⟩ = some (.slice a ps.length cap) := (bc.1 _ _ (by simp; omega)).trans (by go_simp)
  have HT := Lib.hid hT
  have hz1 := hT.1
  clear hb hT bc
  go_wp2_with (first | (go_at_call 25; refine (isBetween_c _ _ _ _).mono ?_; rw [HBt.out]; rintro e w' ⟨rfl, rfl⟩) | fail)
  refine (spaceOf_c D N (by omega) (by omega) _).mono ?_
  rintro e w4 ⟨aS, cS, rfl, hb4, hN4⟩
  have HW4 := Lib.hid (HW1.out.trans (hb4.mono HW1.out.size))
  have HT4 := Lib.hid (HT.out.next hb4)
  have hz4 := hb4.size
  have v0 := (hb4.cell (p := ⟨w.heap.size, 0, none⟩) (by show w.heap.size < _; omega)).trans x0
  have hba := below1 w4 (.cells #[.int .i64 D, .int .i64 N, .slice aS (allW D N).length cS] 50)
  have HW5 := Lib.hid (HW4.out.trans (hba.mono HW4.out.size))
  have HT5 := Lib.hid (HT4.out.next hba)
  have Kx0 := (hba.cell (p := ⟨w.heap.size, 0, none⟩) (by show w.heap.size < _; omega)).trans v0
  have Ks0 : (w4.alloc (.cells #[.int .i64 D, .int .i64 N, .slice aS (allW D N).length cS] 50)).cell? ⟨w4.heap.size, 0, none⟩ = some (.int .i64 D) := by go_simp
  have Ks1 : (w4.alloc (.cells #[.int .i64 D, .int .i64 N, .slice aS (allW D N).length cS] 50)).cell? ⟨w4.heap.size, 1, none⟩ = some (.int .i64 N) := by go_simp
  have Ks2 : (w4.alloc (.cells #[.int .i64 D, .int .i64 N, .slice aS (allW D N).length cS] 50)).cell? ⟨w4.heap.size, 2, none⟩ = some (.slice aS (allW D N).length cS) := by go_simp
  have HNs := Lib.hid (hN4.row.below hba (Nat.le_refl _))
  have hzz : (w4.alloc (.cells #[.int .i64 D, .int .i64 N, .slice aS (allW D N).length cS] 50)).heap.size = w4.heap.size + 1 := by simp
  have HWork := Lib.hid (fun W (hW : Below (w4.alloc (.cells #[.int .i64 D, .int .i64 N, .slice aS (allW D N).length cS] 50)).heap.size (w4.alloc (.cells #[.int .i64 D, .int .i64 N, .slice aS (allW D N).length cS] 50)) W) => (HQ.out ▸ meanWork D N hD hN w4.heap.size w.heap.size aS a cS cap lo hi ps HP.out hp0 W (by have := hW.size; omega) (by have := hW.size; omega) ((hW.cell (p := ⟨w4.heap.size, 0, none⟩) (by show w4.heap.size < _; omega)).trans Ks0) ((hW.cell (p := ⟨w4.heap.size, 1, none⟩) (by show w4.heap.size < _; omega)).trans Ks1) ((hW.cell (p := ⟨w4.heap.size, 2, none⟩) (by show w4.heap.size < _; omega)).trans Ks2) ((hW.cell (p := ⟨w.heap.size, 0, none⟩) (by show w.heap.size < _; omega)).trans Kx0) (HNs.out.below hW (Nat.le_refl _)) (HR.out.below (HW5.out.trans (hW.mono (by omega))) hh) (by have := hW.size; omega) : Calls Tryz.prog 28 #[.pointer (some ⟨w.heap.size, 0, none⟩), .pointer (some ⟨w4.heap.size, 0, none⟩)] W (WorkPost (some h) W)))
  have HDoor := Lib.hid (door_yes D N aS cS (allW D N) HWl.out HWs.out h 28 #[.pointer (some ⟨w.heap.size, 0, none⟩), .pointer (some ⟨w4.heap.size, 0, none⟩)] (fun _ => by kernel_rfl) (w4.alloc (.cells #[.int .i64 D, .int .i64 N, .slice aS (allW D N).length cS] 50)) HWork.out HNs.out)
  clear hb4 hN4 x0 v0 Kx0 Ks0 Ks1 Ks2 hba
  go_wp2_with fail
  refine HDoor.out.mono ?_
  rintro e w6 ⟨a4, c4, rfl, hb6, hN6⟩
  have hT6 := HT5.out.next hb6
  have HW6 := Lib.hid (HW5.out.trans (hb6.mono HW5.out.size))
  have HN4 := Lib.hid hN6
  have hz6 := hb6.size
  have HT6 := Lib.hid hT6
  have hser := ser_terms hsh HGd.out
  have HPw := Lib.hid (fun W (r : Row W a4 (termsOf h (allW D N))) => iPowR_3 D N K a4 c4 (termsOf h (allW D N)) (by have := termsOf_len h (allW D N); have := HWl.out; omega) (fun i hi => by have := allW_size D N _ (termsOf_iff.1 (List.getElem_mem hi)).1; unfold maxLen; omega) hser (by omega) W r)
  rw [valV_terms hsh HGd.out] at HPw
  clear hb6 hT6 hN6 hser
  go_wp2_with fail
  refine (HPw.out _ (HN4.out.row.below (below1 _ _))).mono ?_
  have HX := Lib.hid (HN4)
  cases hv : powV h (allW D N) K with
  | none =>
    have HVv := Lib.hid hv
    rintro e w7 h7
    obtain ⟨a7, c7, rfl, hb7, hN7⟩ := (show SerPost 0 0 [] 3 _ e w7 from h7)
    have hb67 := (below1 w6 _).trans (hb7.mono (by simp))
    have hT7 := HT6.out.next hb67
    have HW7 := Lib.hid (HW6.out.trans (hb67.mono HW6.out.size))
    obtain ⟨hzr, r0, r1, r2, z0, z1, z2⟩ := id hT7
    have HN7 := Lib.hid hN7
    clear hb7 hT7 hN7 hb67 hv
    go_wp2
    rw [HVv.out]
    refine bodyPost_ret (v := .tuple #[.agg #[.int .i64 0, .int .i64 0, .slice a7 0 c7], .int .i64 3]) (by simp [results, Tryz.results7, go_sem, r0, r1, r2]) rfl ⟨a7, c7, rfl, ?_, .inl rfl⟩
    have hW := HW7.out
    go_grown
  | some q =>
    have HVv := Lib.hid hv
    rintro e w7 h7
    obtain ⟨a7, c7, rfl, hb7, hN7⟩ := (show SerPost D N (termsOf q (allW D N)) 0 _ e w7 from h7)
    have hb67 := (below1 w6 _).trans (hb7.mono (by simp))
    have hT7 := HT6.out.next hb67
    have HW7 := Lib.hid (HW6.out.trans (hb67.mono HW6.out.size))
    obtain ⟨hzr, r0, r1, r2, z0, z1, z2⟩ := id hT7
    simp only [World.size_alloc] at hN7
    have HN7 := Lib.hid hN7
    have hz67 := hb67.size
    clear hb7 hT7 hN7 hb67 hv
    go_wp2
    rw [HVv.out]
    refine bodyPost_ret (v := .tuple #[.agg #[.int .i64 D, .int .i64 N, .slice a7 (termsOf q (allW D N)).length c7], .int .i64 0]) (by simp [results, Tryz.results7, go_sem, r0, r1, r2]) rfl ⟨a7, c7, rfl, ?_, ?_⟩
    · have hW := HW7.out
      go_grown
    · exact (((HN7.out.far1s (by omega)).far1s (by omega)).far1s (by omega)).mono (by omega) (by simp)
end Go.Proofs.YteljpgoaaelbfaaGreatDoor
