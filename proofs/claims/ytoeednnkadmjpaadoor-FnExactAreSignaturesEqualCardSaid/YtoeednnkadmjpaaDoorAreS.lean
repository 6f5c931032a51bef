/-
  AreSignaturesEqual: contracts of the program and of the model.
-/
import Derived.Test.YtoeednnkadmjpaaDoorAreQ
import Derived.Test.YtoeednnkadmjpaaDoorSigS
import Derived.Test.YtoeednnkadmjpaaDoorSigI
namespace Go.Proofs.YtoeednnkadmjpaaDoor
open Go.RowKit

/-- what is told: a bool and a code -/
def BcPost (b : Bool) (c : Int) (W : World) (e : Ending) (w' : World) : Prop := e = .returned (.tuple #[.bool b, .int .i64 c]) ∧ Below W.heap.size W w'

set_option maxHeartbeats 1000000 in
theorem sAre_1 (L V : Int) (lo hi lo2 hi2 : Nat) (a b : Option Addr) (ca cb : Nat) (ps qs : List (List Int)) (hl : ps.length ≤ 1048576) (hs : flat ps ≤ 1048576) (hl2 : qs.length ≤ 1048576) (hs2 : flat qs ≤ 1048576) (w : World) (hr : PRow lo hi w a ps) (hr2 : PRow lo2 hi2 w b qs) (hh : hi ≤ w.heap.size) (hh2 : hi2 ≤ w.heap.size) (c : Int) (hc : codeP2 L V ps qs = c) (hn : c ≠ 0) :
    Calls Tryd.prog 29 #[.int .i64 L, .int .i64 V, .slice a ps.length ca, .slice b qs.length cb] w (BcPost false c w) := by
  have HR := Lib.hid hr
  have HR2 := Lib.hid hr2
  have HC := Lib.hid hc
  have hnb : (c != 0) = true := by simpa using hn
  clear hr hr2 hc
  go_enter Tryd.func29, Tryd.ntmps29
  go_wp2_with fail
  refine (l04Code2_c lo hi lo2 hi2 L V a b ca cb ps qs hl hs hl2 hs2 w.heap.size _ _ (HR.out.below (below1 w _) hh) (HR2.out.below (below1 w _) hh2) (by go_simp) (by go_simp)).mono ?_
  rw [HC.out]
  rintro e w1 ⟨rfl, hb⟩
  have HW1 := Lib.hid ((below1 w (.cells #[.slice a ps.length ca, .slice b qs.length cb] 41)).trans (hb.mono (by simp)))
  clear hb
  go_wp2
  go_ret2
  exact ⟨rfl, HW1.out⟩

set_option maxHeartbeats 1000000 in
theorem iAre_1 (L V : Int) (lo hi lo2 hi2 : Nat) (a b : Option Addr) (ca cb : Nat) (ps qs : List (List Int)) (hl : ps.length ≤ 1048576) (hs : flat ps ≤ 1048576) (hl2 : qs.length ≤ 1048576) (hs2 : flat qs ≤ 1048576) (w : World) (hr : PRow lo hi w a ps) (hr2 : PRow lo2 hi2 w b qs) (hh : hi ≤ w.heap.size) (hh2 : hi2 ≤ w.heap.size) (c : Int) (hc : codeP2 L V ps qs = c) (hn : c ≠ 0) :
    Calls Tryd.prog 31 #[.int .i64 L, .int .i64 V, .slice a ps.length ca, .slice b qs.length cb] w (BcPost false c w) := by
  have HR := Lib.hid hr
  have HR2 := Lib.hid hr2
  have HC := Lib.hid hc
  have hnb : (c != 0) = true := by simpa using hn
  clear hr hr2 hc
  go_enter Tryd.func31, Tryd.ntmps31
  go_wp2_with fail
  refine (checkPaths2_c lo hi lo2 hi2 L V a b ca cb ps qs hl hs hl2 hs2 w.heap.size _ _ (HR.out.below (below1 w _) hh) (HR2.out.below (below1 w _) hh2) (by go_simp) (by go_simp)).mono ?_
  rw [HC.out]
  rintro e w1 ⟨rfl, hb⟩
  have HW1 := Lib.hid ((below1 w (.cells #[.slice a ps.length ca, .slice b qs.length cb] 41)).trans (hb.mono (by simp)))
  clear hb
  go_wp2
  go_ret2
  exact ⟨rfl, HW1.out⟩

set_option maxRecDepth 100000 in
set_option maxHeartbeats 4000000 in
theorem iAre_2 (D N : Nat) (hD : 1 ≤ D ∧ D ≤ 3) (hN : 1 ≤ N ∧ N ≤ 5) (lo hi lo2 hi2 : Nat) (a b : Option Addr) (ca cb : Nat) (ps qs : List (List Int)) (hl : ps.length ≤ 1048576) (hs : flat ps ≤ 1048576) (hl2 : qs.length ≤ 1048576) (hs2 : flat qs ≤ 1048576) (w : World) (hr : PRow lo hi w a ps) (hr2 : PRow lo2 hi2 w b qs) (hh : hi ≤ w.heap.size) (hh2 : hi2 ≤ w.heap.size) (hc : codeP2 D N ps qs = 0) (hp1 : pathB D ps = true) (hp2 : pathB D qs = true) (hc1 : codeP D N ps = 0) (hc2 : codeP D N qs = 0) (hq : sigV ps (allW D N) N ps.length = none) :
    Calls Tryd.prog 31 #[.int .i64 D, .int .i64 N, .slice a ps.length ca, .slice b qs.length cb] w (BcPost false 3 w) := by
  have HQ := Lib.hid hq
  clear hq
  have HR := Lib.hid hr
  have HR2 := Lib.hid hr2
  have HC := Lib.hid hc
  have HP1 := Lib.hid hp1
  have HP2 := Lib.hid hp2
  have HC1 := Lib.hid hc1
  have HC2 := Lib.hid hc2
  clear hr hr2 hc hp1 hp2 hc1 hc2
  go_enter Tryd.func31, Tryd.ntmps31
  go_wp2_with fail
  refine (checkPaths2_c lo hi lo2 hi2 D N a b ca cb ps qs hl hs hl2 hs2 w.heap.size _ _ (HR.out.below (below1 w _) hh) (HR2.out.below (below1 w _) hh2) (by go_simp) (by go_simp)).mono ?_
  rw [HC.out]
  rintro e w1 ⟨rfl, hb⟩
  have HW1 := Lib.hid ((below1 w (.cells #[.slice a ps.length ca, .slice b qs.length cb] 41)).trans (hb.mono (by simp)))
  have hz1 := HW1.out.size
  clear hb
  go_wp2_with fail
  refine (iSig_3no D N hD hN lo hi a ca ps hl hs HP1.out HC1.out HQ.out w1 (HR.out.below HW1.out hh) (by omega)).mono ?_
  rintro e w2 ⟨a2, c2, rfl, hb2, hN2⟩
  have HW2 := Lib.hid (HW1.out.trans (hb2.mono hz1))
  clear hb2 hN2
  go_wp2
  go_ret2
  exact ⟨rfl, HW2.out.alloc (HW2.out.size) _⟩

set_option maxRecDepth 100000 in
set_option maxHeartbeats 4000000 in
theorem iAre_3 (D N : Nat) (hD : 1 ≤ D ∧ D ≤ 3) (hN : 1 ≤ N ∧ N ≤ 5) (lo hi lo2 hi2 : Nat) (a b : Option Addr) (ca cb : Nat) (ps qs : List (List Int)) (hl : ps.length ≤ 1048576) (hs : flat ps ≤ 1048576) (hl2 : qs.length ≤ 1048576) (hs2 : flat qs ≤ 1048576) (w : World) (hr : PRow lo hi w a ps) (hr2 : PRow lo2 hi2 w b qs) (hh : hi ≤ w.heap.size) (hh2 : hi2 ≤ w.heap.size) (hc : codeP2 D N ps qs = 0) (hp1 : pathB D ps = true) (hp2 : pathB D qs = true) (hc1 : codeP D N ps = 0) (hc2 : codeP D N qs = 0) (h : VF) (hq : sigV ps (allW D N) N ps.length = some h) (hq2 : sigV qs (allW D N) N qs.length = none) :
    Calls Tryd.prog 31 #[.int .i64 D, .int .i64 N, .slice a ps.length ca, .slice b qs.length cb] w (BcPost false 3 w) := by
  have HQ := Lib.hid hq
  have HQ2 := Lib.hid hq2
  clear hq hq2
  have HR := Lib.hid hr
  have HR2 := Lib.hid hr2
  have HC := Lib.hid hc
  have HP1 := Lib.hid hp1
  have HP2 := Lib.hid hp2
  have HC1 := Lib.hid hc1
  have HC2 := Lib.hid hc2
  clear hr hr2 hc hp1 hp2 hc1 hc2
  go_enter Tryd.func31, Tryd.ntmps31
  go_wp2_with fail
  refine (checkPaths2_c lo hi lo2 hi2 D N a b ca cb ps qs hl hs hl2 hs2 w.heap.size _ _ (HR.out.below (below1 w _) hh) (HR2.out.below (below1 w _) hh2) (by go_simp) (by go_simp)).mono ?_
  rw [HC.out]
  rintro e w1 ⟨rfl, hb⟩
  have HW1 := Lib.hid ((below1 w (.cells #[.slice a ps.length ca, .slice b qs.length cb] 41)).trans (hb.mono (by simp)))
  have hz1 := HW1.out.size
  clear hb
  go_wp2_with fail
  refine (iSig_3yes D N hD hN lo hi a ca ps hl hs HP1.out HC1.out h HQ.out w1 (HR.out.below HW1.out hh) (by omega)).mono ?_
  rintro e w2 ⟨a2, c2, rfl, hb2, hN2⟩
  have HW2 := Lib.hid (HW1.out.trans (hb2.mono hz1))
  have hz2 := hb2.size
  have HN2 := Lib.hid hN2
  have HW3 := Lib.hid (HW2.out.trans ((below1 w2 (.cells #[.int .i64 D, .int .i64 N, .slice a2 (termsOf h (allW D N)).length c2] 24)).mono (by omega)))
  clear hb2 hN2
  go_wp2_with fail
  refine (iSig_3no D N hD hN lo2 hi2 b cb qs hl2 hs2 HP2.out HC2.out HQ2.out _ (HR2.out.below HW3.out hh2) (by simp; omega)).mono ?_
  rintro e w4 ⟨a4, c4, rfl, hb4, _⟩
  have HW4 := Lib.hid (HW3.out.trans (hb4.mono (by simp; omega)))
  clear hb4
  go_wp2
  go_ret2
  exact ⟨rfl, HW4.out.alloc (HW4.out.size) _⟩

set_option maxRecDepth 100000 in
set_option maxHeartbeats 4000000 in
theorem iAre_4 (D N : Nat) (hD : 1 ≤ D ∧ D ≤ 3) (hN : 1 ≤ N ∧ N ≤ 5) (lo hi lo2 hi2 : Nat) (a b : Option Addr) (ca cb : Nat) (ps qs : List (List Int)) (hl : ps.length ≤ 1048576) (hs : flat ps ≤ 1048576) (hl2 : qs.length ≤ 1048576) (hs2 : flat qs ≤ 1048576) (w : World) (hr : PRow lo hi w a ps) (hr2 : PRow lo2 hi2 w b qs) (hh : hi ≤ w.heap.size) (hh2 : hi2 ≤ w.heap.size) (hc : codeP2 D N ps qs = 0) (hp1 : pathB D ps = true) (hp2 : pathB D qs = true) (hc1 : codeP D N ps = 0) (hc2 : codeP D N qs = 0) (h h2 : VF) (hq : sigV ps (allW D N) N ps.length = some h) (hq2 : sigV qs (allW D N) N qs.length = some h2) (hx : (termsOf h (allW D N)).length ≤ 1048576) (hy : (termsOf h2 (allW D N)).length ≤ 1048576) (r : Bool) (hbr : r = true ↔ termsOf h (allW D N) = termsOf h2 (allW D N)) :
    Calls Tryd.prog 31 #[.int .i64 D, .int .i64 N, .slice a ps.length ca, .slice b qs.length cb] w (BcPost r 0 w) := by
  have HQ := Lib.hid hq
  have HQ2 := Lib.hid hq2
  have HBr := Lib.hid hbr
  clear hq hq2 hbr
  have HR := Lib.hid hr
  have HR2 := Lib.hid hr2
  have HC := Lib.hid hc
  have HP1 := Lib.hid hp1
  have HP2 := Lib.hid hp2
  have HC1 := Lib.hid hc1
  have HC2 := Lib.hid hc2
  clear hr hr2 hc hp1 hp2 hc1 hc2
  go_enter Tryd.func31, Tryd.ntmps31
  go_wp2_with fail
  refine (checkPaths2_c lo hi lo2 hi2 D N a b ca cb ps qs hl hs hl2 hs2 w.heap.size _ _ (HR.out.below (below1 w _) hh) (HR2.out.below (below1 w _) hh2) (by go_simp) (by go_simp)).mono ?_
  rw [HC.out]
  rintro e w1 ⟨rfl, hb⟩
  have HW1 := Lib.hid ((below1 w (.cells #[.slice a ps.length ca, .slice b qs.length cb] 41)).trans (hb.mono (by simp)))
  have hz1 := HW1.out.size
  clear hb
  go_wp2_with fail
  refine (iSig_3yes D N hD hN lo hi a ca ps hl hs HP1.out HC1.out h HQ.out w1 (HR.out.below HW1.out hh) (by omega)).mono ?_
  rintro e w2 ⟨a2, c2, rfl, hb2, hN2⟩
  have HW2 := Lib.hid (HW1.out.trans (hb2.mono hz1))
  have hz2 := hb2.size
  have HN2 := Lib.hid hN2
  have HW3 := Lib.hid (HW2.out.trans ((below1 w2 (.cells #[.int .i64 D, .int .i64 N, .slice a2 (termsOf h (allW D N)).length c2] 24)).mono (by omega)))
  clear hb2 hN2
  go_wp2_with fail
  refine (iSig_3yes D N hD hN lo2 hi2 b cb qs hl2 hs2 HP2.out HC2.out h2 HQ2.out _ (HR2.out.below HW3.out hh2) (by simp; omega)).mono ?_
  rintro e w4 ⟨a4, c4, rfl, hb4, hN4⟩
  have hz4 := hb4.size
  have HW4 := Lib.hid (HW3.out.trans (hb4.mono (by simp; omega)))
  have x2 : w4.cell? ⟨w2.heap.size, 2, none⟩ = some (.slice a2 (termsOf h (allW D N)).length c2) := (hb4.cell (p := ⟨w2.heap.size, 2, none⟩) (by show w2.heap.size < _; simp)).trans (by go_simp)
  have hzz : w2.heap.size < w4.heap.size := by simp at hz4; omega
  have HR5 := Lib.hid (RowB.of_row (((HN2.out.rowB.below ((below1 w2 (.cells #[.int .i64 D, .int .i64 N, .slice a2 (termsOf h (allW D N)).length c2] 24)).trans (hb4.mono (by simp))) (Nat.le_refl _)).row (by omega)) : Row w4 a2 (termsOf h (allW D N))))
  have HR6 := Lib.hid hN4.rowB
  obtain ⟨xs, hxs⟩ : ∃ xs, termsOf h (allW D N) = xs := ⟨_, rfl⟩
  obtain ⟨ys, hys⟩ : ∃ ys, termsOf h2 (allW D N) = ys := ⟨_, rfl⟩
  rw [hxs] at x2 hx HR5 HBr
  rw [hys] at hy HR6 HBr
  simp only [hxs, hys]
  clear hb4 hN4 hxs hys HN2
  go_wp2_with fail
  refine (slicesEqT_c a2 a4 c2 c4 xs ys hx hy r HBr.out _ ((HR5.out.below (below1 w4 _) (Nat.le_refl _)).row (by simp)) ((HR6.out.below (below1 w4 _) (Nat.le_refl _)).row (by simp))).mono ?_
  rintro e w6 ⟨rfl, hb6⟩
  have HW6 := Lib.hid ((HW4.out.alloc HW4.out.size (.cells #[.int .i64 D, .int .i64 N, .slice a4 ys.length c4] 24)).trans (hb6.mono (by have := HW4.out.size; simp; omega)))
  clear hb6
  go_wp2
  go_ret2
  exact ⟨rfl, HW6.out⟩

set_option maxRecDepth 100000 in
set_option maxHeartbeats 4000000 in
theorem sAre_2 (D N : Nat) (hD : 1 ≤ D ∧ D ≤ 3) (hN : 1 ≤ N ∧ N ≤ 5) (lo hi lo2 hi2 : Nat) (a b : Option Addr) (ca cb : Nat) (ps qs : List (List Int)) (hl : ps.length ≤ 1048576) (hs : flat ps ≤ 1048576) (hl2 : qs.length ≤ 1048576) (hs2 : flat qs ≤ 1048576) (w : World) (hr : PRow lo hi w a ps) (hr2 : PRow lo2 hi2 w b qs) (hh : hi ≤ w.heap.size) (hh2 : hi2 ≤ w.heap.size) (hc : codeP2 D N ps qs = 0) (hp1 : pathB D ps = true) (hp2 : pathB D qs = true) (hc1 : codeP D N ps = 0) (hc2 : codeP D N qs = 0) (hq : sigV ps (allW D N) N ps.length = none) :
    Calls Tryd.prog 29 #[.int .i64 D, .int .i64 N, .slice a ps.length ca, .slice b qs.length cb] w (BcPost false 3 w) := by
  have HQ := Lib.hid hq
  clear hq
  have HR := Lib.hid hr
  have HR2 := Lib.hid hr2
  have HC := Lib.hid hc
  have HP1 := Lib.hid hp1
  have HP2 := Lib.hid hp2
  have HC1 := Lib.hid hc1
  have HC2 := Lib.hid hc2
  clear hr hr2 hc hp1 hp2 hc1 hc2
  go_enter Tryd.func29, Tryd.ntmps29
  go_wp2_with fail
  refine (l04Code2_c lo hi lo2 hi2 D N a b ca cb ps qs hl hs hl2 hs2 w.heap.size _ _ (HR.out.below (below1 w _) hh) (HR2.out.below (below1 w _) hh2) (by go_simp) (by go_simp)).mono ?_
  rw [HC.out]
  rintro e w1 ⟨rfl, hb⟩
  have HW1 := Lib.hid ((below1 w (.cells #[.slice a ps.length ca, .slice b qs.length cb] 41)).trans (hb.mono (by simp)))
  have hz1 := HW1.out.size
  clear hb
  go_wp2_with fail
  have HSg := Lib.hid (l04Signature_c D N hD hN lo hi a ca ps HP1.out w1 (HR.out.below HW1.out hh) (by omega))
  refine HSg.out.mono ?_
  rintro e w2 hsp
  obtain ⟨X1, Y1, a2, l2, c2, ok1, rfl, hb2, hU1⟩ := hsp.u
  have hz2 := hb2.size
  have HW2 := Lib.hid (HW1.out.trans (hb2.mono hz1))
  have HU1 := Lib.hid hU1
  have HW3 := Lib.hid (HW2.out.trans ((below1 w2 (.cells #[.int .i64 X1, .int .i64 Y1, .slice a2 l2 c2] 24)).mono (by omega)))
  clear hb2 hU1 HSg
  go_wp2_with fail
  refine (l04Signature_c D N hD hN lo2 hi2 b cb qs HP2.out _ (HR2.out.below HW3.out hh2) (by simp; omega)).mono ?_
  rintro e w4 hsp
  obtain ⟨X2, Y2, a4, l4, c4, ok2, rfl, hb4, hU2⟩ := hsp.u
  have hz4 := hb4.size
  have HW4 := Lib.hid (HW3.out.trans (hb4.mono (by simp; omega)))
  have HU1' := Lib.hid (HU1.out.below ((below1 w2 (.cells #[.int .i64 X1, .int .i64 Y1, .slice a2 l2 c2] 24)).trans (hb4.mono (by simp))))
  have HU2 := Lib.hid hU2
  have x0 : w4.cell? ⟨w2.heap.size, 0, none⟩ = some (.int .i64 X1) := (hb4.cell (p := ⟨w2.heap.size, 0, none⟩) (by show w2.heap.size < _; simp)).trans (by go_simp)
  have x1 : w4.cell? ⟨w2.heap.size, 1, none⟩ = some (.int .i64 Y1) := (hb4.cell (p := ⟨w2.heap.size, 1, none⟩) (by show w2.heap.size < _; simp)).trans (by go_simp)
  have x2 : w4.cell? ⟨w2.heap.size, 2, none⟩ = some (.slice a2 l2 c2) := (hb4.cell (p := ⟨w2.heap.size, 2, none⟩) (by show w2.heap.size < _; simp)).trans (by go_simp)
  have hzz : w2.heap.size < w4.heap.size := by simp at hz4; omega
  clear hb4 hU2 HU1
  have hU := HU1'.out
  rw [HQ.out] at hU
  obtain ⟨rfl, rfl, rfl, rfl, rfl, rfl⟩ := hU
  clear HU1' HU2
  go_wp2
  go_ret2
  exact ⟨rfl, HW4.out.alloc (HW4.out.size) _⟩

set_option maxRecDepth 100000 in
set_option maxHeartbeats 4000000 in
theorem sAre_3 (D N : Nat) (hD : 1 ≤ D ∧ D ≤ 3) (hN : 1 ≤ N ∧ N ≤ 5) (lo hi lo2 hi2 : Nat) (a b : Option Addr) (ca cb : Nat) (ps qs : List (List Int)) (hl : ps.length ≤ 1048576) (hs : flat ps ≤ 1048576) (hl2 : qs.length ≤ 1048576) (hs2 : flat qs ≤ 1048576) (w : World) (hr : PRow lo hi w a ps) (hr2 : PRow lo2 hi2 w b qs) (hh : hi ≤ w.heap.size) (hh2 : hi2 ≤ w.heap.size) (hc : codeP2 D N ps qs = 0) (hp1 : pathB D ps = true) (hp2 : pathB D qs = true) (hc1 : codeP D N ps = 0) (hc2 : codeP D N qs = 0) (hq2 : sigV qs (allW D N) N qs.length = none) :
    Calls Tryd.prog 29 #[.int .i64 D, .int .i64 N, .slice a ps.length ca, .slice b qs.length cb] w (BcPost false 3 w) := by
  have HQ2 := Lib.hid hq2
  clear hq2
  have HR := Lib.hid hr
  have HR2 := Lib.hid hr2
  have HC := Lib.hid hc
  have HP1 := Lib.hid hp1
  have HP2 := Lib.hid hp2
  have HC1 := Lib.hid hc1
  have HC2 := Lib.hid hc2
  clear hr hr2 hc hp1 hp2 hc1 hc2
  go_enter Tryd.func29, Tryd.ntmps29
  go_wp2_with fail
  refine (l04Code2_c lo hi lo2 hi2 D N a b ca cb ps qs hl hs hl2 hs2 w.heap.size _ _ (HR.out.below (below1 w _) hh) (HR2.out.below (below1 w _) hh2) (by go_simp) (by go_simp)).mono ?_
  rw [HC.out]
  rintro e w1 ⟨rfl, hb⟩
  have HW1 := Lib.hid ((below1 w (.cells #[.slice a ps.length ca, .slice b qs.length cb] 41)).trans (hb.mono (by simp)))
  have hz1 := HW1.out.size
  clear hb
  go_wp2_with fail
  have HSg := Lib.hid (l04Signature_c D N hD hN lo hi a ca ps HP1.out w1 (HR.out.below HW1.out hh) (by omega))
  refine HSg.out.mono ?_
  rintro e w2 hsp
  obtain ⟨X1, Y1, a2, l2, c2, ok1, rfl, hb2, hU1⟩ := hsp.u
  have hz2 := hb2.size
  have HW2 := Lib.hid (HW1.out.trans (hb2.mono hz1))
  have HU1 := Lib.hid hU1
  have HW3 := Lib.hid (HW2.out.trans ((below1 w2 (.cells #[.int .i64 X1, .int .i64 Y1, .slice a2 l2 c2] 24)).mono (by omega)))
  clear hb2 hU1 HSg
  go_wp2_with fail
  refine (l04Signature_c D N hD hN lo2 hi2 b cb qs HP2.out _ (HR2.out.below HW3.out hh2) (by simp; omega)).mono ?_
  rintro e w4 hsp
  obtain ⟨X2, Y2, a4, l4, c4, ok2, rfl, hb4, hU2⟩ := hsp.u
  have hz4 := hb4.size
  have HW4 := Lib.hid (HW3.out.trans (hb4.mono (by simp; omega)))
  have HU1' := Lib.hid (HU1.out.below ((below1 w2 (.cells #[.int .i64 X1, .int .i64 Y1, .slice a2 l2 c2] 24)).trans (hb4.mono (by simp))))
  have HU2 := Lib.hid hU2
  have x0 : w4.cell? ⟨w2.heap.size, 0, none⟩ = some (.int .i64 X1) := (hb4.cell (p := ⟨w2.heap.size, 0, none⟩) (by show w2.heap.size < _; simp)).trans (by go_simp)
  have x1 : w4.cell? ⟨w2.heap.size, 1, none⟩ = some (.int .i64 Y1) := (hb4.cell (p := ⟨w2.heap.size, 1, none⟩) (by show w2.heap.size < _; simp)).trans (by go_simp)
  have x2 : w4.cell? ⟨w2.heap.size, 2, none⟩ = some (.slice a2 l2 c2) := (hb4.cell (p := ⟨w2.heap.size, 2, none⟩) (by show w2.heap.size < _; simp)).trans (by go_simp)
  have hzz : w2.heap.size < w4.heap.size := by simp at hz4; omega
  clear hb4 hU2 HU1
  have hU := HU2.out
  rw [HQ2.out] at hU
  obtain ⟨rfl, rfl, rfl, rfl, rfl, rfl⟩ := hU
  clear HU1' HU2
  cases ok1 with
  | false =>
    go_wp2
    go_ret2
    exact ⟨rfl, HW4.out.alloc (HW4.out.size) _⟩
  | true =>
    go_wp2
    go_ret2
    exact ⟨rfl, HW4.out.alloc (HW4.out.size) _⟩

set_option maxRecDepth 100000 in
set_option maxHeartbeats 4000000 in
theorem sAre_4 (D N : Nat) (hD : 1 ≤ D ∧ D ≤ 3) (hN : 1 ≤ N ∧ N ≤ 5) (lo hi lo2 hi2 : Nat) (a b : Option Addr) (ca cb : Nat) (ps qs : List (List Int)) (hl : ps.length ≤ 1048576) (hs : flat ps ≤ 1048576) (hl2 : qs.length ≤ 1048576) (hs2 : flat qs ≤ 1048576) (w : World) (hr : PRow lo hi w a ps) (hr2 : PRow lo2 hi2 w b qs) (hh : hi ≤ w.heap.size) (hh2 : hi2 ≤ w.heap.size) (hc : codeP2 D N ps qs = 0) (hp1 : pathB D ps = true) (hp2 : pathB D qs = true) (hc1 : codeP D N ps = 0) (hc2 : codeP D N qs = 0) (h h2 : VF) (hq : sigV ps (allW D N) N ps.length = some h) (hq2 : sigV qs (allW D N) N qs.length = some h2) (hx : (termsOf h (allW D N)).length ≤ 1048576) (hy : (termsOf h2 (allW D N)).length ≤ 1048576) (r : Bool) (hbr : r = true ↔ termsOf h (allW D N) = termsOf h2 (allW D N)) :
    Calls Tryd.prog 29 #[.int .i64 D, .int .i64 N, .slice a ps.length ca, .slice b qs.length cb] w (BcPost r 0 w) := by
  have HQ := Lib.hid hq
  have HQ2 := Lib.hid hq2
  have HBr := Lib.hid hbr
  clear hq hq2 hbr
  have HR := Lib.hid hr
  have HR2 := Lib.hid hr2
  have HC := Lib.hid hc
  have HP1 := Lib.hid hp1
  have HP2 := Lib.hid hp2
  have HC1 := Lib.hid hc1
  have HC2 := Lib.hid hc2
  clear hr hr2 hc hp1 hp2 hc1 hc2
  go_enter Tryd.func29, Tryd.ntmps29
  go_wp2_with fail
  refine (l04Code2_c lo hi lo2 hi2 D N a b ca cb ps qs hl hs hl2 hs2 w.heap.size _ _ (HR.out.below (below1 w _) hh) (HR2.out.below (below1 w _) hh2) (by go_simp) (by go_simp)).mono ?_
  rw [HC.out]
  rintro e w1 ⟨rfl, hb⟩
  have HW1 := Lib.hid ((below1 w (.cells #[.slice a ps.length ca, .slice b qs.length cb] 41)).trans (hb.mono (by simp)))
  have hz1 := HW1.out.size
  clear hb
  go_wp2_with fail
  have HSg := Lib.hid (l04Signature_c D N hD hN lo hi a ca ps HP1.out w1 (HR.out.below HW1.out hh) (by omega))
  refine HSg.out.mono ?_
  rintro e w2 hsp
  obtain ⟨X1, Y1, a2, l2, c2, ok1, rfl, hb2, hU1⟩ := hsp.u
  have hz2 := hb2.size
  have HW2 := Lib.hid (HW1.out.trans (hb2.mono hz1))
  have HU1 := Lib.hid hU1
  have HW3 := Lib.hid (HW2.out.trans ((below1 w2 (.cells #[.int .i64 X1, .int .i64 Y1, .slice a2 l2 c2] 24)).mono (by omega)))
  clear hb2 hU1 HSg
  go_wp2_with fail
  refine (l04Signature_c D N hD hN lo2 hi2 b cb qs HP2.out _ (HR2.out.below HW3.out hh2) (by simp; omega)).mono ?_
  rintro e w4 hsp
  obtain ⟨X2, Y2, a4, l4, c4, ok2, rfl, hb4, hU2⟩ := hsp.u
  have hz4 := hb4.size
  have HW4 := Lib.hid (HW3.out.trans (hb4.mono (by simp; omega)))
  have HU1' := Lib.hid (HU1.out.below ((below1 w2 (.cells #[.int .i64 X1, .int .i64 Y1, .slice a2 l2 c2] 24)).trans (hb4.mono (by simp))))
  have HU2 := Lib.hid hU2
  have x0 : w4.cell? ⟨w2.heap.size, 0, none⟩ = some (.int .i64 X1) := (hb4.cell (p := ⟨w2.heap.size, 0, none⟩) (by show w2.heap.size < _; simp)).trans (by go_simp)
  have x1 : w4.cell? ⟨w2.heap.size, 1, none⟩ = some (.int .i64 Y1) := (hb4.cell (p := ⟨w2.heap.size, 1, none⟩) (by show w2.heap.size < _; simp)).trans (by go_simp)
  have x2 : w4.cell? ⟨w2.heap.size, 2, none⟩ = some (.slice a2 l2 c2) := (hb4.cell (p := ⟨w2.heap.size, 2, none⟩) (by show w2.heap.size < _; simp)).trans (by go_simp)
  have hzz : w2.heap.size < w4.heap.size := by simp at hz4; omega
  clear hb4 hU2 HU1
  have hU := HU1'.out
  rw [HQ.out, Option.map_some] at hU
  obtain ⟨rfl, rfl, rfl, rfl, hNa⟩ := hU
  have hV := HU2.out
  rw [HQ2.out, Option.map_some] at hV
  obtain ⟨rfl, rfl, rfl, rfl, hNb⟩ := hV
  have HR5 := Lib.hid hNa.rowB
  have HR6 := Lib.hid hNb.rowB
  obtain ⟨xs, hxs⟩ : ∃ xs, termsOf h (allW D N) = xs := ⟨_, rfl⟩
  obtain ⟨ys, hys⟩ : ∃ ys, termsOf h2 (allW D N) = ys := ⟨_, rfl⟩
  rw [hxs] at x2 hx HR5 HBr
  rw [hys] at hy HR6 HBr
  simp only [hxs, hys]
  clear hNa hNb hxs hys HU1' HU2
  go_wp2_with fail
  refine (l04Same_c D N D N a2 a4 c2 c4 xs ys hx hy r HBr.out _ ((HR5.out.below (below1 w4 _) (Nat.le_refl _)).row (by simp)) ((HR6.out.below (below1 w4 _) (Nat.le_refl _)).row (by simp))).mono ?_
  rintro e w6 ⟨rfl, hb6⟩
  have HW6 := Lib.hid ((HW4.out.alloc HW4.out.size (.cells #[.int .i64 D, .int .i64 N, .slice a4 ys.length c4] 24)).trans (hb6.mono (by have := HW4.out.size; simp; omega)))
  clear hb6
  go_wp2
  go_ret2
  exact ⟨rfl, HW6.out⟩
end Go.Proofs.YtoeednnkadmjpaaDoor
