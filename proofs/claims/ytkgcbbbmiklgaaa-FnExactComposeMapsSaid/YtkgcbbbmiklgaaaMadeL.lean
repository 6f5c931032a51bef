/-
  What a linear map makes of steps: the whole list.
-/
import Derived.Test.YtkgcbbbmiklgaaaMade
namespace Go.Proofs.Ytkgcbbbmiklgaaa
open Go.RowKit

theorem OwnM.mono {w : World} {base base' : Nat} {v : Value} {ss : List Mv} (h : OwnM w base v ss) (hb : base' ≤ base) : OwnM w base' v ss := by
  rcases h with ⟨hl, h | ⟨g, cap, cur, rfl, hbg, rest⟩⟩
  · exact ⟨hl, .inl h⟩
  · exact ⟨hl, .inr ⟨g, cap, cur, rfl, Nat.le_trans hb hbg, rest⟩⟩
/-- what rows A, B, C make of a step -/
def mapped (A B C v : Mv) : Mv := ⟨A.a * v.a + B.a * v.b + C.a * v.c, A.b * v.a + B.b * v.b + C.b * v.c, A.c * v.a + B.c * v.b + C.c * v.c⟩
/-- what the map of the call's own holds behind k steps -/
def madeF (A B C : Mv) (ms : List Mv) (k : Nat) : Int → Option Mv := fun p => if 0 ≤ p ∧ p < (k : Int) then some (mapped A B C (ms.getD p.toNat ⟨0, 0, 0⟩)) else none
theorem madeF_next {A B C : Mv} {ms : List Mv} {k : Nat} (hk : k < ms.length) {v : Mv} (hv : ms[k] = v) (u0 u1 : Mv) :
    putM (putM (putM (madeF A B C ms k) (k : Int) (some u0)) (k : Int) (some u1)) (k : Int) (some (mapped A B C v)) = madeF A B C ms (k + 1) := by
  funext p
  unfold putM madeF
  by_cases e : p = (k : Int)
  · subst e
    rw [if_pos rfl, if_pos (by omega), Int.toNat_natCast, getD_of hk, hv]
  · rw [if_neg e, if_neg e, if_neg e]
    by_cases h : 0 ≤ p ∧ p < (k : Int)
    · rw [if_pos h, if_pos (by omega)]
    · rw [if_neg h, if_neg (by omega)]
theorem madeF_at {A B C : Mv} {ms : List Mv} {n k : Nat} (hk : k < n) : madeF A B C ms n (k : Int) = some (mapped A B C (ms.getD k ⟨0, 0, 0⟩)) := by
  unfold madeF
  rw [if_pos (by omega), Int.toNat_natCast]
theorem madeF_none {A B C : Mv} {ms : List Mv} {k : Nat} : madeF A B C ms k (k : Int) = none := by
  unfold madeF
  rw [if_neg (by omega)]
theorem madeF_zero {A B C : Mv} {ms : List Mv} : madeF A B C ms 0 = fun _ => none := by
  funext p
  unfold madeF
  rw [if_neg (by omega)]
theorem mul_two {a b : Int} (ha : -100 ≤ a ∧ a ≤ 100) (hb : -100 ≤ b ∧ b ≤ 100) : -10000 ≤ a * b ∧ a * b ≤ 10000 := by
  have h : (a * b).natAbs ≤ 100 * 100 := by rw [Int.natAbs_mul]; exact Nat.mul_le_mul (by omega) (by omega)
  omega
theorem smallI_nat {k : Nat} (h : k ≤ 1000) : SmallI (k : Int) := by unfold SmallI; omega

set_option maxRecDepth 100000 in
set_option maxHeartbeats 8000000 in
theorem madeOf_c (lo hi : Nat) (A B C : Mv) (hA : Mv.small 100 A) (hB : Mv.small 100 B) (hC : Mv.small 100 C) (a : Option Addr) (cap : Nat) (ms : List Mv) (hl : ms.length ≤ 12) (hs : ∀ i (h : i < ms.length), Mv.small 100 ms[i]) (w : World) (hr : MRow lo hi w a ms) (hh : hi ≤ w.heap.size) :
    Calls Try.prog 51 #[.agg #[.int .i64 A.a, .int .i64 A.b, .int .i64 A.c, .int .i64 B.a, .int .i64 B.b, .int .i64 B.c, .int .i64 C.a, .int .i64 C.b, .int .i64 C.c], .slice a ms.length cap] w (MvsPost (ms.map (mapped A B C)) w) := by
  obtain ⟨f0, f1, f2⟩ := A
  obtain ⟨f3, f4, f5⟩ := B
  obtain ⟨f6, f7, f8⟩ := C
  obtain ⟨hf0, hf1, hf2⟩ := hA
  obtain ⟨hf3, hf4, hf5⟩ := hB
  obtain ⟨hf6, hf7, hf8⟩ := hC
  simp only at hf0 hf1 hf2 hf3 hf4 hf5 hf6 hf7 hf8 ⊢
  have HT := Lib.hid hr
  have HS := Lib.hid hs
  clear hr hs
  have hmm := @run_makeMap Try.prog
  go_enter Try.func51, Try.ntmps51
  go_wp2
  clear hmm
  have HB0 := Lib.hid (below2 w (.cells #[.int .i64 f0, .int .i64 f1, .int .i64 f2, .int .i64 f3, .int .i64 f4, .int .i64 f5, .int .i64 f6, .int .i64 f7, .int .i64 f8] 53) (.map #[] 0))
  have HM0 := Lib.hid (MapM.made (w.alloc (.cells #[.int .i64 f0, .int .i64 f1, .int .i64 f2, .int .i64 f3, .int .i64 f4, .int .i64 f5, .int .i64 f6, .int .i64 f7, .int .i64 f8] 53)))
  have b0 : ((w.alloc (.cells #[.int .i64 f0, .int .i64 f1, .int .i64 f2, .int .i64 f3, .int .i64 f4, .int .i64 f5, .int .i64 f6, .int .i64 f7, .int .i64 f8] 53)).alloc (.map #[] 0)).cell? ⟨w.heap.size, 0, none⟩ = some (.int .i64 f0) := by go_simp
  have b1 : ((w.alloc (.cells #[.int .i64 f0, .int .i64 f1, .int .i64 f2, .int .i64 f3, .int .i64 f4, .int .i64 f5, .int .i64 f6, .int .i64 f7, .int .i64 f8] 53)).alloc (.map #[] 0)).cell? ⟨w.heap.size, 1, none⟩ = some (.int .i64 f1) := by go_simp
  have b2 : ((w.alloc (.cells #[.int .i64 f0, .int .i64 f1, .int .i64 f2, .int .i64 f3, .int .i64 f4, .int .i64 f5, .int .i64 f6, .int .i64 f7, .int .i64 f8] 53)).alloc (.map #[] 0)).cell? ⟨w.heap.size, 2, none⟩ = some (.int .i64 f2) := by go_simp
  have b3 : ((w.alloc (.cells #[.int .i64 f0, .int .i64 f1, .int .i64 f2, .int .i64 f3, .int .i64 f4, .int .i64 f5, .int .i64 f6, .int .i64 f7, .int .i64 f8] 53)).alloc (.map #[] 0)).cell? ⟨w.heap.size, 3, none⟩ = some (.int .i64 f3) := by go_simp
  have b4 : ((w.alloc (.cells #[.int .i64 f0, .int .i64 f1, .int .i64 f2, .int .i64 f3, .int .i64 f4, .int .i64 f5, .int .i64 f6, .int .i64 f7, .int .i64 f8] 53)).alloc (.map #[] 0)).cell? ⟨w.heap.size, 4, none⟩ = some (.int .i64 f4) := by go_simp
  have b5 : ((w.alloc (.cells #[.int .i64 f0, .int .i64 f1, .int .i64 f2, .int .i64 f3, .int .i64 f4, .int .i64 f5, .int .i64 f6, .int .i64 f7, .int .i64 f8] 53)).alloc (.map #[] 0)).cell? ⟨w.heap.size, 5, none⟩ = some (.int .i64 f5) := by go_simp
  have b6 : ((w.alloc (.cells #[.int .i64 f0, .int .i64 f1, .int .i64 f2, .int .i64 f3, .int .i64 f4, .int .i64 f5, .int .i64 f6, .int .i64 f7, .int .i64 f8] 53)).alloc (.map #[] 0)).cell? ⟨w.heap.size, 6, none⟩ = some (.int .i64 f6) := by go_simp
  have b7 : ((w.alloc (.cells #[.int .i64 f0, .int .i64 f1, .int .i64 f2, .int .i64 f3, .int .i64 f4, .int .i64 f5, .int .i64 f6, .int .i64 f7, .int .i64 f8] 53)).alloc (.map #[] 0)).cell? ⟨w.heap.size, 7, none⟩ = some (.int .i64 f7) := by go_simp
  have b8 : ((w.alloc (.cells #[.int .i64 f0, .int .i64 f1, .int .i64 f2, .int .i64 f3, .int .i64 f4, .int .i64 f5, .int .i64 f6, .int .i64 f7, .int .i64 f8] 53)).alloc (.map #[] 0)).cell? ⟨w.heap.size, 8, none⟩ = some (.int .i64 f8) := by go_simp
  have hsz : ((w.alloc (.cells #[.int .i64 f0, .int .i64 f1, .int .i64 f2, .int .i64 f3, .int .i64 f4, .int .i64 f5, .int .i64 f6, .int .i64 f7, .int .i64 f8] 53)).alloc (.map #[] 0)).heap.size = w.heap.size + 1 + 1 := by simp
  generalize ((w.alloc (.cells #[.int .i64 f0, .int .i64 f1, .int .i64 f2, .int .i64 f3, .int .i64 f4, .int .i64 f5, .int .i64 f6, .int .i64 f7, .int .i64 f8] 53)).alloc (.map #[] 0)) = wz at *
  rw [World.size_alloc] at HM0
  go_loopw [15] (fun vi wr => ∃ k : Nat, k ≤ ms.length ∧ vi = .int .i64 k ∧ MapM wr (w.heap.size + 1) (k * 3) (madeF ⟨f0, f1, f2⟩ ⟨f3, f4, f5⟩ ⟨f6, f7, f8⟩ ms k) ∧ wz.grownBy wr (some (w.heap.size + 1))) (fun vi _ => ms.length - (intOf vi).toNat)
  case atStart => exact ⟨0, Nat.zero_le _, rfl, by rw [madeF_zero]; exact HM0.out, World.grownBy.refl _ _⟩
  case round =>
    obtain ⟨k, hk, rfl, hM, hG⟩ := hrel
    have HM := Lib.hid hM
    have HG := Lib.hid hG
    have hzr := hG.size
    clear hM hG
    have HBw := Lib.hid (show Below w.heap.size w wr from HB0.out.trans (below_of_grown HG.out (fun g h => by injection h with h; omega) (by omega)))
    by_cases hlt : k < ms.length
    · obtain ⟨b, off, rfl, d0, d1, d2⟩ := HT.out.get HBw.out hh hlt
      obtain ⟨hv0, hv1, hv2⟩ := HS.out k hlt
      obtain ⟨v0, v1, v2, hx⟩ : ∃ v0 v1 v2, ms[k] = ⟨v0, v1, v2⟩ := ⟨_, _, _, rfl⟩
      have HE := Lib.hid hx
      rw [hx] at d0 d1 d2 hv0 hv1 hv2
      simp only at d0 d1 d2 hv0 hv1 hv2
      have i0 := move_at0 (.int .i64 v0) (.int .i64 v1) (.int .i64 v2)
      have i1 := move_at1 (.int .i64 v0) (.int .i64 v1) (.int .i64 v2)
      have i2 := move_at2 (.int .i64 v0) (.int .i64 v1) (.int .i64 v2)
      have p0 := mul_two hf0 hv0
      have p1 := mul_two hf1 hv0
      have p2 := mul_two hf2 hv0
      have p3 := mul_two hf3 hv1
      have p4 := mul_two hf4 hv1
      have p5 := mul_two hf5 hv1
      have p6 := mul_two hf6 hv2
      have p7 := mul_two hf7 hv2
      have p8 := mul_two hf8 hv2
      have c0 : wr.cell? ⟨w.heap.size, 0, none⟩ = some (.int .i64 f0) := (World.cell?_of_block (a := ⟨w.heap.size, 0, none⟩) (HG.out.block w.heap.size (by omega) (by intro h; injection h with h; omega))).trans b0
      have c1 : wr.cell? ⟨w.heap.size, 1, none⟩ = some (.int .i64 f1) := (World.cell?_of_block (a := ⟨w.heap.size, 1, none⟩) (HG.out.block w.heap.size (by omega) (by intro h; injection h with h; omega))).trans b1
      have c2 : wr.cell? ⟨w.heap.size, 2, none⟩ = some (.int .i64 f2) := (World.cell?_of_block (a := ⟨w.heap.size, 2, none⟩) (HG.out.block w.heap.size (by omega) (by intro h; injection h with h; omega))).trans b2
      have c3 : wr.cell? ⟨w.heap.size, 3, none⟩ = some (.int .i64 f3) := (World.cell?_of_block (a := ⟨w.heap.size, 3, none⟩) (HG.out.block w.heap.size (by omega) (by intro h; injection h with h; omega))).trans b3
      have c4 : wr.cell? ⟨w.heap.size, 4, none⟩ = some (.int .i64 f4) := (World.cell?_of_block (a := ⟨w.heap.size, 4, none⟩) (HG.out.block w.heap.size (by omega) (by intro h; injection h with h; omega))).trans b4
      have c5 : wr.cell? ⟨w.heap.size, 5, none⟩ = some (.int .i64 f5) := (World.cell?_of_block (a := ⟨w.heap.size, 5, none⟩) (HG.out.block w.heap.size (by omega) (by intro h; injection h with h; omega))).trans b5
      have c6 : wr.cell? ⟨w.heap.size, 6, none⟩ = some (.int .i64 f6) := (World.cell?_of_block (a := ⟨w.heap.size, 6, none⟩) (HG.out.block w.heap.size (by omega) (by intro h; injection h with h; omega))).trans b6
      have c7 : wr.cell? ⟨w.heap.size, 7, none⟩ = some (.int .i64 f7) := (World.cell?_of_block (a := ⟨w.heap.size, 7, none⟩) (HG.out.block w.heap.size (by omega) (by intro h; injection h with h; omega))).trans b7
      have c8 : wr.cell? ⟨w.heap.size, 8, none⟩ = some (.int .i64 f8) := (World.cell?_of_block (a := ⟨w.heap.size, 8, none⟩) (HG.out.block w.heap.size (by omega) (by intro h; injection h with h; omega))).trans b8
      have hSI := smallI_nat (k := k) (by omega)
      have hz0 : w.heap.size < wr.heap.size := by omega
      have hz1 : w.heap.size + 1 < wr.heap.size := by omega
      clear hx
      go_wp2
      refine wp_loop_rounds 4 ?_
      rw [rounds_succ]
      go_wp2_with fail
      refine (times_c f0 f1 f2 v0 (by omega) (by omega) (by omega) _).mono ?_
      rintro e w1 ⟨rfl, hb1⟩
      have hB := hb1
      simp only [World.size_alloc] at hB
      have HB1 := Lib.hid ((below1 wr (.cells #[.int .i64 v0, .int .i64 v1, .int .i64 v2] 51)).trans (hB.mono (Nat.le_succ _)))
      clear hb1 hB
      go_wp2_with fail
      refine (addM_new (w.heap.size + 1) (k * 3) _ (by omega) (k : Int) hSI madeF_none (f0 * v0) (f1 * v0) (f2 * v0) _ (HM.out.below HB1.out hz1)).mono ?_
      rintro e w2 ⟨rfl, hm2, hg2⟩
      have HM2 := Lib.hid hm2
      have HG2 := Lib.hid (grown_trans (HG.out) (grown_trans (grown_of_b HB1.out (some (w.heap.size + 1))) hg2))
      clear hm2 hg2
      have hy_w2 : w.heap.size < w2.heap.size := by have := HG2.out.size; omega
      have e0 : w2.cell? ⟨w.heap.size, 0, none⟩ = some (.int .i64 f0) := (World.cell?_of_block (a := ⟨w.heap.size, 0, none⟩) (HG2.out.block w.heap.size (by omega) (by intro h; injection h with h; omega))).trans b0
      have e1 : w2.cell? ⟨w.heap.size, 1, none⟩ = some (.int .i64 f1) := (World.cell?_of_block (a := ⟨w.heap.size, 1, none⟩) (HG2.out.block w.heap.size (by omega) (by intro h; injection h with h; omega))).trans b1
      have e2 : w2.cell? ⟨w.heap.size, 2, none⟩ = some (.int .i64 f2) := (World.cell?_of_block (a := ⟨w.heap.size, 2, none⟩) (HG2.out.block w.heap.size (by omega) (by intro h; injection h with h; omega))).trans b2
      have e3 : w2.cell? ⟨w.heap.size, 3, none⟩ = some (.int .i64 f3) := (World.cell?_of_block (a := ⟨w.heap.size, 3, none⟩) (HG2.out.block w.heap.size (by omega) (by intro h; injection h with h; omega))).trans b3
      have e4 : w2.cell? ⟨w.heap.size, 4, none⟩ = some (.int .i64 f4) := (World.cell?_of_block (a := ⟨w.heap.size, 4, none⟩) (HG2.out.block w.heap.size (by omega) (by intro h; injection h with h; omega))).trans b4
      have e5 : w2.cell? ⟨w.heap.size, 5, none⟩ = some (.int .i64 f5) := (World.cell?_of_block (a := ⟨w.heap.size, 5, none⟩) (HG2.out.block w.heap.size (by omega) (by intro h; injection h with h; omega))).trans b5
      have e6 : w2.cell? ⟨w.heap.size, 6, none⟩ = some (.int .i64 f6) := (World.cell?_of_block (a := ⟨w.heap.size, 6, none⟩) (HG2.out.block w.heap.size (by omega) (by intro h; injection h with h; omega))).trans b6
      have e7 : w2.cell? ⟨w.heap.size, 7, none⟩ = some (.int .i64 f7) := (World.cell?_of_block (a := ⟨w.heap.size, 7, none⟩) (HG2.out.block w.heap.size (by omega) (by intro h; injection h with h; omega))).trans b7
      have e8 : w2.cell? ⟨w.heap.size, 8, none⟩ = some (.int .i64 f8) := (World.cell?_of_block (a := ⟨w.heap.size, 8, none⟩) (HG2.out.block w.heap.size (by omega) (by intro h; injection h with h; omega))).trans b8
      go_wp2
      rw [rounds_succ]
      go_wp2_with fail
      refine (times_c f3 f4 f5 v1 (by omega) (by omega) (by omega) _).mono ?_
      rintro e w3 ⟨rfl, hb3⟩
      have HB3 := Lib.hid hb3
      have hy3 : w.heap.size + 1 < w2.heap.size := by have := HG2.out.size; omega
      clear hb3
      go_wp2_with fail
      refine (addM_old (w.heap.size + 1) (k * 3 + 1) _ (by omega) (k : Int) hSI (f0 * v0) (f1 * v0) (f2 * v0) (by simp [putM]) (f3 * v1) (f4 * v1) (f5 * v1) _ (HM2.out.below HB3.out hy3) (by omega) (by omega) (by omega) (by omega) (by omega) (by omega)).mono ?_
      rintro e w4 ⟨rfl, hm4, hg4⟩
      have HM4 := Lib.hid hm4
      have HG4 := Lib.hid (grown_trans (HG2.out) (grown_trans (grown_of_b HB3.out (some (w.heap.size + 1))) hg4))
      clear hm4 hg4 e0 e1 e2 e3 e4 e5 e6 e7 e8
      have hy_w4 : w.heap.size < w4.heap.size := by have := HG4.out.size; omega
      have e0 : w4.cell? ⟨w.heap.size, 0, none⟩ = some (.int .i64 f0) := (World.cell?_of_block (a := ⟨w.heap.size, 0, none⟩) (HG4.out.block w.heap.size (by omega) (by intro h; injection h with h; omega))).trans b0
      have e1 : w4.cell? ⟨w.heap.size, 1, none⟩ = some (.int .i64 f1) := (World.cell?_of_block (a := ⟨w.heap.size, 1, none⟩) (HG4.out.block w.heap.size (by omega) (by intro h; injection h with h; omega))).trans b1
      have e2 : w4.cell? ⟨w.heap.size, 2, none⟩ = some (.int .i64 f2) := (World.cell?_of_block (a := ⟨w.heap.size, 2, none⟩) (HG4.out.block w.heap.size (by omega) (by intro h; injection h with h; omega))).trans b2
      have e3 : w4.cell? ⟨w.heap.size, 3, none⟩ = some (.int .i64 f3) := (World.cell?_of_block (a := ⟨w.heap.size, 3, none⟩) (HG4.out.block w.heap.size (by omega) (by intro h; injection h with h; omega))).trans b3
      have e4 : w4.cell? ⟨w.heap.size, 4, none⟩ = some (.int .i64 f4) := (World.cell?_of_block (a := ⟨w.heap.size, 4, none⟩) (HG4.out.block w.heap.size (by omega) (by intro h; injection h with h; omega))).trans b4
      have e5 : w4.cell? ⟨w.heap.size, 5, none⟩ = some (.int .i64 f5) := (World.cell?_of_block (a := ⟨w.heap.size, 5, none⟩) (HG4.out.block w.heap.size (by omega) (by intro h; injection h with h; omega))).trans b5
      have e6 : w4.cell? ⟨w.heap.size, 6, none⟩ = some (.int .i64 f6) := (World.cell?_of_block (a := ⟨w.heap.size, 6, none⟩) (HG4.out.block w.heap.size (by omega) (by intro h; injection h with h; omega))).trans b6
      have e7 : w4.cell? ⟨w.heap.size, 7, none⟩ = some (.int .i64 f7) := (World.cell?_of_block (a := ⟨w.heap.size, 7, none⟩) (HG4.out.block w.heap.size (by omega) (by intro h; injection h with h; omega))).trans b7
      have e8 : w4.cell? ⟨w.heap.size, 8, none⟩ = some (.int .i64 f8) := (World.cell?_of_block (a := ⟨w.heap.size, 8, none⟩) (HG4.out.block w.heap.size (by omega) (by intro h; injection h with h; omega))).trans b8
      go_wp2
      rw [rounds_succ]
      go_wp2_with fail
      refine (times_c f6 f7 f8 v2 (by omega) (by omega) (by omega) _).mono ?_
      rintro e w5 ⟨rfl, hb5⟩
      have HB5 := Lib.hid hb5
      have hy5 : w.heap.size + 1 < w4.heap.size := by have := HG4.out.size; omega
      clear hb5
      go_wp2_with fail
      refine (addM_old (w.heap.size + 1) (k * 3 + 1 + 1) _ (by omega) (k : Int) hSI (f0 * v0 + f3 * v1) (f1 * v0 + f4 * v1) (f2 * v0 + f5 * v1) (by simp [putM]) (f6 * v2) (f7 * v2) (f8 * v2) _ (HM4.out.below HB5.out hy5) (by omega) (by omega) (by omega) (by omega) (by omega) (by omega)).mono ?_
      rintro e w6 ⟨rfl, hm6, hg6⟩
      have HM6 := Lib.hid hm6
      have HG6 := Lib.hid (grown_trans (HG4.out) (grown_trans (grown_of_b HB5.out (some (w.heap.size + 1))) hg6))
      have HNx := Lib.hid (madeF_next (A := ⟨f0, f1, f2⟩) (B := ⟨f3, f4, f5⟩) (C := ⟨f6, f7, f8⟩) hlt HE.out ⟨f0 * v0, f1 * v0, f2 * v0⟩ ⟨f0 * v0 + f3 * v1, f1 * v0 + f4 * v1, f2 * v0 + f5 * v1⟩)
      clear hm6 hg6 e0 e1 e2 e3 e4 e5 e6 e7 e8
      go_wp2
      rw [rounds_succ]
      go_wp2
      go_roundw
      case rel => exact ⟨k + 1, by omega, by go_num, by rw [← HNx.out]; exact HM6.out.mono (by omega), HG6.out⟩
      case measure => simp [intOf]; omega
    · obtain rfl : k = ms.length := by omega
      go_wp2
      have HMd := Lib.hid HM.out
      obtain ⟨wo, rfl⟩ : ∃ wo : World, wo = wr := ⟨_, rfl⟩
      go_loopw [10, 37] (fun vs vi wr => ∃ (k : Nat) (b : Option Addr) (l c : Nat), k ≤ ms.length ∧ vi = .int .i64 k ∧ vs = .slice b l c ∧ l = k ∧ OwnM wr wo.heap.size (.slice b l c) ((ms.map (mapped ⟨f0, f1, f2⟩ ⟨f3, f4, f5⟩ ⟨f6, f7, f8⟩)).take k) ∧ Below wo.heap.size wo wr) (fun _ vi _ => ms.length - (intOf vi).toNat)
      case atStart => exact ⟨0, none, 0, 0, Nat.zero_le _, rfl, rfl, rfl, OwnM.nil _ _, Below.refl _ _⟩
      case round =>
        obtain ⟨k, bv, lv, cv, hk, rfl, rfl, hlv, hO, hB⟩ := hrel
        have HO := Lib.hid hO
        have HL := Lib.hid hlv
        have HB := Lib.hid hB
        have HSz := Lib.hid hB.size
        have hlv12 : lv ≤ 12 := by omega
        clear hO hlv hB
        by_cases hlt : k < ms.length
        · have HMk := Lib.hid (HMd.out.below HB.out (by omega))
          have HAt := Lib.hid (madeF_at (A := ⟨f0, f1, f2⟩) (B := ⟨f3, f4, f5⟩) (C := ⟨f6, f7, f8⟩) (ms := ms) hlt)
          have HTk := Lib.hid (show (ms.map (mapped ⟨f0, f1, f2⟩ ⟨f3, f4, f5⟩ ⟨f6, f7, f8⟩)).take (k + 1) = (ms.map (mapped ⟨f0, f1, f2⟩ ⟨f3, f4, f5⟩ ⟨f6, f7, f8⟩)).take k ++ [mapped ⟨f0, f1, f2⟩ ⟨f3, f4, f5⟩ ⟨f6, f7, f8⟩ (ms.getD k ⟨0, 0, 0⟩)] from by rw [List.take_succ_eq_append_getElem (by rw [List.length_map]; exact hlt), List.getElem_map, getD_of hlt])
          obtain ⟨x0, x1, x2, hx⟩ : ∃ x0 x1 x2, mapped ⟨f0, f1, f2⟩ ⟨f3, f4, f5⟩ ⟨f6, f7, f8⟩ (ms.getD k ⟨0, 0, 0⟩) = ⟨x0, x1, x2⟩ := ⟨_, _, _, rfl⟩
          rw [hx] at HAt HTk
          have hSI := smallI_nat (k := k) (by omega)
          clear hx
          go_wp2_with (first | (at_lookup; refine wpList_lookM1 rfl _ _ rfl rfl HMk.out (k : Int) rfl hSI ?_; rw [HAt.out]; simp only [lookM1, mvV]) | (at_builtin; refine wpList_append_mvs rfl _ _ rfl wo.heap.size (.slice bv lv cv) lv ((ms.map (mapped ⟨f0, f1, f2⟩ ⟨f3, f4, f5⟩ ⟨f6, f7, f8⟩)).take k) [⟨x0, x1, x2⟩] rfl (by rw [HL.out]; simp; omega) (HO.out.alloc _) (some ⟨wr.heap.size, 0, none⟩) 1 1 rfl rfl ?_ (by omega) (by have := HSz.out; simp; omega) ?_))
          · exact .inr ⟨wr.heap.size, 0, rfl, mvs_one wr ⟨x0, x1, x2⟩⟩
          intro a9 q9 w9 hO9 hG9 _
          have HB9 := Lib.hid (HB.out.trans (((below1 wr (.cells #[.int .i64 x0, .int .i64 x1, .int .i64 x2] 51)).mono HSz.out).trans (own_grownM (HO.out.alloc _) hG9 (by have := HSz.out; simp; omega))))
          have HO9 := Lib.hid hO9
          clear hO9 hG9
          go_wp2
          go_roundw
          case rel => exact ⟨k + 1, a9, lv + 1, q9, by omega, by go_num, rfl, by rw [HL.out], by rw [HTk.out]; exact HO9.out, HB9.out⟩
          case measure => simp [intOf]; omega
        · obtain rfl : k = ms.length := by omega
          have HTe := Lib.hid (show (ms.map (mapped ⟨f0, f1, f2⟩ ⟨f3, f4, f5⟩ ⟨f6, f7, f8⟩)).take ms.length = ms.map (mapped ⟨f0, f1, f2⟩ ⟨f3, f4, f5⟩ ⟨f6, f7, f8⟩) from List.take_of_length_le (by rw [List.length_map]; exact Nat.le_refl _))
          have HLn := Lib.hid (show lv = (ms.map (mapped ⟨f0, f1, f2⟩ ⟨f3, f4, f5⟩ ⟨f6, f7, f8⟩)).length from by rw [List.length_map]; exact HL.out)
          have hO := HO.out
          rw [HTe.out] at hO
          have HOe := Lib.hid (hO.mono (show w.heap.size ≤ wo.heap.size by omega))
          have HBe := Lib.hid (HBw.out.trans (HB.out.mono (by omega)))
          clear hO
          go_wp2
          go_ret
          exact ⟨bv, cv, by rw [HLn.out]; rfl, HBe.out, by rw [← HLn.out]; exact HOe.out⟩
end Go.Proofs.Ytkgcbbbmiklgaaa
