/-
  slices.Concat at three rows of terms.
-/
import Derived.Test.YtbhbcjaaomdlaaaMerge
import Derived.Lib.AppendZerosOnto
import Derived.Lib.Walk
namespace Go.Proofs.Ytbhbcjaaomdlaaa
open Go.RowKit

def ConcatPost (zs : List Tm) (W : World) (e : Ending) (w' : World) : Prop :=
  ∃ (a : Option Addr) (cap : Nat), e = .returned (.slice a zs.length cap) ∧ Below W.heap.size W w' ∧ NewRow W.heap.size w'.heap.size w' a zs
def GrowPost (W : World) (e : Ending) (w' : World) : Prop :=
  ∃ (a : Option Addr) (c : Nat), e = .returned (.slice a 0 c) ∧ OwnT w' W.heap.size (.slice a 0 c) [] ∧ Below W.heap.size W w'

set_option maxRecDepth 100000 in
set_option maxHeartbeats 2000000 in
theorem grow_c (n : Nat) (hn : n ≤ 4194304) (w : World) :
    Calls Try.prog 66 #[.slice none 0 0, .int .i64 n] w (GrowPost w) := by
  obtain ⟨i0, hi0, hi1, hi2, hi3⟩ := info_parts info_term
  have h1 : ¬ ((n : Int) < 0) := by omega
  by_cases h0 : n = 0
  · subst h0
    clear h1 hi0 hi1 hi2 hi3
    have h2 : ¬ ((0 : Int) < 0) := by omega
    go_enter Try.func66, Try.ntmps66
    go_wp2
    go_ret
    exact ⟨none, 0, rfl, OwnT.nil _ _, Below.refl _ _⟩
  · have h4 : (n : Int) > 0 := by omega
    have hold : (Builtin.firstCells i0.size 0 (.slice none 0 0)).run Try.prog w.drew = .ok (#[] : Array Value) w.drew := run_firstCells_none w.drew i0.size 0 0 0
    have hr : ∀ ty, (Builtin.append_ #[26, 3] ty #[.slice none 0 0, .int .i64 (n : Int)]).run Try.prog w =
        .ok (.slice (some ⟨w.heap.size, 0, none⟩) (0 + n) (grownCap w (0 + n) 0 60)) (w.drew.alloc (.cells (([] : List Value).toArray ++ Builtin.zeroCells (Value.agg #[.string ByteArray.empty, .int .i64 0, .int .i64 0]).cells n ++ Builtin.zeroCells (Value.agg #[.string ByteArray.empty, .int .i64 0, .int .i64 0]).cells (grownCap w (0 + n) 0 60 - (0 + n))) 60)) := fun ty =>
      Lib.run_append_grow_zeros w 26 3 ty 60 i0 _ .i64 .i64 Try.underlying26 Try.underlying3 hi0 hi1 none 0 0 [] hold n (by omega) (by rw [hi2]; omega) (by omega) (by omega) (by rw [hi3]; omega) (growslice_fits (by omega) (by rw [hi3]; omega))
    have hcap := grownCap_le_maxLen w (0 + n) 0 60 (by unfold maxLen; omega)
    have hge := grownCap_ge w (0 + n) 0 60
    rw [Nat.zero_add] at hr hcap hge
    generalize grownCap w n 0 60 = G at hr hcap hge
    have hO : ∀ cs : Array Value, cs.size = G * 3 → OwnT (w.alloc (.cells cs 60)) w.heap.size (.slice (some ⟨w.heap.size, 0, none⟩) 0 G) [] := fun cs hcs =>
      ⟨rfl, .inr ⟨w.heap.size, G, cs, rfl, Nat.le_refl _, heap_alloc_new w _, Nat.zero_le _, hcap, hcs, by simp [cellsT]⟩⟩
    have HO := Lib.hid hO
    have hG : (0 : Int) ≤ (G : Int) := by omega
    unfold maxLen at hcap
    clear hold hO
    go_enter Try.func66, Try.ntmps66
    go_wp2_with (at_builtin; refine Lib.wpList_append_run _ rfl _ _ _ _ rfl _ _ rfl rfl _ _ (hr _) ?_)
    go_ret
    exact ⟨some ⟨w.heap.size, 0, none⟩, G, rfl, HO.out _ (by simp [Builtin.zeroCells]; omega), ⟨rfl, rfl, rfl, by simp, fun i hi => Below.heap_alloc w _ i hi⟩⟩

set_option maxRecDepth 100000 in
set_option maxHeartbeats 4000000 in
theorem concat3_c (x0 x1 x2 : List Tm) (a0 a1 a2 : Option Addr) (n0 n1 n2 k0 k1 k2 lb : Nat) (w : World) (e0 : n0 = x0.length) (e1 : n1 = x1.length) (e2 : n2 = x2.length) (hlen : n0 + n1 + n2 ≤ 4194304) (hlb : lb < w.heap.size)
    (l0 : w.cell? ⟨lb, 0, none⟩ = some (.slice a0 n0 k0)) (l1 : w.cell? ⟨lb, 1, none⟩ = some (.slice a1 n1 k1)) (l2 : w.cell? ⟨lb, 2, none⟩ = some (.slice a2 n2 k2))
    (r0 : RowB w.heap.size w a0 x0) (r1 : RowB w.heap.size w a1 x1) (r2 : RowB w.heap.size w a2 x2) :
    Calls Try.prog 46 #[.slice (some ⟨lb, 0, none⟩) 3 3] w (ConcatPost (x0 ++ x1 ++ x2) w) := by
  have E0 := Lib.hid e0
  have E1 := Lib.hid e1
  have E2 := Lib.hid e2
  have R0 := Lib.hid r0
  have R1 := Lib.hid r1
  have R2 := Lib.hid r2
  have C0 := Lib.hid (((Cs.nil w).cons hlb l2).cons hlb l1 |>.cons hlb l0)
  clear e0 e1 e2 r0 r1 r2
  go_enter Try.func46, Try.ntmps46
  go_wp2
  go_loop [3, 11] (fun vs vi => (vi = .int .i64 0 ∧ vs = .int .i64 0) ∨ (vi = .int .i64 1 ∧ vs = .int .i64 n0) ∨ (vi = .int .i64 2 ∧ vs = .int .i64 ((n0 : Int) + n1)) ∨ (vi = .int .i64 3 ∧ vs = .int .i64 ((n0 : Int) + n1 + n2))) (fun _ vi => 3 - (intOf vi).toNat)
  case atStart => exact .inl ⟨rfl, rfl⟩
  case round =>
    rcases hrel with ⟨rfl, rfl⟩ | ⟨rfl, rfl⟩ | ⟨rfl, rfl⟩ | ⟨rfl, rfl⟩
    · go_wp2
      go_round
      case rel => exact .inr (.inl ⟨rfl, by first | rfl | simp⟩)
      case measure => simp [intOf]
    · go_wp2
      go_round
      case rel => exact .inr (.inr (.inl ⟨rfl, rfl⟩))
      case measure => simp [intOf]
    · go_wp2
      go_round
      case rel => exact .inr (.inr (.inr ⟨rfl, rfl⟩))
      case measure => simp [intOf]
    · have hcast : (n0 : Int) + n1 + n2 = ((n0 + n1 + n2 : Nat) : Int) := by omega
      rw [hcast]
      clear hcast l0 l1 l2
      go_wp2_with fail
      refine (grow_c (n0 + n1 + n2) (by omega) w).mono ?_
      rintro e w1 ⟨ag, cg, rfl, hO, hb1⟩
      have hz1 := hb1.size
      have HO := Lib.hid hO
      have HB := Lib.hid hb1
      clear hO hb1
      go_wp2
      go_loopw [6, 27] (fun vs vi wr => Below w.heap.size w wr ∧ ∃ (a : Option Addr) (l c : Nat) (zs : List Tm), vs = .slice a l c ∧ l = zs.length ∧ OwnT wr w.heap.size (.slice a l c) zs ∧ ((vi = .int .i64 0 ∧ zs = []) ∨ (vi = .int .i64 1 ∧ zs = x0) ∨ (vi = .int .i64 2 ∧ zs = x0 ++ x1) ∨ (vi = .int .i64 3 ∧ zs = x0 ++ x1 ++ x2))) (fun _ vi _ => 3 - (intOf vi).toNat)
      case atStart => exact ⟨HB.out, ag, 0, cg, [], rfl, rfl, HO.out, .inl ⟨rfl, rfl⟩⟩
      case round =>
        obtain ⟨hB, av, lv, cv, zs, rfl, hlv, hOw, hi⟩ := hrel
        have HBr := Lib.hid hB
        have HLv := Lib.hid hlv
        have HOw := Lib.hid hOw
        have Cr := Lib.hid (C0.out.below hB (Nat.le_refl _))
        have hzr := hB.size
        clear hB hlv hOw
        rcases hi with ⟨rfl, hzs⟩ | ⟨rfl, hzs⟩ | ⟨rfl, hzs⟩ | ⟨rfl, hzs⟩
        · have HZ := Lib.hid hzs
          clear hzs
          have m0 := Cr.out.get 0 rfl
          go_wp2_with (at_builtin; refine wpList_append_terms rfl _ _ rfl w.heap.size (.slice av lv cv) lv zs x0 rfl HLv.out HOw.out a0 n0 k0 rfl E0.out ?_ (by have := HLv.out; rw [HZ.out] at this; simp at this; omega) hzr ?_)
          · exact (R0.out.below HBr.out (Nat.le_refl _)).row hzr |>.src E0.out
          intro a9 q9 w9 hO9 hG9 _
          have HB9 := Lib.hid (HBr.out.trans (own_grown HOw.out hG9 hzr))
          have HO9 := Lib.hid hO9
          clear hO9 hG9 m0
          go_wp2
          go_roundw
          case rel => exact ⟨HB9.out, a9, lv + n0, q9, zs ++ x0, rfl, by rw [List.length_append, ← HLv.out, ← E0.out], HO9.out, .inr (.inl ⟨rfl, by rw [HZ.out]; rfl⟩)⟩
          case measure => simp [intOf]
        · have HZ := Lib.hid hzs
          clear hzs
          have m0 := Cr.out.get 1 rfl
          go_wp2_with (at_builtin; refine wpList_append_terms rfl _ _ rfl w.heap.size (.slice av lv cv) lv zs x1 rfl HLv.out HOw.out a1 n1 k1 rfl E1.out ?_ (by have := HLv.out; rw [HZ.out] at this; have := E0.out; omega) hzr ?_)
          · exact (R1.out.below HBr.out (Nat.le_refl _)).row hzr |>.src E1.out
          intro a9 q9 w9 hO9 hG9 _
          have HB9 := Lib.hid (HBr.out.trans (own_grown HOw.out hG9 hzr))
          have HO9 := Lib.hid hO9
          clear hO9 hG9 m0
          go_wp2
          go_roundw
          case rel => exact ⟨HB9.out, a9, lv + n1, q9, zs ++ x1, rfl, by rw [List.length_append, ← HLv.out, ← E1.out], HO9.out, .inr (.inr (.inl ⟨rfl, by rw [HZ.out]⟩))⟩
          case measure => simp [intOf]
        · have HZ := Lib.hid hzs
          clear hzs
          have m0 := Cr.out.get 2 rfl
          go_wp2_with (at_builtin; refine wpList_append_terms rfl _ _ rfl w.heap.size (.slice av lv cv) lv zs x2 rfl HLv.out HOw.out a2 n2 k2 rfl E2.out ?_ (by have := HLv.out; rw [HZ.out, List.length_append] at this; have := E0.out; have := E1.out; omega) hzr ?_)
          · exact (R2.out.below HBr.out (Nat.le_refl _)).row hzr |>.src E2.out
          intro a9 q9 w9 hO9 hG9 _
          have HB9 := Lib.hid (HBr.out.trans (own_grown HOw.out hG9 hzr))
          have HO9 := Lib.hid hO9
          clear hO9 hG9 m0
          go_wp2
          go_roundw
          case rel => exact ⟨HB9.out, a9, lv + n2, q9, zs ++ x2, rfl, by rw [List.length_append, ← HLv.out, ← E2.out], HO9.out, .inr (.inr (.inr ⟨rfl, by rw [HZ.out]⟩))⟩
          case measure => simp [intOf]
        · have HZ := Lib.hid hzs
          clear hzs
          go_wp2
          go_ret
          have hO := HOw.out
          rw [HZ.out] at hO
          have hlv := HLv.out
          rw [HZ.out] at hlv
          subst hlv
          obtain ⟨a', c', he, hle, hN⟩ := hO.newRow
          injection he with e1 e2 e3
          subst e1 e3
          exact ⟨av, cv, rfl, HBr.out, hN⟩
end Go.Proofs.Ytbhbcjaaomdlaaa
