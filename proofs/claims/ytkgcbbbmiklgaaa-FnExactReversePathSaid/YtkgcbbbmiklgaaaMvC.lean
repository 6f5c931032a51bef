/-
  Moves: slices.Concat at two rows, multiples.
-/
import Derived.Test.YtkgcbbbmiklgaaaMvs
import Derived.Test.YtkgcbbbmiklgaaaPathRes
namespace Go.Proofs.Ytkgcbbbmiklgaaa
open Go.RowKit

def GrowMPost (W : World) (e : Ending) (w' : World) : Prop :=
  ∃ (a : Option Addr) (c : Nat), e = .returned (.slice a 0 c) ∧ OwnM w' W.heap.size (.slice a 0 c) [] ∧ Below W.heap.size W w'
set_option maxRecDepth 100000 in
set_option maxHeartbeats 2000000 in
theorem growM_c (n : Nat) (hn : n ≤ 4194304) (w : World) :
    Calls Try.prog 68 #[.slice none 0 0, .int .i64 n] w (GrowMPost w) := by
  obtain ⟨i0, hi0, hi1, hi2, hi3⟩ := info_parts info_move
  have h1 : ¬ ((n : Int) < 0) := by omega
  by_cases h0 : n = 0
  · subst h0
    clear h1 hi0 hi1 hi2 hi3
    have h2 : ¬ ((0 : Int) < 0) := by omega
    go_enter Try.func68, Try.ntmps68
    go_wp2
    go_ret
    exact ⟨none, 0, rfl, OwnM.nil _ _, Below.refl _ _⟩
  have h4 : (n : Int) > 0 := by omega
  have hold : (Builtin.firstCells i0.size 0 (.slice none 0 0)).run Try.prog w.drew = .ok (#[] : Array Value) w.drew := run_firstCells_none w.drew i0.size 0 0 0
  have hr : ∀ ty, (Builtin.append_ #[57, 3] ty #[.slice none 0 0, .int .i64 (n : Int)]).run Try.prog w =
      .ok (.slice (some ⟨w.heap.size, 0, none⟩) (0 + n) (grownCap w (0 + n) 0 51)) (w.drew.alloc (.cells (([] : List Value).toArray ++ Builtin.zeroCells (Value.agg #[.int .i64 0, .int .i64 0, .int .i64 0]).cells n ++ Builtin.zeroCells (Value.agg #[.int .i64 0, .int .i64 0, .int .i64 0]).cells (grownCap w (0 + n) 0 51 - (0 + n))) 51)) := fun ty =>
    Lib.run_append_grow_zeros w 57 3 ty 51 i0 _ .i64 .i64 Try.underlying57 Try.underlying3 hi0 hi1 none 0 0 [] hold n (by omega) (by rw [hi2]; omega) (by omega) (by omega) (by rw [hi3]; omega) (growslice_fits (by omega) (by rw [hi3]; omega))
  have hcap := grownCap_le_maxLen w (0 + n) 0 51 (by unfold maxLen; omega)
  have hge := grownCap_ge w (0 + n) 0 51
  rw [Nat.zero_add] at hr hcap hge
  generalize grownCap w n 0 51 = G at hr hcap hge
  have hO : ∀ cs : Array Value, cs.size = G * 3 → OwnM (w.alloc (.cells cs 51)) w.heap.size (.slice (some ⟨w.heap.size, 0, none⟩) 0 G) [] := fun cs hcs =>
    ⟨rfl, .inr ⟨w.heap.size, G, cs, rfl, Nat.le_refl _, heap_alloc_new w _, Nat.zero_le _, hcap, hcs, by simp [cellsM]⟩⟩
  have HO := Lib.hid hO
  have hG : (0 : Int) ≤ (G : Int) := by omega
  unfold maxLen at hcap
  clear hold hO
  go_enter Try.func68, Try.ntmps68
  go_wp2_with (at_builtin; refine Lib.wpList_append_run _ rfl _ _ _ _ rfl _ _ rfl rfl _ _ (hr _) ?_)
  go_ret
  exact ⟨some ⟨w.heap.size, 0, none⟩, G, rfl, HO.out _ (by simp [Builtin.zeroCells]; omega), ⟨rfl, rfl, rfl, by simp, fun i hi => Below.heap_alloc w _ i hi⟩⟩

set_option maxRecDepth 100000 in
set_option maxHeartbeats 4000000 in
theorem concat2M_c (x0 x1 : List Mv) (a0 a1 : Option Addr) (n0 n1 k0 k1 lb : Nat) (w : World) (e0 : n0 = x0.length) (e1 : n1 = x1.length) (hlen : n0 + n1 ≤ 1048576) (hlb : lb < w.heap.size)
    (l0 : w.cell? ⟨lb, 0, none⟩ = some (.slice a0 n0 k0)) (l1 : w.cell? ⟨lb, 1, none⟩ = some (.slice a1 n1 k1))
    (r0 : MRow 0 w.heap.size w a0 x0) (r1 : MRow 0 w.heap.size w a1 x1) :
    Calls Try.prog 60 #[.slice (some ⟨lb, 0, none⟩) 2 2] w (MvsPost (x0 ++ x1) w) := by
  have E0 := Lib.hid e0
  have E1 := Lib.hid e1
  have R0 := Lib.hid r0
  have R1 := Lib.hid r1
  have C0 := Lib.hid ((Cs.nil w).cons hlb l1 |>.cons hlb l0)
  clear e0 e1 r0 r1
  go_enter Try.func60, Try.ntmps60
  go_wp2
  go_loop [3, 11] (fun vs vi => (vi = .int .i64 0 ∧ vs = .int .i64 0) ∨ (vi = .int .i64 1 ∧ vs = .int .i64 n0) ∨ (vi = .int .i64 2 ∧ vs = .int .i64 ((n0 : Int) + n1))) (fun _ vi => 2 - (intOf vi).toNat)
  case atStart => exact .inl ⟨rfl, rfl⟩
  case round =>
    rcases hrel with ⟨rfl, rfl⟩ | ⟨rfl, rfl⟩ | ⟨rfl, rfl⟩
    · go_wp2
      go_round
      case rel => exact .inr (.inl ⟨rfl, by first | rfl | simp⟩)
      case measure => simp [intOf]
    · go_wp2
      go_round
      case rel => exact .inr (.inr ⟨rfl, rfl⟩)
      case measure => simp [intOf]
    · have hcast : (n0 : Int) + n1 = ((n0 + n1 : Nat) : Int) := by omega
      rw [hcast]
      clear hcast l0 l1
      go_wp2_with fail
      refine (growM_c (n0 + n1) (by omega) w).mono ?_
      rintro e w1 ⟨ag, cg, rfl, hO, hb1⟩
      have hz1 := hb1.size
      have HO := Lib.hid hO
      have HB := Lib.hid hb1
      clear hO hb1
      go_wp2
      go_loopw [6, 27] (fun vs vi wr => Below w.heap.size w wr ∧ ∃ (a : Option Addr) (l c : Nat) (zs : List Mv), vs = .slice a l c ∧ l = zs.length ∧ OwnM wr w.heap.size (.slice a l c) zs ∧ ((vi = .int .i64 0 ∧ zs = []) ∨ (vi = .int .i64 1 ∧ zs = x0) ∨ (vi = .int .i64 2 ∧ zs = x0 ++ x1))) (fun _ vi _ => 2 - (intOf vi).toNat)
      case atStart => exact ⟨HB.out, ag, 0, cg, [], rfl, rfl, HO.out, .inl ⟨rfl, rfl⟩⟩
      case round =>
        obtain ⟨hB, av, lv, cv, zs, rfl, hlv, hOw, hi⟩ := hrel
        have HBr := Lib.hid hB
        have HLv := Lib.hid hlv
        have HOw := Lib.hid hOw
        have Cr := Lib.hid (C0.out.below hB (Nat.le_refl _))
        have hzr := hB.size
        clear hB hlv hOw
        rcases hi with ⟨rfl, hzs⟩ | ⟨rfl, hzs⟩ | ⟨rfl, hzs⟩
        · have HZ := Lib.hid hzs
          clear hzs
          have m0 := Cr.out.get 0 rfl
          go_wp2_with (at_builtin; refine wpList_append_mvs rfl _ _ rfl w.heap.size (.slice av lv cv) lv zs x0 rfl HLv.out HOw.out a0 n0 k0 rfl E0.out ?_ (by have := HLv.out; rw [HZ.out] at this; simp at this; omega) hzr ?_)
          · have h := (R0.out.below HBr.out (Nat.le_refl _)).src
            rwa [← E0.out] at h
          intro a9 q9 w9 hO9 hG9 _
          have HB9 := Lib.hid (HBr.out.trans (own_grownM HOw.out hG9 hzr))
          have HO9 := Lib.hid hO9
          clear hO9 hG9 m0
          go_wp2
          go_roundw
          case rel => exact ⟨HB9.out, a9, lv + n0, q9, zs ++ x0, rfl, by rw [List.length_append, ← HLv.out, ← E0.out], HO9.out, .inr (.inl ⟨rfl, by rw [HZ.out]; rfl⟩)⟩
          case measure => simp [intOf]
        · have HZ := Lib.hid hzs
          clear hzs
          have m0 := Cr.out.get 1 rfl
          go_wp2_with (at_builtin; refine wpList_append_mvs rfl _ _ rfl w.heap.size (.slice av lv cv) lv zs x1 rfl HLv.out HOw.out a1 n1 k1 rfl E1.out ?_ (by have := HLv.out; rw [HZ.out] at this; have := E0.out; omega) hzr ?_)
          · have h := (R1.out.below HBr.out (Nat.le_refl _)).src
            rwa [← E1.out] at h
          intro a9 q9 w9 hO9 hG9 _
          have HB9 := Lib.hid (HBr.out.trans (own_grownM HOw.out hG9 hzr))
          have HO9 := Lib.hid hO9
          clear hO9 hG9 m0
          go_wp2
          go_roundw
          case rel => exact ⟨HB9.out, a9, lv + n1, q9, zs ++ x1, rfl, by rw [List.length_append, ← HLv.out, ← E1.out], HO9.out, .inr (.inr ⟨rfl, by rw [HZ.out]⟩)⟩
          case measure => simp [intOf]
        · have HZ := Lib.hid hzs
          clear hzs
          go_wp2
          go_ret
          have hO := HOw.out
          rw [HZ.out] at hO
          have hlv := HLv.out
          rw [HZ.out] at hlv
          subst hlv
          exact ⟨av, cv, rfl, HBr.out, hO⟩

set_option maxRecDepth 100000 in
set_option maxHeartbeats 2000000 in
theorem multiples_c (lo hi : Nat) (a : Option Addr) (cap : Nat) (ms : List Mv) (k : Int) (hl : ms.length ≤ 12) (hk : -100 ≤ k ∧ k ≤ 100) (hs : ∀ i (h : i < ms.length), Mv.small 100 ms[i]) (w : World) (hr : MRow lo hi w a ms) (hh : hi ≤ w.heap.size) :
    Calls Try.prog 59 #[.slice a ms.length cap, .int .i64 k] w (MvsPost (ms.map fun v => mulM v k) w) := by
  have HT := Lib.hid hr
  have HS := Lib.hid hs
  clear hr hs
  go_enter Try.func59, Try.ntmps59
  go_wp2
  go_loopw [5, 10] (fun vs vi wr => ∃ (j : Nat) (b : Option Addr) (l c : Nat), j ≤ ms.length ∧ vi = .int .i64 j ∧ vs = .slice b l c ∧ l = j ∧ OwnM wr w.heap.size (.slice b l c) ((ms.map fun v => mulM v k).take j) ∧ Below w.heap.size w wr) (fun _ vi _ => ms.length - (intOf vi).toNat)
  case atStart => exact ⟨0, none, 0, 0, Nat.zero_le _, rfl, rfl, rfl, OwnM.nil _ _, Below.refl _ _⟩
  case round =>
    obtain ⟨j, bv, lv, cv, hj, rfl, rfl, hlv, hO, hB⟩ := hrel
    have HO := Lib.hid hO
    have HL := Lib.hid hlv
    have HSz := Lib.hid hB.size
    have hlv12 : lv ≤ 12 := by omega
    clear hO hlv
    by_cases hlt : j < ms.length
    · obtain ⟨b, off, rfl, d0, d1, d2⟩ := HT.out.get hB hh hlt
      have hsm := HS.out j hlt
      have HTk := Lib.hid (show (ms.map fun v => mulM v k).take (j + 1) = (ms.map fun v => mulM v k).take j ++ [mulM ms[j] k] from by rw [List.take_succ_eq_append_getElem (by simpa using hlt)]; simp)
      obtain ⟨x0, x1, x2, hx⟩ : ∃ x0 x1 x2, ms[j] = ⟨x0, x1, x2⟩ := ⟨_, _, _, rfl⟩
      rw [hx] at d0 d1 d2 HTk hsm
      simp only at d0 d1 d2
      obtain ⟨s0, s1, s2⟩ := hsm
      simp only at s0 s1 s2
      have m0 := mul_small (a := k) (b := x0) (by omega) s0
      have m1 := mul_small (a := k) (b := x1) (by omega) s1
      have m2 := mul_small (a := k) (b := x2) (by omega) s2
      rw [Int.mul_comm] at m0 m1 m2
      have HB := Lib.hid hB
      have HLt := Lib.hid (show lv = ((ms.map fun v => mulM v k).take j).length from by rw [HL.out, List.length_take, List.length_map]; omega)
      clear hx hB
      go_wp2_with fail
      refine (times_c x0 x1 x2 k (by omega) (by omega) (by omega) _).mono ?_
      rintro e w1 ⟨rfl, hb1⟩
      have hbw := (below1 wr (.cells #[.int .i64 x0, .int .i64 x1, .int .i64 x2] 51)).trans (hb1.mono (show wr.heap.size ≤ (wr.alloc (.cells #[.int .i64 x0, .int .i64 x1, .int .i64 x2] 51)).heap.size by simp))
      have HB1 := Lib.hid (HB.out.trans (hbw.mono HSz.out))
      have HO1 := Lib.hid (HO.out.below hbw (fun g hg => (HO.out.lt g hg).2))
      have HSz1 := Lib.hid hbw.size
      clear hb1 hbw d0 d1 d2
      go_wp2_with (at_builtin; refine wpList_append_mvs rfl _ _ rfl w.heap.size (.slice bv lv cv) lv ((ms.map fun v => mulM v k).take j) [⟨x0 * k, x1 * k, x2 * k⟩] rfl HLt.out (HO1.out.alloc _) (some ⟨w1.heap.size, 0, none⟩) 1 1 rfl rfl ?_ (by omega) (by have := HSz.out; have := HSz1.out; simp; omega) ?_)
      · exact .inr ⟨w1.heap.size, 0, rfl, mvs_one w1 ⟨x0 * k, x1 * k, x2 * k⟩⟩
      intro a9 q9 w9 hO9 hG9 _
      have HB9 := Lib.hid (HB1.out.trans (((below1 w1 (.cells #[.int .i64 (x0 * k), .int .i64 (x1 * k), .int .i64 (x2 * k)] 51)).mono (by have := HSz.out; have := HSz1.out; omega)).trans (own_grownM (HO1.out.alloc _) hG9 (by have := HSz.out; have := HSz1.out; simp; omega))))
      have HO9 := Lib.hid hO9
      clear hO9 hG9 m0 m1 m2
      go_wp2
      go_roundw
      case rel => exact ⟨j + 1, a9, lv + 1, q9, by omega, by go_num, rfl, by rw [HL.out], by rw [HTk.out]; exact HO9.out, HB9.out⟩
      case measure => simp [intOf]; omega
    · obtain rfl : j = ms.length := by omega
      have HTk := Lib.hid (show (ms.map fun v => mulM v k).take ms.length = ms.map fun v => mulM v k from List.take_of_length_le (by simp))
      have HLn := Lib.hid (show lv = (ms.map fun v => mulM v k).length from by rw [List.length_map]; exact HL.out)
      go_wp2
      go_ret
      have hO := HO.out
      rw [HTk.out, HLn.out] at hO
      exact ⟨bv, cv, by rw [HLn.out]; rfl, hB, hO⟩
end Go.Proofs.Ytkgcbbbmiklgaaa
