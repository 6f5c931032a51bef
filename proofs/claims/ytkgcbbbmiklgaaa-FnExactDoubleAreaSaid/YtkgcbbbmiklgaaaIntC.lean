/-
  slices.Clone of a row of numbers, slices.Concat at two rows of numbers.
-/
import Derived.Test.YtkgcbbbmiklgaaaIntA
import Derived.Lib.LazyBuf
namespace Go.Proofs.Ytkgcbbbmiklgaaa
open Go.RowKit

/-- what a function that returns new numbers comes to -/
def IntsPost (zs : List Int) (W : World) (e : Ending) (w' : World) : Prop :=
  ∃ (a : Option Addr) (cap : Nat), e = .returned (.slice a zs.length cap) ∧ Below W.heap.size W w' ∧ NewI W.heap.size w'.heap.size w' a zs
theorem OwnI.at_ {w : World} {base : Nat} {a : Option Addr} {l c : Nat} {ss : List Int} (h : OwnI w base (.slice a l c) ss) : l = ss.length ∧ NewI base w.heap.size w a ss := by
  obtain ⟨a', c', he, hle, hN⟩ := h.newI
  injection he with e1 e2 e3
  subst e1 e3
  exact ⟨e2, hN⟩
theorem IRow.src {lo hi : Nat} {w : World} {a : Option Addr} {zs : List Int} (h : IRow lo hi w a zs) : zs.length = 0 ∨ ∃ b off, a = some ⟨b, off, none⟩ ∧ IntsIn w b off zs := by
  rcases h with h | ⟨b, off, e, _, _, q⟩
  · exact .inl (by simp [h])
  · exact .inr ⟨b, off, e, q⟩

set_option maxRecDepth 100000 in
set_option maxHeartbeats 1000000 in
theorem cloneI_c (lo hi : Nat) (ad : Addr) (cap : Nat) (zs : List Int) (hl : zs.length ≤ 4194304) (w : World) (hr : IRow lo hi w (some ad) zs) (hh : hi ≤ w.heap.size) :
    Calls Try.prog 55 #[.slice (some ad) zs.length cap] w (IntsPost zs w) := by
  have H := Lib.hid hr
  have hnil : ∀ W : World, (binOp .eql 34 (.slice (some ad) zs.length cap) (.slice none 0 0)).run Try.prog W = .ok (.bool false) W := fun W => run_eql_slice_nil W 34 2 (some ad) zs.length cap Try.underlying34
  clear hr
  go_enter Try.func55, Try.ntmps55
  go_wp2_with (at_builtin; refine wpList_append_ints rfl _ _ rfl w.heap.size (.slice (some ⟨w.heap.size, 0, none⟩) 0 0) 0 [] zs rfl rfl (OwnI.emptyRow (heap_alloc_new w _) (Nat.le_refl _)) (some ad) zs.length cap rfl rfl ?_ (by omega) (by simp) ?_)
  · exact ((H.out.below (below1 w _) hh).src)
  intro a9 q9 w9 hO9 hG9 _
  have HB9 := Lib.hid ((below1 w (.cells #[] 2)).trans (own_grownI (OwnI.emptyRow (heap_alloc_new w _) (Nat.le_refl _)) hG9 (by simp)))
  have HO9 := Lib.hid hO9
  clear hO9 hG9 hnil
  go_wp2
  go_ret
  exact ⟨a9, q9, rfl, HB9.out, HO9.out.at_.2⟩

def GrowIPost (W : World) (e : Ending) (w' : World) : Prop :=
  ∃ (a : Option Addr) (c : Nat), e = .returned (.slice a 0 c) ∧ OwnI w' W.heap.size (.slice a 0 c) [] ∧ Below W.heap.size W w'
set_option maxRecDepth 100000 in
set_option maxHeartbeats 2000000 in
theorem growI_c (n : Nat) (h0 : 0 < n) (hn : n ≤ 4194304) (w : World) :
    Calls Try.prog 70 #[.slice none 0 0, .int .i64 n] w (GrowIPost w) := by
  obtain ⟨i0, hi0, hi1, hi2, hi3⟩ := info_parts info_int64
  have h1 : ¬ ((n : Int) < 0) := by omega
  have h4 : (n : Int) > 0 := by omega
  have hold : (Builtin.firstCells i0.size 0 (.slice none 0 0)).run Try.prog w.drew = .ok (#[] : Array Value) w.drew := run_firstCells_none w.drew i0.size 0 0 0
  have hr : ∀ ty, (Builtin.append_ #[34, 3] ty #[.slice none 0 0, .int .i64 (n : Int)]).run Try.prog w =
      .ok (.slice (some ⟨w.heap.size, 0, none⟩) (0 + n) (grownCap w (0 + n) 0 2)) (w.drew.alloc (.cells (([] : List Value).toArray ++ Builtin.zeroCells (Value.int .i64 0).cells n ++ Builtin.zeroCells (Value.int .i64 0).cells (grownCap w (0 + n) 0 2 - (0 + n))) 2)) := fun ty =>
    Lib.run_append_grow_zeros w 34 3 ty 2 i0 _ .i64 .i64 Try.underlying34 Try.underlying3 hi0 hi1 none 0 0 [] hold n (by omega) (by rw [hi2]; omega) (by omega) (by omega) (by rw [hi3]; omega) (growslice_fits (by omega) (by rw [hi3]; omega))
  have hcap := grownCap_le_maxLen w (0 + n) 0 2 (by unfold maxLen; omega)
  have hge := grownCap_ge w (0 + n) 0 2
  rw [Nat.zero_add] at hr hcap hge
  generalize grownCap w n 0 2 = G at hr hcap hge
  have hO : ∀ cs : Array Value, cs.size = G → OwnI (w.alloc (.cells cs 2)) w.heap.size (.slice (some ⟨w.heap.size, 0, none⟩) 0 G) [] := fun cs hcs =>
    ⟨rfl, .inr ⟨w.heap.size, G, cs, rfl, Nat.le_refl _, heap_alloc_new w _, Nat.zero_le _, hcap, by rw [hcs, Nat.mul_one], by simp [cellsI]⟩⟩
  have HO := Lib.hid hO
  have hG : (0 : Int) ≤ (G : Int) := by omega
  unfold maxLen at hcap
  clear hold hO
  go_enter Try.func70, Try.ntmps70
  go_wp2_with (at_builtin; refine Lib.wpList_append_run _ rfl _ _ _ _ rfl _ _ rfl rfl _ _ (hr _) ?_)
  go_ret
  exact ⟨some ⟨w.heap.size, 0, none⟩, G, rfl, HO.out _ (by simp [Builtin.zeroCells]; omega), ⟨rfl, rfl, rfl, by simp, fun i hi => Below.heap_alloc w _ i hi⟩⟩

set_option maxRecDepth 100000 in
set_option maxHeartbeats 4000000 in
theorem concat2_c (x0 x1 : List Int) (a0 a1 : Option Addr) (n0 n1 k0 k1 lb : Nat) (w : World) (e0 : n0 = x0.length) (e1 : n1 = x1.length) (hlen : n0 + n1 ≤ 1048576) (hpos : 0 < n0 + n1) (hlb : lb < w.heap.size)
    (l0 : w.cell? ⟨lb, 0, none⟩ = some (.slice a0 n0 k0)) (l1 : w.cell? ⟨lb, 1, none⟩ = some (.slice a1 n1 k1))
    (r0 : IRow 0 w.heap.size w a0 x0) (r1 : IRow 0 w.heap.size w a1 x1) :
    Calls Try.prog 69 #[.slice (some ⟨lb, 0, none⟩) 2 2] w (IntsPost (x0 ++ x1) w) := by
  have E0 := Lib.hid e0
  have E1 := Lib.hid e1
  have R0 := Lib.hid r0
  have R1 := Lib.hid r1
  have C0 := Lib.hid ((Cs.nil w).cons hlb l1 |>.cons hlb l0)
  clear e0 e1 r0 r1
  go_enter Try.func69, Try.ntmps69
  go_wp2
  go_loop [3, 11] (fun vs vi => (vi = .int .i64 0 ∧ vs = .int .i64 0) ∨ (vi = .int .i64 1 ∧ vs = .int .i64 n0) ∨ (vi = .int .i64 2 ∧ vs = .int .i64 ((n0 : Int) + n1))) (fun _ vi => 2 - (intOf vi).toNat)
  case atStart => exact .inl ⟨rfl, rfl⟩
  case round =>
    rcases hrel with ⟨rfl, rfl⟩ | ⟨rfl, rfl⟩ | ⟨rfl, rfl⟩
    · go_wp2
      go_round
      case rel => exact .inr (.inl ⟨rfl, by first | rfl | simp⟩)
      case measure => simp [intOf]
    · go_wp2
      go_round
      case rel => exact .inr (.inr ⟨rfl, rfl⟩)
      case measure => simp [intOf]
    · have hcast : (n0 : Int) + n1 = ((n0 + n1 : Nat) : Int) := by omega
      rw [hcast]
      clear hcast l0 l1
      go_wp2_with fail
      refine (growI_c (n0 + n1) hpos (by omega) w).mono ?_
      rintro e w1 ⟨ag, cg, rfl, hO, hb1⟩
      have hz1 := hb1.size
      have HO := Lib.hid hO
      have HB := Lib.hid hb1
      clear hO hb1
      go_wp2
      go_loopw [6, 27] (fun vs vi wr => Below w.heap.size w wr ∧ ∃ (a : Option Addr) (l c : Nat) (zs : List Int), vs = .slice a l c ∧ l = zs.length ∧ OwnI wr w.heap.size (.slice a l c) zs ∧ ((vi = .int .i64 0 ∧ zs = []) ∨ (vi = .int .i64 1 ∧ zs = x0) ∨ (vi = .int .i64 2 ∧ zs = x0 ++ x1))) (fun _ vi _ => 2 - (intOf vi).toNat)
      case atStart => exact ⟨HB.out, ag, 0, cg, [], rfl, rfl, HO.out, .inl ⟨rfl, rfl⟩⟩
      case round =>
        obtain ⟨hB, av, lv, cv, zs, rfl, hlv, hOw, hi⟩ := hrel
        have HBr := Lib.hid hB
        have HLv := Lib.hid hlv
        have HOw := Lib.hid hOw
        have Cr := Lib.hid (C0.out.below hB (Nat.le_refl _))
        have hzr := hB.size
        clear hB hlv hOw
        rcases hi with ⟨rfl, hzs⟩ | ⟨rfl, hzs⟩ | ⟨rfl, hzs⟩
        · have HZ := Lib.hid hzs
          clear hzs
          have m0 := Cr.out.get 0 rfl
          go_wp2_with (at_builtin; refine wpList_append_ints rfl _ _ rfl w.heap.size (.slice av lv cv) lv zs x0 rfl HLv.out HOw.out a0 n0 k0 rfl E0.out ?_ (by have := HLv.out; rw [HZ.out] at this; simp at this; omega) hzr ?_)
          · have h := (R0.out.below HBr.out (Nat.le_refl _)).src
            rwa [← E0.out] at h
          intro a9 q9 w9 hO9 hG9 _
          have HB9 := Lib.hid (HBr.out.trans (own_grownI HOw.out hG9 hzr))
          have HO9 := Lib.hid hO9
          clear hO9 hG9 m0
          go_wp2
          go_roundw
          case rel => exact ⟨HB9.out, a9, lv + n0, q9, zs ++ x0, rfl, by rw [List.length_append, ← HLv.out, ← E0.out], HO9.out, .inr (.inl ⟨rfl, by rw [HZ.out]; rfl⟩)⟩
          case measure => simp [intOf]
        · have HZ := Lib.hid hzs
          clear hzs
          have m0 := Cr.out.get 1 rfl
          go_wp2_with (at_builtin; refine wpList_append_ints rfl _ _ rfl w.heap.size (.slice av lv cv) lv zs x1 rfl HLv.out HOw.out a1 n1 k1 rfl E1.out ?_ (by have := HLv.out; rw [HZ.out] at this; have := E0.out; omega) hzr ?_)
          · have h := (R1.out.below HBr.out (Nat.le_refl _)).src
            rwa [← E1.out] at h
          intro a9 q9 w9 hO9 hG9 _
          have HB9 := Lib.hid (HBr.out.trans (own_grownI HOw.out hG9 hzr))
          have HO9 := Lib.hid hO9
          clear hO9 hG9 m0
          go_wp2
          go_roundw
          case rel => exact ⟨HB9.out, a9, lv + n1, q9, zs ++ x1, rfl, by rw [List.length_append, ← HLv.out, ← E1.out], HO9.out, .inr (.inr ⟨rfl, by rw [HZ.out]⟩)⟩
          case measure => simp [intOf]
        · have HZ := Lib.hid hzs
          clear hzs
          go_wp2
          go_ret
          have hO := HOw.out
          rw [HZ.out] at hO
          have hlv := HLv.out
          rw [HZ.out] at hlv
          subst hlv
          exact ⟨av, cv, rfl, HBr.out, hO.at_.2⟩
end Go.Proofs.Ytkgcbbbmiklgaaa
