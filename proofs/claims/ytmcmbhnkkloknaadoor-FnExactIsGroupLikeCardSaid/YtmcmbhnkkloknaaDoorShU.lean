/-
  The program's value of a series at a shuffle of two words.
-/
import Derived.Test.YtmcmbhnkkloknaaDoorShV
import Derived.Test.YtmcmbhnkkloknaaDoorShuG
import Derived.Test.YtmcmbhnkkloknaaDoorShuZ
import Derived.Test.YtmcmbhnkkloknaaDoorPairT
import Derived.Test.YtmcmbhnkkloknaaDoorAddP
namespace Go.Proofs.YtmcmbhnkkloknaaDoor
open Go.RowKit Go.Shelf
set_option linter.unusedVariables false

attribute [local go_sem] Oper.semAt_some

/-- the terms of the words handed on -/
def swT {v u : ByteArray} (pre : List (Sw v u)) : List Tm := pre.map fun x => tmE x.1
theorem pairL_snoc (ys : List Tm) (t : Tm) : ∀ (xs : List Tm) (acc : Int × Int), pairL ys (xs ++ [t]) acc = (pairL ys xs acc).bind fun a => pairStep ys a t
  | [], acc => by
    show pairL ys [t] acc = pairStep ys acc t
    rw [pairL]
    cases pairStep ys acc t <;> rfl
  | x :: xs, acc => by
    rw [List.cons_append, pairL, pairL]
    cases pairStep ys acc x with
    | none => rfl
    | some a => exact pairL_snoc ys t xs a
theorem pairL_stop (ys : List Tm) (zs : List Tm) : ∀ (xs : List Tm) (acc : Int × Int), pairL ys xs acc = none → pairL ys (xs ++ zs) acc = none
  | [], acc, h => by cases h
  | x :: xs, acc, h => by
    rw [List.cons_append, pairL]
    rw [pairL] at h
    cases hs : pairStep ys acc x with
    | none => rfl
    | some a => rw [hs] at h; exact pairL_stop ys zs xs a h
theorem apR_comm (a b n d p q : Int) : apR a b n d p q = apR a b p q n d := by
  unfold apR
  rw [Int.mul_comm n p, Int.mul_comm d q]
theorem ap_step {ys : List Tm} {a b n d p q : Int} {s : ByteArray} (hl : valL s.data.toList ys = (p, q)) (hp : p ≠ 0) :
    ∃ t1 t2 t3, apR a b n d p q = (t1, t2, t3) ∧ ((t3 = 3 ∧ pairStep ys (a, b) ⟨s, n, d⟩ = none) ∨ (t3 = 0 ∧ pairStep ys (a, b) ⟨s, n, d⟩ = some (t1, t2) ∧ isF t1 t2 = true)) := by
  cases hok : fOk (n * p) (d * q) with
  | false => exact ⟨0, 0, 3, by unfold apR; rw [hok]; rfl, .inl ⟨rfl, pair_bad1 (t := ⟨s, n, d⟩) hl hp hok⟩⟩
  | true =>
    cases hok2 : fOk (a * fD (n * p) (d * q) + fN (n * p) (d * q) * b) (b * fD (n * p) (d * q)) with
    | false =>
      refine ⟨0, 0, 3, ?_, .inl ⟨rfl, pair_bad2 (t := ⟨s, n, d⟩) hl hp hok rfl rfl hok2⟩⟩
      unfold apR
      rw [hok, if_pos rfl]
      unfold q3
      rw [(low_no hok2).1, (low_no hok2).2.1, (low_no hok2).2.2]
    | true =>
      refine ⟨_, _, 0, ?_, .inr ⟨rfl, pair_good (t := ⟨s, n, d⟩) hl hp hok rfl rfl hok2, fOk_isFp hok2⟩⟩
      unfold apR
      rw [hok, if_pos rfl]
      unfold q3
      rw [(low_yes hok2).2.2]
theorem Box2.kept {W W' : World} {row : Option Nat} {g : Nat} {a b : Int} (h : Box2 W g a b) (hg : W.grownBy W' row) (hr : ∀ r, row = some r → ∃ o : Obj, W.heap[r]? = some o ∧ o.isCells = false) : Box2 W' g a b :=
  ⟨Nat.lt_of_lt_of_le h.1 hg.size, cell_kept h.2.1 hg hr, cell_kept h.2.2.1 hg hr, (frozen_kept h.2.1 hg hr).trans h.2.2.2.1, (frozen_kept h.2.2.1 hg hr).trans h.2.2.2.2⟩
theorem far_pair' {g n o : Nat} {u v : Value} {w' : World} (h : g ≠ n) : ((w'.setCell ⟨g, 0, none⟩ u).setCell ⟨g, 1, none⟩ v).cell? ⟨n, o, none⟩ = w'.cell? ⟨n, o, none⟩ := by
  rw [World.cell?_setCell_far _ _ _ _ h, World.cell?_setCell_far _ _ _ _ h]
theorem each_in_words {D : Nat} (hD : D ≤ 3) {v u : ByteArray} (hv : wordB (D : Int) v.data.toList = true) (hu : wordB (D : Int) u.data.toList = true) (x : Sw v u) (h8 : v.size + u.size ≤ 8) : x.1.1.size ≤ 8 ∧ ((x.1.2 : Nat) : Int) = ((shN v.data.toList u.data.toList x.1.1.data.toList : Nat) : Int) := by
  have h1 := eachL_num x.2
  have h2 : x.1.1 ∈ (eachL v.data.toList u.data.toList (v.size + u.size) ByteArray.empty).map (·.1) := List.mem_map_of_mem x.2
  rw [eachL_words hD hv hu] at h2
  have h3 := wordsL_size D (v.size + u.size) _ (List.mem_filter.1 h2).1
  exact ⟨by omega, by rw [h1.1]⟩

set_option maxRecDepth 100000 in
set_option maxHeartbeats 16000000 in
theorem atShuffle_c (D : Nat) (n : Int) (ys : List Tm) (hl2 : ys.length ≤ 1048576) (hs2 : serB (D : Int) n ys = true) (v u : ByteArray) (hvu : v.size + u.size ≤ 5) (hwv : wordB (D : Int) v.data.toList = true) (hwu : wordB (D : Int) u.data.toList = true) (mb nb : Nat) (w : World) (hM : MapV w mb nb (valV ys ys.length)) :
    Calls Tryd.prog 40 #[.map (some mb), .string v, .string u] w (FracPost (pairC (pairL ys (shL D v u) (0, 1))) w) := by
  have hmx : Tryd.prog.follows .mixedOrders = true := by kernel_rfl
  have hsh := shape_out (show shapeB (D : Int) n = true from by have h := hs2; unfold serB at h; rw [Bool.and_eq_true] at h; exact h.1)
  have HF2 := Lib.hid (ser_fr hs2)
  have HVV := Lib.hid (valV_valL (ser_neP hs2) (ser_nzP hs2))
  have HM := Lib.hid hM
  have hmbl := hM.lt
  have C4 := Lib.hid (fun W => shuffleOf_c v u (by omega) (by omega) W)
  have HEq := Lib.hid (each_terms (D := D) (by omega) hwv hwu)
  have hfew := shL_few (D := D) (v := v) (w := u) (by omega) hvu
  have hlen : (eachL v.data.toList u.data.toList (v.size + u.size) ByteArray.empty).length ≤ 1000 := by have := congrArg List.length HEq.out; rw [List.length_map] at this; omega
  have HEx := Lib.hid (fun x : Sw v u => each_in_words (D := D) (by omega) hwv hwu x (by omega))
  clear hM hs2 hsh hwv hwu
  refine (callsIn_wide (n := 9)).1 ?_
  refine callsIn_of_wp_marks Tryd.func40 rfl trivial ?_ rfl
  simp only [Tryd.ntmps40, List.size_toArray, List.length_cons, List.length_nil, Nat.reduceAdd, Nat.reduceSub, Array.replicate_succ, Array.replicate_zero, List.push_toArray, List.append_toArray, List.nil_append, List.cons_append]
  gi_wp2_with (first
    | (refine ⟨trivial, ?_⟩; gi_at_call 18; refine (callsIn_wide.2 (iWhole_c _ _)).mono ?_; rintro e w1 ⟨rfl, hb1⟩; have HB1 := Lib.hid hb1; clear hb1)
    | (refine ⟨trivial, ?_⟩; gi_at_call 55; refine (callsIn_wide.2 (C4.out _)).mono ?_; rintro e w8 ⟨bm, p8, q8, rfl, hb8, hM8, hp8, hq8, c80, c81⟩)
    | fail)
  have hb := hb8
  have hb1 := HB1.out
  simp only [World.size_alloc] at hb hb1
  obtain ⟨B, hBe⟩ : ∃ B, w1.heap.size = B := ⟨_, rfl⟩
  have hz1 := hb1.size
  have hz8 := hb.size
  simp only [World.size_alloc] at hz1 hz8
  rw [hBe] at hb hz1 hz8
  have bc := bcellB hb1
  have R0 : w1.cell? ⟨w.heap.size + 1, 0, none⟩ = some (.int .i64 0) := (bc.1 _ _ (by omega)).trans (by go_simp)
  have R1 : w1.cell? ⟨w.heap.size + 1, 1, none⟩ = some (.int .i64 0) := (bc.1 _ _ (by omega)).trans (by go_simp)
  have R2 : w1.cell? ⟨w.heap.size + 1 + 1, 0, none⟩ = some (.int .i64 0) := (bc.1 _ _ (by omega)).trans (by go_simp)
  have Z0 : w1.frozen? ⟨w.heap.size + 1, 0, none⟩ = false := (bc.2 _ _ (by omega)).trans (by go_simp)
  have Z1 : w1.frozen? ⟨w.heap.size + 1, 1, none⟩ = false := (bc.2 _ _ (by omega)).trans (by go_simp)
  have Z2 : w1.frozen? ⟨w.heap.size + 1 + 1, 0, none⟩ = false := (bc.2 _ _ (by omega)).trans (by go_simp)
  have M0 : w1.cell? ⟨w.heap.size, 0, none⟩ = some (.map (some mb)) := (bc.1 _ _ (by omega)).trans (by go_simp)
  have HW1 : Below w.heap.size w w1 := (below3 w _ _ _).trans (hb1.mono (by omega))
  have hX8 : Box2 w8 B 0 1 := by
    refine Box2.below ?_ hb (by omega)
    have h := (Box2.new w1 0 1 37)
    rw [hBe] at h
    exact h.below (below1 _ _) (by simp; omega)
  have hc8 : w8.cell? ⟨B + 1, 0, none⟩ = some (.int .i64 0) := by
    refine (hb.cell (p := ⟨B + 1, 0, none⟩) (by show B + 1 < _; omega)).trans ?_
    subst hBe
    go_simp
  have hf8 : w8.frozen? ⟨B + 1, 0, none⟩ = false := by
    refine (hb.frozen (p := ⟨B + 1, 0, none⟩) (by show B + 1 < _; omega)).trans ?_
    subst hBe
    go_simp
  have hB8 : Below B w1 w8 := by
    have h := (below2 w1 (.cells #[.int .i64 0, .int .i64 1] 37) (.cells #[.int .i64 0] 2)).trans (hb.mono (by omega))
    rwa [hBe] at h
  clear hb8 hb hb1 bc HB1
  rw [hBe]
  refine wpIn_rangeFunc_ownF rfl (by omega) (gf := 72) (lb := #[.pointer (some ⟨p8, 0, none⟩), .pointer (some ⟨q8, 0, none⟩)]) rfl trivial (enters_of Tryd.func72 (by kernel_rfl) rfl)
    (words_stops2 v u hvu bm p8 q8 w8 hM8 hp8 hq8 c80 c81) (fun h k => h.trans k) (fun W l o o' hl h ho hk => walksK_b (w := w8) W l o o' hl h ho hk) (Below.refl _ _) (fun _ => rfl)
    (fun (pre : List (Sw v u)) W => (∃ a b : Int, pairL ys (swT pre) (0, 1) = some (a, b) ∧ isF a b = true ∧ Box2 W B a b ∧ W.cell? ⟨B + 1, 0, none⟩ = some (.int .i64 0) ∧ W.frozen? ⟨B + 1, 0, none⟩ = false ∧ B + 1 < W.heap.size) ∧ Below B w1 W)
    (fun c (pre : List (Sw v u)) W => (c = .ret ∧ pairL ys (swT pre) (0, 1) = none ∧ W.cell? ⟨w.heap.size + 1, 0, none⟩ = some (.int .i64 0) ∧ W.cell? ⟨w.heap.size + 1, 1, none⟩ = some (.int .i64 0) ∧ W.cell? ⟨w.heap.size + 1 + 1, 0, none⟩ = some (.int .i64 3)) ∧ Below w.heap.size w W)
    (OwnFrom.and (Own.from (fun s A B' row hs hg hr => by
      obtain ⟨a, b, h1, h2, h3, h4, h5, h6⟩ := hs
      exact ⟨a, b, h1, h2, h3.kept hg hr, cell_kept h4 hg hr, (frozen_kept h4 hg hr).trans h5, Nat.lt_of_lt_of_le h6 hg.size⟩) _) (ownFrom_below (by omega) (by omega)))
    (fun c => OwnFrom.and (Own.from (fun s A B' row hs hg hr => ⟨hs.1, hs.2.1, cell_kept hs.2.2.1 hg hr, cell_kept hs.2.2.2.1 hg hr, cell_kept hs.2.2.2.2 hg hr⟩) _) (ownFrom_below (by omega) (by omega)))
    ⟨⟨0, 1, rfl, isF_zero_one, hX8, hc8, hf8, by omega⟩, hB8⟩
    (fun x : Sw v u => { tmps := #[.map (some mb), .string v, .string u, .pointer (some ⟨w.heap.size, 0, none⟩), undef, undef, .pointer (some ⟨w.heap.size + 1, 0, none⟩), .pointer (some ⟨w.heap.size + 1 + 1, 0, none⟩), .pointer (some ⟨B, 0, none⟩), .pointer (some ⟨B + 1, 0, none⟩), .string x.1.1, .int .i64 (x.1.2 : Int), undef, undef, .agg #[.int .i64 0, .int .i64 1], .string v, .string u, .func (.func 72) #[] #[.pointer (some ⟨p8, 0, none⟩), .pointer (some ⟨q8, 0, none⟩)], .string x.1.1, .int .i64 (x.1.2 : Int), undef, undef, undef, undef, undef, undef, undef, undef, undef, undef, undef, undef, undef, undef, undef, undef, undef, undef, undef, undef, undef], defers := [] }) ?assign ?body ?done ?stop
  case assign =>
    intro l x W K hK
    simp only [encE]
    gi_wp2
    exact hK
  case body =>
    rintro l pre ⟨⟨s, num⟩, hmem⟩ W ⟨⟨a, b, hpl, hab, hX, hcc, hfc, hB1l⟩, hB⟩ hlt
    have hw8 := HEx.out ⟨⟨s, num⟩, hmem⟩
    have hnx := shT_num (v := v) (u := u) hw8.1
    rw [← hw8.2] at hnx
    simp only at hw8 hnx
    have HFn := Lib.hid (isF_wh hnx)
    have HSn := Lib.hid (show pairL ys (swT (pre ++ [(⟨(s, num), hmem⟩ : Sw v u)])) (0, 1) = pairStep ys (a, b) ⟨s, (num : Int), 1⟩ from by
      have e : swT (pre ++ [(⟨(s, num), hmem⟩ : Sw v u)]) = swT pre ++ [⟨s, (num : Int), 1⟩] := by unfold swT; rw [List.map_append]; rfl
      rw [e, pairL_snoc, hpl]; rfl)
    have hs8 : s.size ≤ 8 := hw8.1
    clear hw8 hnx
    have HB := Lib.hid hB
    have hszW := hB.size
    have HMW := Lib.hid (HM.out.below (HW1.trans (hB.mono (by omega))) hmbl)
    have hsm : s.size ≤ maxLen := by unfold maxLen; omega
    have m0 := (hB.cell (p := ⟨w.heap.size, 0, none⟩) (by show w.heap.size < _; omega)).trans M0
    rcases HVV.out s with ⟨hv0, hl0⟩ | ⟨t, ht, hv0, hl0, htn⟩
    · have HN : Hid (pairL ys (swT (pre ++ [(⟨(s, num), hmem⟩ : Sw v u)])) (0, 1) = some (a, b)) := Lib.hid (by rw [HSn.out]; exact pair_skip (t := ⟨s, (num : Int), 1⟩) hl0 rfl)
      have hL := HMW.out.run_look s hsm
      rw [hv0] at hL
      simp only [lookV] at hL
      have HX := Lib.hid hX
      clear hpl hB hX hv0 hl0
      gi_wp2
      exact ⟨KeepsOthers.alloc W _, (KeepsOthers.alloc W _).walks, ⟨a, b, HN.out, hab, HX.out.below (below1 _ _) HX.out.1, ((below1 W _).cell (p := ⟨B + 1, 0, none⟩) (by show B + 1 < _; omega)).trans hcc, ((below1 W _).frozen (p := ⟨B + 1, 0, none⟩) (by show B + 1 < _; omega)).trans hfc, by simp; omega⟩, HB.out.alloc (by omega) _⟩
    · have HTf := Lib.hid (HF2.out t ht)
      obtain ⟨ts, p, q⟩ := t
      simp only at hl0 htn HTf
      obtain ⟨t1', t2', t3', hap, hcase⟩ := ap_step (a := a) (b := b) (n := (num : Int)) (d := 1) hl0 htn
      rw [apR_comm] at hap
      have HAp := Lib.hid (fun W => addProduct_c a b p q (num : Int) 1 hab HTf.out HFn.out W)
      rw [hap] at HAp
      have HCa := Lib.hid hcase
      have hL := HMW.out.run_look s hsm
      rw [hv0] at hL
      simp only [lookV] at hL
      have HX := Lib.hid hX
      clear hpl hX hv0 hl0 htn ht hap hcase
      gi_wp2
      obtain ⟨WA, hWA⟩ : ∃ WA : World, W.alloc (.cells #[.int .i64 p, .int .i64 q] 37) = WA := ⟨_, rfl⟩
      have a0 : WA.cell? ⟨W.heap.size, 0, none⟩ = some (.int .i64 p) := by subst hWA; go_simp
      have a1 : WA.cell? ⟨W.heap.size, 1, none⟩ = some (.int .i64 q) := by subst hWA; go_simp
      have hzA : W.heap.size < WA.heap.size := by subst hWA; simp
      have hbA : Below W.heap.size W WA := by subst hWA; exact below1 _ _
      have hKA : KeepsOthers W WA := keeps_below2 hbA
      have hXA : Box2 WA B a b := HX.out.below hbA HX.out.1
      have hAd0 : WA.drew.cell? ⟨B, 0, none⟩ = some (.int .i64 a) := hXA.2.1
      have hAd1 : WA.drew.cell? ⟨B, 1, none⟩ = some (.int .i64 b) := hXA.2.2.1
      have E0 := (hbA.cell (p := ⟨B + 1, 0, none⟩) hB1l).trans hcc
      have G0 := (hbA.frozen (p := ⟨B + 1, 0, none⟩) hB1l).trans hfc
      have HBA := Lib.hid (HB.out.trans (hbA.mono (by omega)))
      rw [hWA]
      clear hWA hbA hL m0 hcc hfc
      refine wpIn_region_round (S := fun w' => w'.cell? ⟨W.heap.size, 0, none⟩ = some (.int .i64 p) ∧ w'.cell? ⟨W.heap.size, 1, none⟩ = some (.int .i64 q)) hmx (by kernel_rfl) (fun ⟨_, _, h⟩ => h) ⟨a0, a1⟩ (fun hHeld => ?_)
      refine wpAnyH_take (i := 1) (v := ?_) rfl (by kernel_rfl) (by kernel_rfl) (by kernel_rfl) (fun _ _ _ h => h) (Or.inl ⟨by rfl, ?_⟩) (by assumption) ?_
      rotate_left
      · (intro w0 hSw; obtain ⟨s0, s1⟩ := hSw; go_simp; (try with_reducible rfl))
      (try simp only [Act.put, List.setIfInBounds_toArray, List.set_cons_zero, List.set_cons_succ, List.getElem_toArray, List.getElem_cons_zero, List.getElem_cons_succ])
      refine wpAnyH_take (i := 2) (v := ?_) rfl (by kernel_rfl) (by kernel_rfl) (by kernel_rfl) (fun _ _ _ h => h) (Or.inl ⟨by rfl, ?_⟩) (by assumption) ?_
      rotate_left
      · (intro w0 hSw; obtain ⟨s0, s1⟩ := hSw; go_simp; (try with_reducible rfl))
      (try simp only [Act.put, List.setIfInBounds_toArray, List.set_cons_zero, List.set_cons_succ, List.getElem_toArray, List.getElem_cons_zero, List.getElem_cons_succ])
      refine wpAnyH_ready (rs := [0, 3]) (by kernel_rfl) (by simp) ?_
      refine (AllReadyH.cons rfl (fun K hK => ?_) (AllReadyH.cons rfl (fun K hK => ?_) AllReadyH.nil))
      · go_simp
        refine hK.out _ _ (by assumption) (fun hSl => ?_)
        clear hK K
        (try simp only [Act.put, List.setIfInBounds_toArray, List.set_cons_zero, List.set_cons_succ, List.getElem_toArray, List.getElem_cons_zero, List.getElem_cons_succ])
        refine wpAnyH_ready (rs := [3]) (by kernel_rfl) (by simp) ?_
        refine (AllReadyH.cons rfl (fun K hK => ?_) AllReadyH.nil)
        go_simp
        go_at_call 18
        refine (iWhole_c _ _).mono ?_
        rintro e w5 ⟨rfl, hb5⟩
        have hbW : Below WA.heap.size WA w5 := ⟨hb5.os, hb5.tape, hb5.output, hb5.size, hb5.block⟩
        have hS5 : w5.cell? ⟨W.heap.size, 0, none⟩ = some (.int .i64 p) ∧ w5.cell? ⟨W.heap.size, 1, none⟩ = some (.int .i64 q) := ⟨(hbW.cell (p := ⟨W.heap.size, 0, none⟩) hzA).trans a0, (hbW.cell (p := ⟨W.heap.size, 1, none⟩) hzA).trans a1⟩
        have hX5 := hXA.below hbW hXA.1
        have t0 := hX5.2.1
        have t1 := hX5.2.2.1
        have HX5 := Lib.hid hX5
        have HB5 := Lib.hid hbW
        have hz5 := hbW.size
        clear hb5 hX5 hbW
        refine hK.out _ _ hS5 (fun hSl => ?_)
        clear hK K
        (try simp only [Act.put, List.setIfInBounds_toArray, List.set_cons_zero, List.set_cons_succ, List.getElem_toArray, List.getElem_cons_zero, List.getElem_cons_succ])
        refine wpAnyH_ready (rs := [4]) (by kernel_rfl) (by simp) ?_
        refine (AllReadyH.cons rfl (fun K hK => ?_) AllReadyH.nil)
        go_simp
        go_at_call 56
        refine (HAp.out _).mono ?_
        rintro e w6 ⟨rfl, hb6⟩
        have hS6 : w6.cell? ⟨W.heap.size, 0, none⟩ = some (.int .i64 p) ∧ w6.cell? ⟨W.heap.size, 1, none⟩ = some (.int .i64 q) := ⟨(hb6.cell (p := ⟨W.heap.size, 0, none⟩) (by show W.heap.size < _; omega)).trans hS5.1, (hb6.cell (p := ⟨W.heap.size, 1, none⟩) (by show W.heap.size < _; omega)).trans hS5.2⟩
        have hX6 := HX5.out.below hb6 HX5.out.1
        obtain ⟨hl6, m0, m1, y0, y1⟩ := id hX6
        have HX6 := Lib.hid hX6
        have HB6 := Lib.hid (HB5.out.trans (hb6.mono hz5))
        have hz6 := hb6.size
        have e0 := (HB6.out.cell (p := ⟨B + 1, 0, none⟩) (by show B + 1 < _; omega)).trans E0
        have g0 := (HB6.out.frozen (p := ⟨B + 1, 0, none⟩) (by show B + 1 < _; omega)).trans G0
        clear hb6 hX6
        refine hK.out _ _ hS6 (fun hSl => ?_)
        clear hK K
        refine wpAnyH_take (i := 5) (v := ?_) rfl (by kernel_rfl) (by kernel_rfl) (by kernel_rfl) (fun _ _ _ h => h) (Or.inl ⟨by rfl, ?_⟩) (by assumption) ?_
        rotate_left
        · (intro w0 hSw; obtain ⟨s0, s1⟩ := hSw; go_simp; (try with_reducible rfl))
        (try simp only [Act.put, List.setIfInBounds_toArray, List.set_cons_zero, List.set_cons_succ, List.getElem_toArray, List.getElem_cons_zero, List.getElem_cons_succ])
        refine wpAnyH_take (i := 6) (v := ?_) rfl (by kernel_rfl) (by kernel_rfl) (by kernel_rfl) (fun _ _ _ h => h) (Or.inl ⟨by rfl, ?_⟩) (by assumption) ?_
        rotate_left
        · (intro w0 hSw; obtain ⟨s0, s1⟩ := hSw; go_simp; (try with_reducible rfl))
        (try simp only [Act.put, List.setIfInBounds_toArray, List.set_cons_zero, List.set_cons_succ, List.getElem_toArray, List.getElem_cons_zero, List.getElem_cons_succ])
        refine wpAnyH_take (i := 7) (v := ?_) rfl (by kernel_rfl) (by kernel_rfl) (by kernel_rfl) (fun _ _ _ h => h) (Or.inl ⟨by rfl, ?_⟩) (by assumption) ?_
        rotate_left
        · (intro w0 hSw; obtain ⟨s0, s1⟩ := hSw; go_simp; (try with_reducible rfl))
        (try simp only [Act.put, List.setIfInBounds_toArray, List.set_cons_zero, List.set_cons_succ, List.getElem_toArray, List.getElem_cons_zero, List.getElem_cons_succ])
        refine wpAnyH_ready (rs := [8]) (by kernel_rfl) (by simp) ?_
        refine (AllReadyH.cons rfl (fun K hK => ?_) AllReadyH.nil)
        go_simp
        refine hK.out _ _ ⟨by rw [far_pair' (by omega)]; exact hS6.1, by rw [far_pair' (by omega)]; exact hS6.2⟩ (fun hS7 => ?_)
        clear hK K
        (try simp only [Act.put, List.setIfInBounds_toArray, List.set_cons_zero, List.set_cons_succ, List.getElem_toArray, List.getElem_cons_zero, List.getElem_cons_succ])
        refine wpAnyH_ready (rs := [9]) (by kernel_rfl) (by simp) ?_
        refine (AllReadyH.cons rfl (fun K hK => ?_) AllReadyH.nil)
        go_simp
        refine hK.out _ _ ⟨by rw [World.cell?_setCell_far _ _ _ _ (by show B + 1 ≠ W.heap.size; omega)]; exact hS7.1, by rw [World.cell?_setCell_far _ _ _ _ (by show B + 1 ≠ W.heap.size; omega)]; exact hS7.2⟩ (fun _ => ?_)
        clear hK K
        (try simp only [Act.put, List.setIfInBounds_toArray, List.set_cons_zero, List.set_cons_succ, List.getElem_toArray, List.getElem_cons_zero, List.getElem_cons_succ])
        refine wpAnyH_done (by kernel_rfl) ?_ _
        obtain ⟨W7, hW7⟩ : ∃ W7, ((w6.setCell ⟨B, 0, none⟩ (.int .i64 t1')).setCell ⟨B, 1, none⟩ (.int .i64 t2')).setCell ⟨B + 1, 0, none⟩ (.int .i64 t3') = W7 := ⟨_, rfl⟩
        have hK7 : KeepsOthers W W7 := by
          subst hW7
          exact (((hKA.trans (keeps_below2 HB6.out)).trans (KeepsOthers.setCell _ _ _)).trans (KeepsOthers.setCell _ _ _)).trans (KeepsOthers.setCell _ _ _)
        have hB7 : Below B w1 W7 := by
          subst hW7
          exact (((HBA.out.trans (HB6.out.mono (by omega))).setCell (p := ⟨B, 0, none⟩) (Nat.le_refl _) _).setCell (p := ⟨B, 1, none⟩) (Nat.le_refl _) _).setCell (p := ⟨B + 1, 0, none⟩) (by show B ≤ B + 1; omega) _
        have hX7 : Box2 W7 B t1' t2' := by
          subst hW7
          obtain ⟨k0, k1, k2, k3, k4⟩ := HX6.out.store t1' t2'
          exact ⟨by simpa using k0, by rw [World.cell?_setCell_far _ _ _ _ (by show B + 1 ≠ B; omega)]; exact k1, by rw [World.cell?_setCell_far _ _ _ _ (by show B + 1 ≠ B; omega)]; exact k2, by rw [World.frozen?_setCell]; exact k3, by rw [World.frozen?_setCell]; exact k4⟩
        have e7 : W7.cell? ⟨B + 1, 0, none⟩ = some (.int .i64 t3') := by
          subst hW7
          exact World.cell?_setCell_same _ _ _ (by rw [far_pair' (by omega)]; exact e0)
        have g7 : W7.frozen? ⟨B + 1, 0, none⟩ = false := by
          subst hW7
          rw [World.frozen?_setCell, World.frozen?_setCell, World.frozen?_setCell]; exact g0
        rw [hW7]
        have HK7 := Lib.hid hK7
        have HB7 := Lib.hid hB7
        have HX7 := Lib.hid hX7
        have hz7 := hK7.size
        clear hW7 hS5 hS6 hS7 hSl m0 m1 y0 y1 e0 g0 t0 t1 hK7 hB7 hX7
        rcases HCa.out with ⟨rfl, hn⟩ | ⟨rfl, hy, hf⟩
        · have HN : Hid (pairL ys (swT (pre ++ [(⟨(s, num), hmem⟩ : Sw v u)])) (0, 1) = none) := Lib.hid (HSn.out.trans hn)
          have q0 := (HB7.out.cell (p := ⟨w.heap.size + 1, 0, none⟩) (by show w.heap.size + 1 < _; omega)).trans R0
          have q1 := (HB7.out.cell (p := ⟨w.heap.size + 1, 1, none⟩) (by show w.heap.size + 1 < _; omega)).trans R1
          have q2 := (HB7.out.cell (p := ⟨w.heap.size + 1 + 1, 0, none⟩) (by show w.heap.size + 1 + 1 < _; omega)).trans R2
          have q3 := (HB7.out.frozen (p := ⟨w.heap.size + 1, 0, none⟩) (by show w.heap.size + 1 < _; omega)).trans Z0
          have q4 := (HB7.out.frozen (p := ⟨w.heap.size + 1, 1, none⟩) (by show w.heap.size + 1 < _; omega)).trans Z1
          have q5 := (HB7.out.frozen (p := ⟨w.heap.size + 1 + 1, 0, none⟩) (by show w.heap.size + 1 + 1 < _; omega)).trans Z2
          clear hn
          gi_wp2
          gi_region_with_o fail
          all_goals gi_wp2
          all_goals
            refine ⟨(((HK7.out.trans (KeepsOthers.setCell _ _ _)).trans (KeepsOthers.setCell _ _ _)).trans (KeepsOthers.setCell _ _ _)).trans (KeepsOthers.drew _), ⟨rfl, HN.out, ?_, ?_, ?_⟩, Below.drew ((((HW1.trans (HB7.out.mono (by omega))).setCell (p := ⟨w.heap.size + 1, 0, none⟩) (Nat.le_succ _) _).setCell (p := ⟨w.heap.size + 1, 1, none⟩) (Nat.le_succ _) _).setCell (p := ⟨w.heap.size + 1 + 1, 0, none⟩) (by show w.heap.size ≤ w.heap.size + 1 + 1; omega) _)⟩
            · rw [cell_drew_own, World.cell?_setCell_far _ _ _ _ (by show w.heap.size + 1 + 1 ≠ w.heap.size + 1; omega), World.cell?_setCell_other _ _ _ _ (fun e => by injection e with _ e2; cases e2)]
              exact World.cell?_setCell_same _ _ _ q0
            · rw [cell_drew_own, World.cell?_setCell_far _ _ _ _ (by show w.heap.size + 1 + 1 ≠ w.heap.size + 1; omega)]
              exact World.cell?_setCell_same _ _ _ ((World.cell?_setCell_other _ _ _ _ (fun e => by injection e with _ e2; cases e2)).trans q1)
            · rw [cell_drew_own]
              exact World.cell?_setCell_same _ _ _ (by rw [far_pair' (by omega)]; exact q2)
        · have HN : Hid (pairL ys (swT (pre ++ [(⟨(s, num), hmem⟩ : Sw v u)])) (0, 1) = some (t1', t2')) := Lib.hid (HSn.out.trans hy)
          clear hy
          gi_wp2
          exact ⟨HK7.out, HK7.out.walks, ⟨t1', t2', HN.out, hf, HX7.out, e7, g7, by omega⟩, HB7.out⟩
      · go_simp
        go_at_call 18
        refine (iWhole_c _ _).mono ?_
        rintro e w5 ⟨rfl, hb5⟩
        have hbW : Below WA.heap.size WA w5 := ⟨hb5.os, hb5.tape, hb5.output, hb5.size, hb5.block⟩
        have hS5 : w5.cell? ⟨W.heap.size, 0, none⟩ = some (.int .i64 p) ∧ w5.cell? ⟨W.heap.size, 1, none⟩ = some (.int .i64 q) := ⟨(hbW.cell (p := ⟨W.heap.size, 0, none⟩) hzA).trans a0, (hbW.cell (p := ⟨W.heap.size, 1, none⟩) hzA).trans a1⟩
        have hX5 := hXA.below hbW hXA.1
        have t0 := hX5.2.1
        have t1 := hX5.2.2.1
        have HX5 := Lib.hid hX5
        have HB5 := Lib.hid hbW
        have hz5 := hbW.size
        clear hb5 hX5 hbW
        refine hK.out _ _ hS5 (fun hSl => ?_)
        clear hK K
        (try simp only [Act.put, List.setIfInBounds_toArray, List.set_cons_zero, List.set_cons_succ, List.getElem_toArray, List.getElem_cons_zero, List.getElem_cons_succ])
        refine wpAnyH_ready (rs := [0]) (by kernel_rfl) (by simp) ?_
        refine (AllReadyH.cons rfl (fun K hK => ?_) AllReadyH.nil)
        go_simp
        refine hK.out _ _ (by assumption) (fun hSl => ?_)
        clear hK K
        (try simp only [Act.put, List.setIfInBounds_toArray, List.set_cons_zero, List.set_cons_succ, List.getElem_toArray, List.getElem_cons_zero, List.getElem_cons_succ])
        refine wpAnyH_ready (rs := [4]) (by kernel_rfl) (by simp) ?_
        refine (AllReadyH.cons rfl (fun K hK => ?_) AllReadyH.nil)
        go_simp
        go_at_call 56
        refine (HAp.out _).mono ?_
        rintro e w6 ⟨rfl, hb6⟩
        have hS6 : w6.cell? ⟨W.heap.size, 0, none⟩ = some (.int .i64 p) ∧ w6.cell? ⟨W.heap.size, 1, none⟩ = some (.int .i64 q) := ⟨(hb6.cell (p := ⟨W.heap.size, 0, none⟩) (by show W.heap.size < _; omega)).trans hS5.1, (hb6.cell (p := ⟨W.heap.size, 1, none⟩) (by show W.heap.size < _; omega)).trans hS5.2⟩
        have hX6 := HX5.out.below hb6 HX5.out.1
        obtain ⟨hl6, m0, m1, y0, y1⟩ := id hX6
        have HX6 := Lib.hid hX6
        have HB6 := Lib.hid (HB5.out.trans (hb6.mono hz5))
        have hz6 := hb6.size
        have e0 := (HB6.out.cell (p := ⟨B + 1, 0, none⟩) (by show B + 1 < _; omega)).trans E0
        have g0 := (HB6.out.frozen (p := ⟨B + 1, 0, none⟩) (by show B + 1 < _; omega)).trans G0
        clear hb6 hX6
        refine hK.out _ _ hS6 (fun hSl => ?_)
        clear hK K
        refine wpAnyH_take (i := 5) (v := ?_) rfl (by kernel_rfl) (by kernel_rfl) (by kernel_rfl) (fun _ _ _ h => h) (Or.inl ⟨by rfl, ?_⟩) (by assumption) ?_
        rotate_left
        · (intro w0 hSw; obtain ⟨s0, s1⟩ := hSw; go_simp; (try with_reducible rfl))
        (try simp only [Act.put, List.setIfInBounds_toArray, List.set_cons_zero, List.set_cons_succ, List.getElem_toArray, List.getElem_cons_zero, List.getElem_cons_succ])
        refine wpAnyH_take (i := 6) (v := ?_) rfl (by kernel_rfl) (by kernel_rfl) (by kernel_rfl) (fun _ _ _ h => h) (Or.inl ⟨by rfl, ?_⟩) (by assumption) ?_
        rotate_left
        · (intro w0 hSw; obtain ⟨s0, s1⟩ := hSw; go_simp; (try with_reducible rfl))
        (try simp only [Act.put, List.setIfInBounds_toArray, List.set_cons_zero, List.set_cons_succ, List.getElem_toArray, List.getElem_cons_zero, List.getElem_cons_succ])
        refine wpAnyH_take (i := 7) (v := ?_) rfl (by kernel_rfl) (by kernel_rfl) (by kernel_rfl) (fun _ _ _ h => h) (Or.inl ⟨by rfl, ?_⟩) (by assumption) ?_
        rotate_left
        · (intro w0 hSw; obtain ⟨s0, s1⟩ := hSw; go_simp; (try with_reducible rfl))
        (try simp only [Act.put, List.setIfInBounds_toArray, List.set_cons_zero, List.set_cons_succ, List.getElem_toArray, List.getElem_cons_zero, List.getElem_cons_succ])
        refine wpAnyH_ready (rs := [8]) (by kernel_rfl) (by simp) ?_
        refine (AllReadyH.cons rfl (fun K hK => ?_) AllReadyH.nil)
        go_simp
        refine hK.out _ _ ⟨by rw [far_pair' (by omega)]; exact hS6.1, by rw [far_pair' (by omega)]; exact hS6.2⟩ (fun hS7 => ?_)
        clear hK K
        (try simp only [Act.put, List.setIfInBounds_toArray, List.set_cons_zero, List.set_cons_succ, List.getElem_toArray, List.getElem_cons_zero, List.getElem_cons_succ])
        refine wpAnyH_ready (rs := [9]) (by kernel_rfl) (by simp) ?_
        refine (AllReadyH.cons rfl (fun K hK => ?_) AllReadyH.nil)
        go_simp
        refine hK.out _ _ ⟨by rw [World.cell?_setCell_far _ _ _ _ (by show B + 1 ≠ W.heap.size; omega)]; exact hS7.1, by rw [World.cell?_setCell_far _ _ _ _ (by show B + 1 ≠ W.heap.size; omega)]; exact hS7.2⟩ (fun _ => ?_)
        clear hK K
        (try simp only [Act.put, List.setIfInBounds_toArray, List.set_cons_zero, List.set_cons_succ, List.getElem_toArray, List.getElem_cons_zero, List.getElem_cons_succ])
        refine wpAnyH_done (by kernel_rfl) ?_ _
        obtain ⟨W7, hW7⟩ : ∃ W7, ((w6.setCell ⟨B, 0, none⟩ (.int .i64 t1')).setCell ⟨B, 1, none⟩ (.int .i64 t2')).setCell ⟨B + 1, 0, none⟩ (.int .i64 t3') = W7 := ⟨_, rfl⟩
        have hK7 : KeepsOthers W W7 := by
          subst hW7
          exact (((hKA.trans (keeps_below2 HB6.out)).trans (KeepsOthers.setCell _ _ _)).trans (KeepsOthers.setCell _ _ _)).trans (KeepsOthers.setCell _ _ _)
        have hB7 : Below B w1 W7 := by
          subst hW7
          exact (((HBA.out.trans (HB6.out.mono (by omega))).setCell (p := ⟨B, 0, none⟩) (Nat.le_refl _) _).setCell (p := ⟨B, 1, none⟩) (Nat.le_refl _) _).setCell (p := ⟨B + 1, 0, none⟩) (by show B ≤ B + 1; omega) _
        have hX7 : Box2 W7 B t1' t2' := by
          subst hW7
          obtain ⟨k0, k1, k2, k3, k4⟩ := HX6.out.store t1' t2'
          exact ⟨by simpa using k0, by rw [World.cell?_setCell_far _ _ _ _ (by show B + 1 ≠ B; omega)]; exact k1, by rw [World.cell?_setCell_far _ _ _ _ (by show B + 1 ≠ B; omega)]; exact k2, by rw [World.frozen?_setCell]; exact k3, by rw [World.frozen?_setCell]; exact k4⟩
        have e7 : W7.cell? ⟨B + 1, 0, none⟩ = some (.int .i64 t3') := by
          subst hW7
          exact World.cell?_setCell_same _ _ _ (by rw [far_pair' (by omega)]; exact e0)
        have g7 : W7.frozen? ⟨B + 1, 0, none⟩ = false := by
          subst hW7
          rw [World.frozen?_setCell, World.frozen?_setCell, World.frozen?_setCell]; exact g0
        rw [hW7]
        have HK7 := Lib.hid hK7
        have HB7 := Lib.hid hB7
        have HX7 := Lib.hid hX7
        have hz7 := hK7.size
        clear hW7 hS5 hS6 hS7 hSl m0 m1 y0 y1 e0 g0 t0 t1 hK7 hB7 hX7
        rcases HCa.out with ⟨rfl, hn⟩ | ⟨rfl, hy, hf⟩
        · have HN : Hid (pairL ys (swT (pre ++ [(⟨(s, num), hmem⟩ : Sw v u)])) (0, 1) = none) := Lib.hid (HSn.out.trans hn)
          have q0 := (HB7.out.cell (p := ⟨w.heap.size + 1, 0, none⟩) (by show w.heap.size + 1 < _; omega)).trans R0
          have q1 := (HB7.out.cell (p := ⟨w.heap.size + 1, 1, none⟩) (by show w.heap.size + 1 < _; omega)).trans R1
          have q2 := (HB7.out.cell (p := ⟨w.heap.size + 1 + 1, 0, none⟩) (by show w.heap.size + 1 + 1 < _; omega)).trans R2
          have q3 := (HB7.out.frozen (p := ⟨w.heap.size + 1, 0, none⟩) (by show w.heap.size + 1 < _; omega)).trans Z0
          have q4 := (HB7.out.frozen (p := ⟨w.heap.size + 1, 1, none⟩) (by show w.heap.size + 1 < _; omega)).trans Z1
          have q5 := (HB7.out.frozen (p := ⟨w.heap.size + 1 + 1, 0, none⟩) (by show w.heap.size + 1 + 1 < _; omega)).trans Z2
          clear hn
          gi_wp2
          gi_region_with_o fail
          all_goals gi_wp2
          all_goals
            refine ⟨(((HK7.out.trans (KeepsOthers.setCell _ _ _)).trans (KeepsOthers.setCell _ _ _)).trans (KeepsOthers.setCell _ _ _)).trans (KeepsOthers.drew _), ⟨rfl, HN.out, ?_, ?_, ?_⟩, Below.drew ((((HW1.trans (HB7.out.mono (by omega))).setCell (p := ⟨w.heap.size + 1, 0, none⟩) (Nat.le_succ _) _).setCell (p := ⟨w.heap.size + 1, 1, none⟩) (Nat.le_succ _) _).setCell (p := ⟨w.heap.size + 1 + 1, 0, none⟩) (by show w.heap.size ≤ w.heap.size + 1 + 1; omega) _)⟩
            · rw [cell_drew_own, World.cell?_setCell_far _ _ _ _ (by show w.heap.size + 1 + 1 ≠ w.heap.size + 1; omega), World.cell?_setCell_other _ _ _ _ (fun e => by injection e with _ e2; cases e2)]
              exact World.cell?_setCell_same _ _ _ q0
            · rw [cell_drew_own, World.cell?_setCell_far _ _ _ _ (by show w.heap.size + 1 + 1 ≠ w.heap.size + 1; omega)]
              exact World.cell?_setCell_same _ _ _ ((World.cell?_setCell_other _ _ _ _ (fun e => by injection e with _ e2; cases e2)).trans q1)
            · rw [cell_drew_own]
              exact World.cell?_setCell_same _ _ _ (by rw [far_pair' (by omega)]; exact q2)
        · have HN : Hid (pairL ys (swT (pre ++ [(⟨(s, num), hmem⟩ : Sw v u)])) (0, 1) = some (t1', t2')) := Lib.hid (HSn.out.trans hy)
          clear hy
          gi_wp2
          exact ⟨HK7.out, HK7.out.walks, ⟨t1', t2', HN.out, hf, HX7.out, e7, g7, by omega⟩, HB7.out⟩
  case done =>
    rintro D2 zs W hD hzs ⟨⟨a, b, h1, h2, hX, hcc, hfc, hl⟩, hB⟩ hK
    have HE : Hid (pairL ys (shL D v u) (0, 1) = some (a, b)) := Lib.hid (by
      have e : swT zs = shL D v u := (show swT zs = (zs.map (·.1)).map tmE from (by unfold swT; rw [List.map_map]; rfl)).trans ((congrArg (List.map tmE) hzs).trans HEq.out)
      rw [← e]; exact h1)
    obtain ⟨hXl, u0, u1, -, -⟩ := id hX
    have q0 := (hB.cell (p := ⟨w.heap.size + 1, 0, none⟩) (by show w.heap.size + 1 < _; omega)).trans R0
    have q1 := (hB.cell (p := ⟨w.heap.size + 1, 1, none⟩) (by show w.heap.size + 1 < _; omega)).trans R1
    have q2 := (hB.cell (p := ⟨w.heap.size + 1 + 1, 0, none⟩) (by show w.heap.size + 1 + 1 < _; omega)).trans R2
    have q3 := (hB.frozen (p := ⟨w.heap.size + 1, 0, none⟩) (by show w.heap.size + 1 < _; omega)).trans Z0
    have q4 := (hB.frozen (p := ⟨w.heap.size + 1, 1, none⟩) (by show w.heap.size + 1 < _; omega)).trans Z1
    have q5 := (hB.frozen (p := ⟨w.heap.size + 1 + 1, 0, none⟩) (by show w.heap.size + 1 + 1 < _; omega)).trans Z2
    have HB := Lib.hid hB
    have HKD := Lib.hid hK
    clear h1 hX hB hK
    gi_wp2
    obtain ⟨W2, hW2⟩ : ∃ W2, ((W.setCell ⟨w.heap.size + 1, 0, none⟩ (.int .i64 a)).setCell ⟨w.heap.size + 1, 1, none⟩ (.int .i64 b)).setCell ⟨w.heap.size + 1 + 1, 0, none⟩ (.int .i64 0) = W2 := ⟨_, rfl⟩
    have hK2 : W2.heap[D2]? = some (.deferred (some [])) := by
      rw [← hW2]
      exact (KeepsOthers.setCell _ _ _).same D2 _ ((KeepsOthers.setCell _ _ _).same D2 _ ((KeepsOthers.setCell _ _ _).same D2 _ HKD.out rfl) rfl) rfl
    have d0 : W2.cell? ⟨w.heap.size + 1, 0, none⟩ = some (.int .i64 a) := by subst hW2; go_simp
    have d1 : W2.cell? ⟨w.heap.size + 1, 1, none⟩ = some (.int .i64 b) := by subst hW2; go_simp
    have d2 : W2.cell? ⟨w.heap.size + 1 + 1, 0, none⟩ = some (.int .i64 0) := by subst hW2; go_simp
    have hBW : Below w.heap.size w W2 := by
      rw [← hW2]
      exact (((HW1.trans (HB.out.mono (by omega))).setCell (p := ⟨w.heap.size + 1, 0, none⟩) (Nat.le_succ _) _).setCell (p := ⟨w.heap.size + 1, 1, none⟩) (Nat.le_succ _) _).setCell (p := ⟨w.heap.size + 1 + 1, 0, none⟩) (by show w.heap.size ≤ w.heap.size + 1 + 1; omega) _
    rw [hW2]
    clear hW2
    have hrw : ∀ r, some D2 = some r → ∃ o : Obj, W2.heap[r]? = some o ∧ o.isCells = false := fun r e => by cases e; exact ⟨_, hK2, rfl⟩
    have c0 := cell_kept d0 (grownBy_putObj' W2 D2 (.deferred none)) hrw
    have c1 := cell_kept d1 (grownBy_putObj' W2 D2 (.deferred none)) hrw
    have c2 := cell_kept d2 (grownBy_putObj' W2 D2 (.deferred none)) hrw
    refine ⟨by simp, .inl ⟨_, _, rfl, run_takeDeferred hK2, ?_⟩⟩
    refine ⟨.tuple #[.agg #[.int .i64 a, .int .i64 b], .int .i64 0], by simp [results, Tryd.results40, go_sem, c0, c1, c2], ?_⟩
    rw [HE.out]
    exact ⟨rfl, hBW.trans (belowK_b (w := w) (Nat.le_refl _) W2 D2 _ _ (by omega) hK2 rfl rfl)⟩
  case stop =>
    rintro D2 c pre W hD hpre ⟨⟨rfl, hn, q0, q1, q2⟩, hBW⟩ hK
    have HE : Hid (pairL ys (shL D v u) (0, 1) = none) := Lib.hid (by
      obtain ⟨t, ht⟩ := hpre
      have e : shL D v u = swT pre ++ t.map tmE := by
        rw [← HEq.out, show swT pre = (pre.map (·.1)).map tmE from (by unfold swT; rw [List.map_map]; rfl), ← List.map_append]
        exact congrArg _ ht.symm
      rw [e]
      exact pairL_stop _ _ _ _ hn)
    have hszW := hBW.size
    clear hn
    gi_wp2
    have hrw : ∀ r, some D2 = some r → ∃ o : Obj, W.heap[r]? = some o ∧ o.isCells = false := fun r e => by cases e; exact ⟨_, hK, rfl⟩
    have c0 := cell_kept q0 (grownBy_putObj' W D2 (.deferred none)) hrw
    have c1 := cell_kept q1 (grownBy_putObj' W D2 (.deferred none)) hrw
    have c2 := cell_kept q2 (grownBy_putObj' W D2 (.deferred none)) hrw
    refine ⟨by simp, .inl ⟨_, _, rfl, run_takeDeferred hK, ?_⟩⟩
    refine ⟨.tuple #[.agg #[.int .i64 0, .int .i64 0], .int .i64 3], by simp [results, Tryd.results40, go_sem, c0, c1, c2], ?_⟩
    rw [HE.out]
    exact ⟨rfl, hBW.trans (belowK_b (w := w) (Nat.le_refl _) W D2 _ _ (by omega) hK rfl rfl)⟩
end Go.Proofs.YtmcmbhnkkloknaaDoor
