/-
  The program's ShuffleWords where it gives words: it appends a term for each word that its walk yields.
-/
import Derived.Test.YteljpgoaaelbfaaDoorShuY
import Derived.Test.YteljpgoaaelbfaaDoorShuF
import Derived.Test.YteljpgoaaelbfaaDoorNew
import Derived.Test.YteljpgoaaelbfaaDoorNew4
import Derived.Test.YteljpgoaaelbfaaDoorUnitS
import Derived.Test.YteljpgoaaelbfaaDoorMapV
import Derived.RangeFuncBox
import Derived.RangeFuncNested
import Derived.RangeFuncCalls
import Derived.RangeFuncLeaves
import Derived.RangeFuncFrom
import Derived.Shelf.Abstract
import Derived.WalkKit
import Derived.OwnWalkIn
import Derived.TacticsInMore
import Derived.LoopNIn
import Derived.LoopIn
import Derived.Shelf.RegionOpen
import Derived.Test.YteljpgoaaelbfaaDoorPwR
namespace Go.Proofs.YteljpgoaaelbfaaDoor
open Go.RowKit Go.Shelf
set_option linter.unusedVariables false

attribute [local go_sem] Oper.semAt_some

theorem keeps_below2 {W W' : World} (h : Below W.heap.size W W') : KeepsOthers W W' := ⟨h.size, fun _ _ hk _ => (h.block _ (Array.getElem?_eq_some_iff.1 hk).1).trans hk⟩
theorem own_below' {W W' : World} {base : Nat} {e : TypeId} {size : Nat} {v : Value} {n : Nat} {xs : List Value} (h : W.ownsRow base e size v n xs) (hb : Below W.heap.size W W') : W'.ownsRow base e size v n xs := by
  refine h.kept (⟨hb.os, hb.tape, hb.output, hb.size, fun k hk _ => hb.block k hk⟩ : W.grownBy W' none) ?_
  rcases h.2 with ⟨rfl, _⟩ | ⟨g, cap, cur, rfl, _⟩
  · exact .inl rfl
  · exact .inr (by simp [Value.ownBlock])
theorem made_kept2 {W W' : World} {row : Option Nat} {g m : Nat} (h : Made W g m) (hg : W.grownBy W' row) (hrow : ∀ r, row = some r → ∃ o : Obj, W.heap[r]? = some o ∧ o.isCells = false) : Made W' g m :=
  ⟨Nat.lt_of_lt_of_le h.1 hg.size, fun j hj => by
    obtain ⟨⟨v, hv⟩, hf⟩ := h.2 j hj
    exact ⟨⟨v, cell_kept hv hg hrow⟩, (frozen_kept hv hg hrow).trans hf⟩⟩
def tmE (x : ByteArray × Nat) : Tm := ⟨x.1, (x.2 : Int), 1⟩
theorem each_terms {D : Nat} (hD : D ≤ 3) {v u : ByteArray} (hv : wordB (D : Int) v.data.toList = true) (hu : wordB (D : Int) u.data.toList = true) : (eachL v.data.toList u.data.toList (v.size + u.size) ByteArray.empty).map tmE = shL D v u := by
  rw [eachL_is hD hv hu, List.map_map]
  rfl
theorem areWithin_c (n : Int) (v u : ByteArray) (hv : v.size ≤ 1048576) (hu : u.size ≤ 1048576) (W : World) : Calls Tryd.prog 21 #[.int .i64 n, .string v, .string u] W fun e w' => e = .returned (.bool (decide ((v.size : Int) + (u.size : Int) ≤ n))) ∧ w' = W := by
  go_enter Tryd.func21, Tryd.ntmps21
  go_wp2
  go_ret
  exact ⟨rfl, rfl⟩
set_option maxRecDepth 100000 in
theorem iShw_5 (d n : Int) (v u : ByteArray) (hv : v.size ≤ maxLen) (hu : u.size ≤ maxLen) (hsh : shapeB d n = true) (hwv : (decide ((v.size : Int) ≤ n) && wordB d v.data.toList) = true) (hwu : (decide ((u.size : Int) ≤ n) && wordB d u.data.toList) = true) (hsum : n < (v.size : Int) + (u.size : Int)) (w : World) :
    Calls Tryd.prog 6 #[.int .i64 d, .int .i64 n, .string v, .string u] w (SerPost d n [] 0 w) := by
  have Hsh := Lib.hid hsh
  have C1 := Lib.hid (fun W => isWord_c d n v hv W)
  rw [hwv] at C1
  have C2 := Lib.hid (fun W => isWord_c d n u hu W)
  rw [hwu] at C2
  have hn5 := shape_out hsh
  have hv5 : (v.size : Int) ≤ n := by rw [Bool.and_eq_true] at hwv; simpa using hwv.1
  have hu5 : (u.size : Int) ≤ n := by rw [Bool.and_eq_true] at hwu; simpa using hwu.1
  have C3 := Lib.hid (fun W => areWithin_c n v u (by omega) (by omega) W)
  rw [show decide ((v.size : Int) + (u.size : Int) ≤ n) = false from by simpa using hsum] at C3
  clear hv hu hsh hwv hwu hsum
  go_enter Tryd.func6, Tryd.ntmps6
  go_wp2_with (first | (go_at_call 19; refine (isShape_c _ _ _).mono ?_; rw [Hsh.out]; rintro e w' ⟨rfl, rfl⟩) | (go_at_call 20; (with_reducible refine (C1.out _).mono ?_); rintro e w' ⟨rfl, rfl⟩) | (go_at_call 20; (with_reducible refine (C2.out _).mono ?_); rintro e w' ⟨rfl, rfl⟩) | (go_at_call 21; (with_reducible refine (C3.out _).mono ?_); rintro e w' ⟨rfl, rfl⟩) | fail)
  refine (newSeries_c d n none 0 [] (by simp) (fun j hj => by simp at hj) _ (.inl rfl)).mono ?_
  rintro e w1 ⟨g, rfl, hb, hg, hM, hT⟩
  have hB := hb
  simp only [World.size_alloc] at hB
  obtain ⟨hc, hf⟩ := bcellB hB
  have r0 : w1.cell? ⟨w.heap.size, 0, none⟩ = some (.int .i64 0) := (hc _ _ (by omega)).trans (by go_simp)
  have r1 : w1.cell? ⟨w.heap.size, 1, none⟩ = some (.int .i64 0) := (hc _ _ (by omega)).trans (by go_simp)
  have r2 : w1.cell? ⟨w.heap.size, 2, none⟩ = some (.slice none 0 0) := (hc _ _ (by omega)).trans (by go_simp)
  have z0 : w1.frozen? ⟨w.heap.size, 0, none⟩ = false := (hf _ _ (by omega)).trans (by go_simp)
  have z1 : w1.frozen? ⟨w.heap.size, 1, none⟩ = false := (hf _ _ (by omega)).trans (by go_simp)
  have z2 : w1.frozen? ⟨w.heap.size, 2, none⟩ = false := (hf _ _ (by omega)).trans (by go_simp)
  have hg2 : w.heap.size + 1 ≤ g := by simp at hg; omega
  have hW := Lib.hid ((below2 w _ _).trans (hb.mono (by simp; omega)))
  have HN := Lib.hid (NewRow.of_to (lo := w.heap.size + 1) hg2 hM hT)
  clear hb hB hc hf hM hT hg
  go_wp2
  have hW3 := hW.out
  refine bodyPost_ret (v := .tuple #[.agg #[.int .i64 d, .int .i64 n, .slice (some ⟨g, 0, none⟩) 0 0], .int .i64 0]) (by simp [results, Tryd.results6, go_sem, r0, r1, r2]) rfl ⟨_, _, rfl, by go_grown, ?_⟩
  exact (HN.out.far3 (by omega)).mono (by omega) (Nat.le_refl _)
set_option maxRecDepth 100000 in
set_option maxHeartbeats 8000000 in
theorem iShw_6 (D : Nat) (n : Int) (v u : ByteArray) (hv : v.size ≤ maxLen) (hu : u.size ≤ maxLen) (hsh : shapeB (D : Int) n = true) (hwv : wordB (D : Int) v.data.toList = true) (hwu : wordB (D : Int) u.data.toList = true) (hsum : (v.size : Int) + (u.size : Int) ≤ n) (w : World) :
    Calls Tryd.prog 6 #[.int .i64 D, .int .i64 n, .string v, .string u] w (SerPost D n (shL D v u) 0 w) := by
  obtain ⟨i0, hi0, hi1, hi2, hi3⟩ := info_parts info_term
  have hmx : Tryd.prog.follows .mixedOrders = true := by kernel_rfl
  have hn5 := shape_out hsh
  have C0 := Lib.hid (fun W => isShape_c (D : Int) n W)
  rw [hsh] at C0
  have C1 := Lib.hid (fun W => isWord_c D n v hv W)
  rw [show (decide ((v.size : Int) ≤ n) && wordB (D : Int) v.data.toList) = true from by rw [hwv]; simp; omega] at C1
  have C2 := Lib.hid (fun W => isWord_c D n u hu W)
  rw [show (decide ((u.size : Int) ≤ n) && wordB (D : Int) u.data.toList) = true from by rw [hwu]; simp; omega] at C2
  have C3 := Lib.hid (fun W => areWithin_c n v u (by omega) (by omega) W)
  rw [show decide ((v.size : Int) + (u.size : Int) ≤ n) = true from by simpa using hsum] at C3
  have C4 := Lib.hid (fun W => shuffleOf_c v u (by omega) (by omega) W)
  have HEq := Lib.hid (each_terms (D := D) (by omega) hwv hwu)
  have hfew := shL_few (D := D) (v := v) (w := u) (by omega) (by omega)
  have HWz := Lib.hid (show ∀ i (h : i < (shL D v u).length), ((shL D v u)[i]).s.size ≤ 1048576 from fun i h => by
    unfold shL at h ⊢
    rw [List.getElem_map]
    have := wordsL_size D (v.size + u.size) _ (List.mem_filter.1 (List.getElem_mem (by simpa using h))).1
    unfold shT
    simp only
    omega)
  have hlen : (eachL v.data.toList u.data.toList (v.size + u.size) ByteArray.empty).length ≤ 1000 := by have := congrArg List.length HEq.out; rw [List.length_map] at this; omega
  have hvu5 : v.size + u.size ≤ 5 := by omega
  clear hv hu hsh hwv hwu hsum
  refine (callsIn_wide (n := 9)).1 ?_
  refine callsIn_of_wp_marks Tryd.func6 rfl trivial ?_ rfl
  simp only [Tryd.ntmps6, List.size_toArray, List.length_cons, List.length_nil, Nat.reduceAdd, Nat.reduceSub, Array.replicate_succ, Array.replicate_zero, List.push_toArray, List.append_toArray, List.nil_append, List.cons_append]
  gi_wp2_with (first
    | (refine ⟨trivial, ?_⟩; gi_at_call 19; refine (callsIn_wide.2 (C0.out _)).mono ?_; rintro e w' ⟨rfl, rfl⟩)
    | (refine ⟨trivial, ?_⟩; gi_at_call 20; (with_reducible refine (callsIn_wide.2 (C1.out _)).mono ?_); rintro e w' ⟨rfl, rfl⟩)
    | (refine ⟨trivial, ?_⟩; gi_at_call 20; (with_reducible refine (callsIn_wide.2 (C2.out _)).mono ?_); rintro e w' ⟨rfl, rfl⟩)
    | (refine ⟨trivial, ?_⟩; gi_at_call 21; (with_reducible refine (callsIn_wide.2 (C3.out _)).mono ?_); rintro e w' ⟨rfl, rfl⟩)
    | (refine ⟨trivial, ?_⟩; gi_at_call 22; (with_reducible refine (callsIn_wide.2 (C4.out _)).mono ?_); rintro e w8 ⟨bm, p, q, rfl, hb8, hM8, hp8, hq8, c80, c81⟩)
    | fail)
  have hb := hb8
  simp only [World.size_alloc] at hb
  have hz8 := hb.size
  simp only [World.size_alloc] at hz8
  have hbx : Boxed w8 (w.heap.size + 1) 22 (.slice none 0 0) := by
    have h := Boxed.new (w.alloc (.cells #[.int .i64 0, .int .i64 0, .slice none 0 0] 24)) 22 (.slice none 0 0)
    rw [World.size_alloc] at h
    exact (hb.block _ (by omega)).trans h
  obtain ⟨w0, hw0⟩ : ∃ w0 : World, w.alloc (.cells #[.int .i64 0, .int .i64 0, .slice none 0 0] 24) = w0 := ⟨_, rfl⟩
  have hz0 : w0.heap.size = w.heap.size + 1 := by subst hw0; simp
  have hB8 : Below (w.heap.size + 1) w0 w8 := by
    subst hw0
    have h := (below1 (w.alloc (.cells #[.int .i64 0, .int .i64 0, .slice none 0 0] 24)) (.cells #[.slice none 0 0] 22)).trans (hb.mono (by simp))
    rwa [World.size_alloc] at h
  have HW0 : Below w.heap.size w w0 := by subst hw0; exact below1 _ _
  have R0 : w0.cell? ⟨w.heap.size, 0, none⟩ = some (.int .i64 0) := by subst hw0; go_simp
  have R1 : w0.cell? ⟨w.heap.size, 1, none⟩ = some (.int .i64 0) := by subst hw0; go_simp
  have R2 : w0.cell? ⟨w.heap.size, 2, none⟩ = some (.slice none 0 0) := by subst hw0; go_simp
  have Z0 : w0.frozen? ⟨w.heap.size, 0, none⟩ = false := by subst hw0; go_simp
  have Z1 : w0.frozen? ⟨w.heap.size, 1, none⟩ = false := by subst hw0; go_simp
  have Z2 : w0.frozen? ⟨w.heap.size, 2, none⟩ = false := by subst hw0; go_simp
  clear hb8 hb hw0
  refine wpIn_rangeFunc_ownF rfl (by omega) (gf := 56) (lb := #[.pointer (some ⟨p, 0, none⟩), .pointer (some ⟨q, 0, none⟩)]) rfl trivial (enters_of Tryd.func56 (by kernel_rfl) rfl)
    (words_stops v u hvu5 bm p q w8 hM8 hp8 hq8 c80 c81) (fun h k => h.trans k) (fun W l o o' hl h ho hk => walksK_b (w := w8) W l o o' hl h ho hk) (Below.refl _ _) (fun _ => rfl)
    (fun pre W => (∃ v' : Value, Boxed W (w.heap.size + 1) 22 v' ∧ W.ownsRow (w.heap.size + 1) 47 3 v' pre.length (cellsT (pre.map tmE))) ∧ Below (w.heap.size + 1) w0 W)
    (fun _ _ _ => False)
    (OwnFrom.and (Own.from (fun s A B row hs hg hr => by
      obtain ⟨v', h1, h4⟩ := hs
      refine ⟨v', h1.kept hg (fun e' => ?_), h4.kept hg ?_⟩
      · obtain ⟨o, ho, hc⟩ := hr _ e'.symm
        rw [show A.heap[w.heap.size + 1]? = _ from h1] at ho; cases ho; cases hc
      · rcases h4.2 with ⟨rfl, _⟩ | ⟨g, cap, cur, rfl, _, hgb, _⟩
        · exact .inl rfl
        · refine .inr fun e' => ?_
          obtain ⟨o, ho, hc⟩ := hr g (by simpa [Value.ownBlock] using e'.symm)
          rw [hgb] at ho; cases ho; cases hc) _) (ownFrom_below (by omega) (by omega)))
    (fun c => fun s A B row hs _ _ => hs)
    ⟨⟨_, hbx, World.ownsRow_nil _ _ _ _⟩, hB8⟩
    (fun x => { tmps := #[.int .i64 D, .int .i64 n, .string v, .string u, undef, undef, undef, undef, .pointer (some ⟨w.heap.size, 0, none⟩), .int .i64 0, .pointer (some ⟨w.heap.size + 1, 0, none⟩), .string x.1, .int .i64 (x.2 : Int), .int .i64 D, .int .i64 n, .bool true, .bool false, .bool false, .int .i64 D, .int .i64 n, .string v, .bool true, .bool false, .bool false, .bool false, .int .i64 D, .int .i64 n, .string u, .bool true, .bool false, .bool false, undef, .int .i64 n, .string v, .string u, .bool true, .string v, .string u, .func (.func 56) #[] #[.pointer (some ⟨p, 0, none⟩), .pointer (some ⟨q, 0, none⟩)], .string x.1, .int .i64 (x.2 : Int), undef, undef, undef, undef, undef, undef, undef, undef, undef, undef, undef], defers := [] }) ?assign ?body ?done ?stop
  case assign =>
    intro l x W K hK
    simp only [encE]
    gi_wp2
    exact hK
  case body =>
    rintro l pre ⟨s, num⟩ W ⟨⟨v', hv, hrow⟩, hB⟩ hlt
    have HV := Lib.hid hv
    have HRow := Lib.hid hrow
    have HB := Lib.hid hB
    have hszW := hB.size
    have hvlt := hv.lt
    have hc := hv.cell
    have hcd : W.drew.cell? ⟨w.heap.size + 1, 0, none⟩ = some v' := hc
    clear hrow hB hv
    gi_wp2
    refine wpIn_region_round (S := fun _ => True) hmx (by kernel_rfl) (fun ⟨_, _, h⟩ => h) trivial (fun _ => ?_)
    refine wpAnyH_take (i := 1) (v := ?_) rfl (by kernel_rfl) (by kernel_rfl) (by kernel_rfl) (fun _ _ _ h => h) (Or.inl ⟨by rfl, ?_⟩) trivial ?_
    rotate_left
    · (intro w0 hSw; go_simp; (try with_reducible rfl))
    (try simp only [Act.put, List.setIfInBounds_toArray, List.set_cons_zero, List.set_cons_succ, List.getElem_toArray, List.getElem_cons_zero, List.getElem_cons_succ])
    refine wpAnyH_take (i := 2) (v := ?_) rfl (by kernel_rfl) (by kernel_rfl) (by kernel_rfl) (fun _ _ _ h => h) (Or.inl ⟨by rfl, ?_⟩) trivial ?_
    rotate_left
    · (intro w0 hSw; go_simp; (try with_reducible rfl))
    (try simp only [Act.put, List.setIfInBounds_toArray, List.set_cons_zero, List.set_cons_succ, List.getElem_toArray, List.getElem_cons_zero, List.getElem_cons_succ])
    refine wpAnyH_ready (rs := [0, 3]) (by kernel_rfl) (by simp) ?_
    refine (AllReadyH.cons rfl (fun K hK => ?_) (AllReadyH.cons rfl (fun K hK => ?_) AllReadyH.nil))
    · go_simp
      refine hK.out _ _ trivial (fun _ => ?_)
      clear hK K
      (try simp only [Act.put, List.setIfInBounds_toArray, List.set_cons_zero, List.set_cons_succ, List.getElem_toArray, List.getElem_cons_zero, List.getElem_cons_succ])
      refine wpAnyH_ready (rs := [3]) (by kernel_rfl) (by simp) ?_
      refine (AllReadyH.cons rfl (fun K hK => ?_) AllReadyH.nil)
      go_simp
      go_at_call 23
      refine (wholeFraction_c _ _).mono ?_
      rintro e w5 ⟨rfl, hb5⟩
      have hbW : Below W.heap.size W w5 := ⟨hb5.os, hb5.tape, hb5.output, hb5.size, hb5.block⟩
      have hz5 := hbW.size
      have hv5 : Boxed w5 (w.heap.size + 1) 22 v' := (hbW.block _ hvlt).trans HV.out
      have HV5 := Lib.hid hv5
      have HB5 := Lib.hid hbW
      have HR5 := Lib.hid (show w5.ownsRow (w.heap.size + 1) 47 3 v' pre.length (cellsT (pre.map tmE)) from own_below' HRow.out hbW)
      have hc5 := hv5.cell
      have hf5 := hv5.frozen
      have hcA : (w5.alloc (.cells #[.string s, .int .i64 (num : Int), .int .i64 1] 47)).cell? ⟨w.heap.size + 1, 0, none⟩ = some v' := (hv5.alloc _).cell
      clear hbW hv5 hb5
      refine hK.out _ _ trivial (fun _ => ?_)
      clear hK K
      (try simp only [Act.put, List.setIfInBounds_toArray, List.set_cons_zero, List.set_cons_succ, List.getElem_toArray, List.getElem_cons_zero, List.getElem_cons_succ])
      refine wpAnyH_take (i := 4) (v := ?_) rfl (by kernel_rfl) (by kernel_rfl) (by kernel_rfl) (fun _ _ _ h => h) (Or.inl ⟨by rfl, ?_⟩) trivial ?_
      rotate_left
      · (intro w0 hSw; go_simp; (try with_reducible rfl))
      (try simp only [Act.put, List.setIfInBounds_toArray, List.set_cons_zero, List.set_cons_succ, List.getElem_toArray, List.getElem_cons_zero, List.getElem_cons_succ])
      refine wpAnyH_ready (rs := [5]) (by kernel_rfl) (by simp) ?_
      refine (AllReadyH.cons rfl (fun K hK => ?_) AllReadyH.nil)
      go_simp
      refine hK.out _ _ trivial (fun _ => ?_)
      clear hK K
      (try simp only [Act.put, List.setIfInBounds_toArray, List.set_cons_zero, List.set_cons_succ, List.getElem_toArray, List.getElem_cons_zero, List.getElem_cons_succ])
      refine wpAnyH_ready (rs := [6]) (by kernel_rfl) (by simp) ?_
      refine (AllReadyH.cons rfl (fun K hK => ?_) AllReadyH.nil)
      refine step_append_lies _ (by rfl) _ _ _ (by rfl) (w.heap.size + 1) 47 i0 _ 3 32 Tryd.underlying22 hi0 hi1 hi2 hi3 rfl (by omega) v' pre.length (cellsT (pre.map tmE)) (by rfl) (HR5.out.alloc _)
              ⟨w5.heap.size, 0, none⟩ 1 1 [.string s, .int .i64 (num : Int), .int .i64 1] (by rfl) (by rfl) (World.news_of_block (cs := #[.string s, .int .i64 (num : Int), .int .i64 1]) (t := 47) (fr := (0, 0)) (heap_alloc_new w5 _)) (by simp [Value.oneCell'])
              (by omega) (by unfold maxLen; omega) (by omega) (by simp; omega) (w5.heap.size + 1) (by simp) ?_
      intro gg cg w3 hown1 hgrow hat hlt2
      obtain ⟨hv1, hv2, hr2, hk2, hb2⟩ := HV5.out.appended (by decide) HR5.out (by omega) (by omega) hown1 hgrow
      have hc1 := hv1.cell
      have hf1 := hv1.frozen
      have HV2 := Lib.hid hv2
      have HR2 := Lib.hid hr2
      have HK2 := Lib.hid hk2
      have HB2 := Lib.hid hb2
      clear hv1 hv2 hr2 hk2 hb2 hown1 hgrow hat hlt2
      refine hK.out _ _ trivial (fun _ => ?_)
      clear hK K
      (try simp only [Act.put, List.setIfInBounds_toArray, List.set_cons_zero, List.set_cons_succ, List.getElem_toArray, List.getElem_cons_zero, List.getElem_cons_succ])
      refine wpAnyH_ready (rs := [7]) (by kernel_rfl) (by simp) ?_
      refine (AllReadyH.cons rfl (fun K hK => ?_) AllReadyH.nil)
      go_simp
      refine hK.out _ _ trivial (fun _ => ?_)
      clear hK K
      (try simp only [Act.put, List.setIfInBounds_toArray, List.set_cons_zero, List.set_cons_succ, List.getElem_toArray, List.getElem_cons_zero, List.getElem_cons_succ])
      refine wpAnyH_done (by kernel_rfl) ?_ _
      gi_wp2
      refine ⟨(keeps_below2 HB5.out).trans HK2.out, ((keeps_below2 HB5.out).trans HK2.out).walks, ⟨_, HV2.out, ?_⟩, HB.out.trans ((HB5.out.mono (by omega)).trans HB2.out)⟩
      rw [List.length_append, List.map_append, cellsT_append]
      exact HR2.out
    · go_simp
      go_at_call 23
      refine (wholeFraction_c _ _).mono ?_
      rintro e w5 ⟨rfl, hb5⟩
      have hbW : Below W.heap.size W w5 := ⟨hb5.os, hb5.tape, hb5.output, hb5.size, hb5.block⟩
      have hz5 := hbW.size
      have hv5 : Boxed w5 (w.heap.size + 1) 22 v' := (hbW.block _ hvlt).trans HV.out
      have HV5 := Lib.hid hv5
      have HB5 := Lib.hid hbW
      have HR5 := Lib.hid (show w5.ownsRow (w.heap.size + 1) 47 3 v' pre.length (cellsT (pre.map tmE)) from own_below' HRow.out hbW)
      have hc5 := hv5.cell
      have hf5 := hv5.frozen
      have hcA : (w5.alloc (.cells #[.string s, .int .i64 (num : Int), .int .i64 1] 47)).cell? ⟨w.heap.size + 1, 0, none⟩ = some v' := (hv5.alloc _).cell
      clear hbW hv5 hb5
      refine hK.out _ _ trivial (fun _ => ?_)
      clear hK K
      (try simp only [Act.put, List.setIfInBounds_toArray, List.set_cons_zero, List.set_cons_succ, List.getElem_toArray, List.getElem_cons_zero, List.getElem_cons_succ])
      refine wpAnyH_take (i := 4) (v := ?_) rfl (by kernel_rfl) (by kernel_rfl) (by kernel_rfl) (fun _ _ _ h => h) (Or.inl ⟨by rfl, ?_⟩) trivial ?_
      rotate_left
      · (intro w0 hSw; go_simp; (try with_reducible rfl))
      (try simp only [Act.put, List.setIfInBounds_toArray, List.set_cons_zero, List.set_cons_succ, List.getElem_toArray, List.getElem_cons_zero, List.getElem_cons_succ])
      refine wpAnyH_ready (rs := [0, 5]) (by kernel_rfl) (by simp) ?_
      refine (AllReadyH.cons rfl (fun K hK => ?_) (AllReadyH.cons rfl (fun K hK => ?_) AllReadyH.nil))
      · go_simp
        refine hK.out _ _ trivial (fun _ => ?_)
        clear hK K
        (try simp only [Act.put, List.setIfInBounds_toArray, List.set_cons_zero, List.set_cons_succ, List.getElem_toArray, List.getElem_cons_zero, List.getElem_cons_succ])
        refine wpAnyH_ready (rs := [5]) (by kernel_rfl) (by simp) ?_
        refine (AllReadyH.cons rfl (fun K hK => ?_) AllReadyH.nil)
        go_simp
        refine hK.out _ _ trivial (fun _ => ?_)
        clear hK K
        (try simp only [Act.put, List.setIfInBounds_toArray, List.set_cons_zero, List.set_cons_succ, List.getElem_toArray, List.getElem_cons_zero, List.getElem_cons_succ])
        refine wpAnyH_ready (rs := [6]) (by kernel_rfl) (by simp) ?_
        refine (AllReadyH.cons rfl (fun K hK => ?_) AllReadyH.nil)
        refine step_append_lies _ (by rfl) _ _ _ (by rfl) (w.heap.size + 1) 47 i0 _ 3 32 Tryd.underlying22 hi0 hi1 hi2 hi3 rfl (by omega) v' pre.length (cellsT (pre.map tmE)) (by rfl) (HR5.out.alloc _)
                ⟨w5.heap.size, 0, none⟩ 1 1 [.string s, .int .i64 (num : Int), .int .i64 1] (by rfl) (by rfl) (World.news_of_block (cs := #[.string s, .int .i64 (num : Int), .int .i64 1]) (t := 47) (fr := (0, 0)) (heap_alloc_new w5 _)) (by simp [Value.oneCell'])
                (by omega) (by unfold maxLen; omega) (by omega) (by simp; omega) (w5.heap.size + 1) (by simp) ?_
        intro gg cg w3 hown1 hgrow hat hlt2
        obtain ⟨hv1, hv2, hr2, hk2, hb2⟩ := HV5.out.appended (by decide) HR5.out (by omega) (by omega) hown1 hgrow
        have hc1 := hv1.cell
        have hf1 := hv1.frozen
        have HV2 := Lib.hid hv2
        have HR2 := Lib.hid hr2
        have HK2 := Lib.hid hk2
        have HB2 := Lib.hid hb2
        clear hv1 hv2 hr2 hk2 hb2 hown1 hgrow hat hlt2
        refine hK.out _ _ trivial (fun _ => ?_)
        clear hK K
        (try simp only [Act.put, List.setIfInBounds_toArray, List.set_cons_zero, List.set_cons_succ, List.getElem_toArray, List.getElem_cons_zero, List.getElem_cons_succ])
        refine wpAnyH_ready (rs := [7]) (by kernel_rfl) (by simp) ?_
        refine (AllReadyH.cons rfl (fun K hK => ?_) AllReadyH.nil)
        go_simp
        refine hK.out _ _ trivial (fun _ => ?_)
        clear hK K
        (try simp only [Act.put, List.setIfInBounds_toArray, List.set_cons_zero, List.set_cons_succ, List.getElem_toArray, List.getElem_cons_zero, List.getElem_cons_succ])
        refine wpAnyH_done (by kernel_rfl) ?_ _
        gi_wp2
        refine ⟨(keeps_below2 HB5.out).trans HK2.out, ((keeps_below2 HB5.out).trans HK2.out).walks, ⟨_, HV2.out, ?_⟩, HB.out.trans ((HB5.out.mono (by omega)).trans HB2.out)⟩
        rw [List.length_append, List.map_append, cellsT_append]
        exact HR2.out
      · go_simp
        refine hK.out _ _ trivial (fun _ => ?_)
        clear hK K
        (try simp only [Act.put, List.setIfInBounds_toArray, List.set_cons_zero, List.set_cons_succ, List.getElem_toArray, List.getElem_cons_zero, List.getElem_cons_succ])
        refine wpAnyH_ready (rs := [0]) (by kernel_rfl) (by simp) ?_
        refine (AllReadyH.cons rfl (fun K hK => ?_) AllReadyH.nil)
        go_simp
        refine hK.out _ _ trivial (fun _ => ?_)
        clear hK K
        (try simp only [Act.put, List.setIfInBounds_toArray, List.set_cons_zero, List.set_cons_succ, List.getElem_toArray, List.getElem_cons_zero, List.getElem_cons_succ])
        refine wpAnyH_ready (rs := [6]) (by kernel_rfl) (by simp) ?_
        refine (AllReadyH.cons rfl (fun K hK => ?_) AllReadyH.nil)
        refine step_append_lies _ (by rfl) _ _ _ (by rfl) (w.heap.size + 1) 47 i0 _ 3 32 Tryd.underlying22 hi0 hi1 hi2 hi3 rfl (by omega) v' pre.length (cellsT (pre.map tmE)) (by rfl) (HR5.out.alloc _)
                ⟨w5.heap.size, 0, none⟩ 1 1 [.string s, .int .i64 (num : Int), .int .i64 1] (by rfl) (by rfl) (World.news_of_block (cs := #[.string s, .int .i64 (num : Int), .int .i64 1]) (t := 47) (fr := (0, 0)) (heap_alloc_new w5 _)) (by simp [Value.oneCell'])
                (by omega) (by unfold maxLen; omega) (by omega) (by simp; omega) (w5.heap.size + 1) (by simp) ?_
        intro gg cg w3 hown1 hgrow hat hlt2
        obtain ⟨hv1, hv2, hr2, hk2, hb2⟩ := HV5.out.appended (by decide) HR5.out (by omega) (by omega) hown1 hgrow
        have hc1 := hv1.cell
        have hf1 := hv1.frozen
        have HV2 := Lib.hid hv2
        have HR2 := Lib.hid hr2
        have HK2 := Lib.hid hk2
        have HB2 := Lib.hid hb2
        clear hv1 hv2 hr2 hk2 hb2 hown1 hgrow hat hlt2
        refine hK.out _ _ trivial (fun _ => ?_)
        clear hK K
        (try simp only [Act.put, List.setIfInBounds_toArray, List.set_cons_zero, List.set_cons_succ, List.getElem_toArray, List.getElem_cons_zero, List.getElem_cons_succ])
        refine wpAnyH_ready (rs := [7]) (by kernel_rfl) (by simp) ?_
        refine (AllReadyH.cons rfl (fun K hK => ?_) AllReadyH.nil)
        go_simp
        refine hK.out _ _ trivial (fun _ => ?_)
        clear hK K
        (try simp only [Act.put, List.setIfInBounds_toArray, List.set_cons_zero, List.set_cons_succ, List.getElem_toArray, List.getElem_cons_zero, List.getElem_cons_succ])
        refine wpAnyH_done (by kernel_rfl) ?_ _
        gi_wp2
        refine ⟨(keeps_below2 HB5.out).trans HK2.out, ((keeps_below2 HB5.out).trans HK2.out).walks, ⟨_, HV2.out, ?_⟩, HB.out.trans ((HB5.out.mono (by omega)).trans HB2.out)⟩
        rw [List.length_append, List.map_append, cellsT_append]
        exact HR2.out
  case done =>
    rintro D2 ys W hD rfl ⟨⟨v', hv, hrow⟩, hB⟩ hK
    have hc := hv.cell
    rw [HEq.out] at hrow
    have hlen2 := congrArg List.length HEq.out
    rw [List.length_map] at hlen2
    rw [hlen2] at hrow
    obtain ⟨aR, cR, rfl, hcR, hNR⟩ := OwnT.newRow (show OwnT W (w.heap.size + 1) v' (shL D v u) from hrow)
    have HC9 := Lib.hid (newSeries_c (D : Int) n aR cR (shL D v u) (by omega) HWz.out W hNR.row)
    have HB := Lib.hid hB
    have bc := bcellB hB
    have r0 := (bc.1 w.heap.size 0 (by omega)).trans R0
    have r1 := (bc.1 w.heap.size 1 (by omega)).trans R1
    have r2 := (bc.1 w.heap.size 2 (by omega)).trans R2
    have z0 := (bc.2 w.heap.size 0 (by omega)).trans Z0
    have z1 := (bc.2 w.heap.size 1 (by omega)).trans Z1
    have z2 := (bc.2 w.heap.size 2 (by omega)).trans Z2
    have hszW := hB.size
    have HKD := Lib.hid hK
    clear bc hB hrow hNR hK hv hlen2
    gi_wp2_with (refine ⟨trivial, ?_⟩; gi_at_call 24; (with_reducible refine (callsIn_wide.2 HC9.out).mono ?_); rintro e w9 ⟨g, rfl, hb9, hg9, hM9, hT9⟩; have HB9 := Lib.hid hb9; have HG9 := Lib.hid hg9; have HM9 := Lib.hid hM9; have HT9 := Lib.hid hT9; have bc := bcellB hb9; have r0 := (bc.1 w.heap.size 0 (by omega)).trans r0; have r1 := (bc.1 w.heap.size 1 (by omega)).trans r1; have r2 := (bc.1 w.heap.size 2 (by omega)).trans r2; have z0 := (bc.2 w.heap.size 0 (by omega)).trans z0; have z1 := (bc.2 w.heap.size 1 (by omega)).trans z1; have z2 := (bc.2 w.heap.size 2 (by omega)).trans z2; clear bc hb9 hg9 hM9 hT9)
    obtain ⟨W2, hW2⟩ : ∃ W2, ((w9.setCell ⟨w.heap.size, 0, none⟩ (.int .i64 D)).setCell ⟨w.heap.size, 1, none⟩ (.int .i64 n)).setCell ⟨w.heap.size, 2, none⟩ (.slice (some ⟨g, 0, none⟩) (shL D v u).length (shL D v u).length) = W2 := ⟨_, rfl⟩
    have hDlt : D2 < W.heap.size := (Array.getElem?_eq_some_iff.1 HKD.out).1
    have hz9 := HB9.out.size
    have hK2 : W2.heap[D2]? = some (.deferred (some [])) := by
      rw [← hW2]
      refine (KeepsOthers.setCell _ _ _).same D2 _ ((KeepsOthers.setCell _ _ _).same D2 _ ((KeepsOthers.setCell _ _ _).same D2 _ ?_ rfl) rfl) rfl
      exact (HB9.out.block D2 hDlt).trans HKD.out
    have d0 : W2.cell? ⟨w.heap.size, 0, none⟩ = some (.int .i64 D) := by subst hW2; go_simp
    have d1 : W2.cell? ⟨w.heap.size, 1, none⟩ = some (.int .i64 n) := by subst hW2; go_simp
    have d2 : W2.cell? ⟨w.heap.size, 2, none⟩ = some (.slice (some ⟨g, 0, none⟩) (shL D v u).length (shL D v u).length) := by subst hW2; go_simp
    have hN2 : NewRow (w.heap.size + 1) W2.heap.size W2 (some ⟨g, 0, none⟩) (shL D v u) := by
      rw [← hW2]
      exact (NewRow.of_to (lo := w.heap.size + 1) (by have := HG9.out; omega) HM9.out HT9.out).far3 (by omega)
    have hBW : Below w.heap.size w W2 := by
      rw [← hW2]
      exact ((((HW0.trans (HB.out.mono (by omega))).trans (HB9.out.mono (by omega))).setCell (p := ⟨w.heap.size, 0, none⟩) (Nat.le_refl _) _).setCell (p := ⟨w.heap.size, 1, none⟩) (Nat.le_refl _) _).setCell (p := ⟨w.heap.size, 2, none⟩) (Nat.le_refl _) _
    rw [hW2]
    clear hW2
    have hrw : ∀ r, some D2 = some r → ∃ o : Obj, W2.heap[r]? = some o ∧ o.isCells = false := fun r e => by cases e; exact ⟨_, hK2, rfl⟩
    have c0 := cell_kept d0 (grownBy_putObj' W2 D2 (.deferred none)) hrw
    have c1 := cell_kept d1 (grownBy_putObj' W2 D2 (.deferred none)) hrw
    have c2 := cell_kept d2 (grownBy_putObj' W2 D2 (.deferred none)) hrw
    refine ⟨by simp, .inl ⟨_, _, rfl, run_takeDeferred hK2, ?_⟩⟩
    refine ⟨.tuple #[.agg #[.int .i64 D, .int .i64 n, .slice (some ⟨g, 0, none⟩) (shL D v u).length (shL D v u).length], .int .i64 0], by simp [results, Tryd.results6, go_sem, c0, c1, c2], ?_⟩
    refine ⟨some ⟨g, 0, none⟩, _, rfl, hBW.trans (belowK_b (w := w) (Nat.le_refl _) W2 D2 _ _ (by omega) hK2 rfl rfl), ?_⟩
    rcases hN2 with h0 | ⟨g', eg, h1, h2, h3, h4⟩
    · exact .inl h0
    · refine .inr ⟨g', eg, by omega, by show g' < (W2.putObj _ _).heap.size; rw [World.putObj_size]; exact h2, made_kept2 h3 (grownBy_putObj' W2 D2 (.deferred none)) hrw, fun i hi => ?_⟩
      obtain ⟨t0, t1, t2⟩ := h4 i hi
      exact ⟨cell_kept t0 (grownBy_putObj' W2 D2 (.deferred none)) hrw, cell_kept t1 (grownBy_putObj' W2 D2 (.deferred none)) hrw, cell_kept t2 (grownBy_putObj' W2 D2 (.deferred none)) hrw⟩
  case stop =>
    rintro D2 c pre W _ _ h _
    exact h.elim

end Go.Proofs.YteljpgoaaelbfaaDoor
