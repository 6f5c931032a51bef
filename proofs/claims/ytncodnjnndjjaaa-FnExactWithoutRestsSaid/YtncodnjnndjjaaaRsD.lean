/-
  slices.DeleteFunc at a row of moves of the call's own, with isRest: the moves that are not all zeros, in place. The contract of the program's WithoutRests.
-/
import Derived.Test.YtncodnjnndjjaaaRst
import Derived.Laws.IdiomCopy
import Derived.Lib.LazyBuf
namespace Go.Proofs.Ytncodnjnndjjaaa
open Go.RowKit

/-- clear at a slice of moves: cells of the row alone turn -/
theorem run_clear_mvs (g o n c : Nat) (hn : 0 < n) : ∃ vs : List Value, vs.length = n * 3 ∧ ∀ (w : World) (ty : TypeId), (∀ j, j < n * 3 → (w.cell? ⟨g, o + j, none⟩).isSome = true) → (∀ j, j < n * 3 → w.frozen? ⟨g, o + j, none⟩ = false) →
    (Builtin.clear_ #[58] ty #[.slice (some ⟨g, o, none⟩) n c]).run Try.prog w = .ok (.tuple #[]) (w.setCells g o vs) := by
  have hlen : (Builtin.zeroCells (Value.agg #[.int .i64 0, .int .i64 0, .int .i64 0]).cells n).toList.length = n * 3 := by
    simp [Builtin.zeroCells, show (Value.agg #[.int .i64 0, .int .i64 0, .int .i64 0]).cells.size = 3 from rfl]
  have hone : ∀ v ∈ (Builtin.zeroCells (Value.agg #[.int .i64 0, .int .i64 0, .int .i64 0]).cells n).toList, v.oneCell' = true := fun v hv => by
    simp only [Builtin.zeroCells, Array.toList_map, List.mem_map] at hv
    obtain ⟨i, _, rfl⟩ := hv
    have e : (Value.agg #[.int .i64 0, .int .i64 0, .int .i64 0]).cells = #[.int .i64 0, .int .i64 0, .int .i64 0] := rfl
    rw [e]
    have h3 : i % 3 < 3 := Nat.mod_lt _ (by omega)
    have h : i % 3 = 0 ∨ i % 3 = 1 ∨ i % 3 = 2 := by omega
    show (#[Value.int .i64 0, .int .i64 0, .int .i64 0][i % 3]!).oneCell' = true
    rcases h with h | h | h <;> rw [h] <;> rfl
  obtain ⟨m, rfl⟩ : ∃ m, n = m + 1 := ⟨n - 1, by omega⟩
  refine ⟨_, hlen, fun w ty hc hf => ?_⟩
  have hst := run_storeCells_cells (P := Try.prog) g o (Builtin.zeroCells (Value.agg #[.int .i64 0, .int .i64 0, .int .i64 0]).cells (m + 1)).toList 0 w (by rw [hlen]; simpa using hc) (by rw [hlen]; simpa using hf) hone
  simp only [Nat.add_zero] at hst
  simp [Builtin.clear_, run_underlying Try.underlying58, hst]

theorem outside_wide {lo hi lo' hi' : Nat} {w w' : World} (h : Outside lo hi w w') (h1 : lo' ≤ lo) (h2 : hi ≤ hi') : Outside lo' hi' w w' := ⟨h.os, h.tape, h.output, h.size, fun k hk ho => h.block k hk (by omega)⟩
theorem Outside.setCells {lo hi g : Nat} {a : World} (h1 : lo ≤ g) (h2 : g < hi) : ∀ (vs : List Value) (o : Nat) {w : World}, Outside lo hi a w → Outside lo hi a (w.setCells g o vs)
  | [], _, _, h => h
  | v :: r, o, _, h => Outside.setCells h1 h2 r (o + 1) (h.setCell (p := ⟨g, o, none⟩) h1 h2 v)
/-- what DeleteFunc comes to: the kept moves in the row that came in -/
def DelPost (lo hi : Nat) (a : Option Addr) (cap : Nat) (ks : List Mv) (W : World) (e : Ending) (w' : World) : Prop :=
  e = .returned (.slice a ks.length cap) ∧ Outside lo hi W w' ∧ MRow lo hi w' a ks
theorem MvsIn.take {w : World} {b off n : Nat} {ms : List Mv} (h : MvsIn w b off ms) : MvsIn w b off (ms.take n) := fun i hi => by
  rw [List.length_take] at hi
  rw [List.getElem_take]
  exact h i (by omega)
/-- a store of three cells behind a row of moves makes it longer -/
theorem MvsIn.snoc3 {w : World} {g m : Nat} {ms : List Mv} (h : MvsIn w g 0 ms) (hm : Made w g (m * 3)) (hk : ms.length < m) (v : Mv) :
    MvsIn (((w.setCell ⟨g, ms.length * 3, none⟩ (.int .i64 v.a)).setCell ⟨g, ms.length * 3 + 1, none⟩ (.int .i64 v.b)).setCell ⟨g, ms.length * 3 + 2, none⟩ (.int .i64 v.c)) g 0 (ms ++ [v]) := by
  intro i hi
  rw [List.length_append] at hi
  have ne : ∀ {a b : Nat}, a ≠ b → (⟨g, a, none⟩ : Addr) ≠ ⟨g, b, none⟩ := fun h e => h (by injection e)
  simp only [Nat.zero_add]
  by_cases hik : ms.length = i
  · subst hik
    rw [List.getElem_append_right (Nat.le_refl _)]
    simp only [Nat.sub_self, List.getElem_singleton]
    obtain ⟨⟨v0, m0⟩, -⟩ := hm.2 (ms.length * 3) (by omega)
    obtain ⟨⟨v1, m1⟩, -⟩ := (hm.set ⟨g, ms.length * 3, none⟩ (.int .i64 v.a)).2 (ms.length * 3 + 1) (by omega)
    obtain ⟨⟨v2, m2⟩, -⟩ := ((hm.set ⟨g, ms.length * 3, none⟩ (.int .i64 v.a)).set ⟨g, ms.length * 3 + 1, none⟩ (.int .i64 v.b)).2 (ms.length * 3 + 2) (by omega)
    refine ⟨?_, ?_, ?_⟩
    · rw [World.cell?_setCell_other _ _ _ _ (ne (by omega)), World.cell?_setCell_other _ _ _ _ (ne (by omega))]; exact World.cell?_setCell_same _ _ _ m0
    · rw [World.cell?_setCell_other _ _ _ _ (ne (by omega))]; exact World.cell?_setCell_same _ _ _ m1
    · exact World.cell?_setCell_same _ _ _ m2
  · have hil : i < ms.length := by simp at hi; omega
    rw [List.getElem_append_left hil]
    have h0 := h i hil
    simp only [Nat.zero_add] at h0
    refine ⟨?_, ?_, ?_⟩
    · rw [World.cell?_setCell_other _ _ _ _ (ne (by omega)), World.cell?_setCell_other _ _ _ _ (ne (by omega)), World.cell?_setCell_other _ _ _ _ (ne (by omega))]; exact h0.1
    · rw [World.cell?_setCell_other _ _ _ _ (ne (by omega)), World.cell?_setCell_other _ _ _ _ (ne (by omega)), World.cell?_setCell_other _ _ _ _ (ne (by omega))]; exact h0.2.1
    · rw [World.cell?_setCell_other _ _ _ _ (ne (by omega)), World.cell?_setCell_other _ _ _ _ (ne (by omega)), World.cell?_setCell_other _ _ _ _ (ne (by omega))]; exact h0.2.2
/-- cells ahead are not met -/
theorem MvsIn.ahead3 {w : World} {g k off : Nat} {ms : List Mv} (h : MvsIn w g off ms) (hk : k * 3 + 3 ≤ off) (x y z : Value) :
    MvsIn (((w.setCell ⟨g, k * 3, none⟩ x).setCell ⟨g, k * 3 + 1, none⟩ y).setCell ⟨g, k * 3 + 2, none⟩ z) g off ms := by
  intro i hi
  have ne : ∀ {a b : Nat}, a ≠ b → (⟨g, a, none⟩ : Addr) ≠ ⟨g, b, none⟩ := fun h e => h (by injection e)
  have h0 := h i hi
  refine ⟨?_, ?_, ?_⟩
  · rw [World.cell?_setCell_other _ _ _ _ (ne (by omega)), World.cell?_setCell_other _ _ _ _ (ne (by omega)), World.cell?_setCell_other _ _ _ _ (ne (by omega))]; exact h0.1
  · rw [World.cell?_setCell_other _ _ _ _ (ne (by omega)), World.cell?_setCell_other _ _ _ _ (ne (by omega)), World.cell?_setCell_other _ _ _ _ (ne (by omega))]; exact h0.2.1
  · rw [World.cell?_setCell_other _ _ _ _ (ne (by omega)), World.cell?_setCell_other _ _ _ _ (ne (by omega)), World.cell?_setCell_other _ _ _ _ (ne (by omega))]; exact h0.2.2
theorem MvsIn.tail {w : World} {g j : Nat} {ms : List Mv} (h : MvsIn w g (j * 3) (ms.drop j)) : MvsIn w g ((j + 1) * 3) (ms.drop (j + 1)) := fun i hi => by
  rw [List.length_drop] at hi
  have h0 := h (i + 1) (by rw [List.length_drop]; omega)
  rw [List.getElem_drop] at h0 ⊢
  have e1 : j * 3 + (i + 1) * 3 = (j + 1) * 3 + i * 3 := by omega
  have e2 : j + (i + 1) = j + 1 + i := by omega
  simp only [e1, e2] at h0
  exact h0
theorem MvsIn.from {w : World} {g : Nat} {ms : List Mv} (h : MvsIn w g 0 ms) (j : Nat) : MvsIn w g (j * 3) (ms.drop j) := fun i hi => by
  rw [List.length_drop] at hi
  have h0 := h (j + i) (by omega)
  rw [List.getElem_drop]
  have e1 : 0 + (j + i) * 3 = j * 3 + i * 3 := by omega
  simp only [e1] at h0
  exact h0
theorem dropM_lt {ms : List Mv} {k : Nat} (hk : k < ms.length) (h : restM ms[k] = true) : ∀ j, k < j → (dropM (ms.take j)).length < j := fun j hj => by
  rcases Nat.lt_or_ge j (k + 1) with h1 | h1
  · omega
  · obtain ⟨d, rfl⟩ : ∃ d, j = k + 1 + d := ⟨j - (k + 1), by omega⟩
    clear hj h1
    induction d with
    | zero => rw [Nat.add_zero, dropM_no hk h]; have := dropM_len ms k; omega
    | succ d ih =>
      by_cases hl : k + 1 + d < ms.length
      · cases hr : restM ms[k + 1 + d] with
        | true => rw [← Nat.add_assoc, dropM_no hl hr]; omega
        | false => rw [← Nat.add_assoc, dropM_yes hl hr, List.length_append]; simp only [List.length_singleton]; omega
      · rw [List.take_of_length_le (by omega)] at ih ⊢; omega
theorem dropM_first {ms : List Mv} {k : Nat} (hk : k < ms.length) (h : ∀ i (hi : i < ms.length), i < k → restM ms[i] = false) : dropM (ms.take k) = ms.take k :=
  dropM_all fun i hi => by
    rw [List.length_take] at hi
    rw [List.getElem_take]
    exact h i (by omega) (by omega)

set_option maxRecDepth 100000 in
set_option maxHeartbeats 8000000 in
theorem deleteR_c (lo hi : Nat) (a : Option Addr) (cap : Nat) (ms : List Mv) (hl : ms.length ≤ 1000) (hcap : ms.length ≤ cap) (w : World) (hr : NewM lo hi w a ms) (hh : hi ≤ w.heap.size) :
    Calls Try.prog 55 #[.slice a ms.length cap, .func (.func 57) #[] #[]] w (DelPost lo hi a cap (dropM ms) w) := by
  have HX := Lib.hid (indexR_c lo hi a cap ms hl w hr.row hh)
  have HT := Lib.hid hr
  clear hr
  go_enter Try.func55, Try.ntmps55
  go_wp2_with fail
  refine HX.out.mono ?_
  rintro e w1 ⟨q, rfl, hb1, hF⟩
  have HB1 := Lib.hid hb1
  have hz1 := hb1.size
  rcases hF with ⟨rfl, hall⟩ | ⟨k, hk, rfl, hre, hfst⟩
  · have HE := Lib.hid (dropM_all hall)
    clear hall hb1
    go_wp2
    go_ret
    refine ⟨by rw [HE.out]; rfl, Outside.of_below HB1.out, ?_⟩
    rw [HE.out]
    exact (HT.out.row.below HB1.out hh)
  · have HLt := Lib.hid (dropM_lt hk hre)
    have HNo := Lib.hid (show dropM (ms.take (k + 1)) = ms.take k from by rw [dropM_no hk hre, dropM_first hk hfst])
    clear hre hfst
    rcases HT.out with h0 | ⟨g, rfl, hlo, hhi, hM, hI⟩
    · rw [h0] at hk; simp at hk
    have HM1 := Lib.hid (hM.below hb1 (by omega))
    have HI1 := Lib.hid (hI.below hb1 (by omega))
    have hk0 : (0 : Int) ≤ (k : Int) := by omega
    have hkl : (k : Int) < (ms.length : Int) := by omega
    have hg1 : g < w1.heap.size := by omega
    have hkb : ((k : Int) == -1) = false := by rw [beq_eq_false_iff_ne]; omega
    clear hM hI hb1 HT HX
    go_wp2
    go_loopw [5, 6] (fun vi vj wr => ∃ (i j : Nat), j ≤ ms.length ∧ k < j ∧ vi = .int .i64 i ∧ vj = .int .i64 j ∧ Hid (i = (dropM (ms.take j)).length) ∧ Outside g (g + 1) w1 wr ∧ Made wr g (ms.length * 3) ∧ MvsIn wr g 0 (dropM (ms.take j)) ∧ MvsIn wr g (j * 3) (ms.drop j)) (fun _ vj _ => ms.length - (intOf vj).toNat)
    case atStart => exact ⟨k, k + 1, by omega, by omega, rfl, rfl, Lib.hid (by rw [HNo.out, List.length_take]; omega), Outside.refl _ _ _, HM1.out, by rw [HNo.out]; exact HI1.out.take, HI1.out.from (k + 1)⟩
    case round =>
      obtain ⟨i, j, hj, hkj, rfl, rfl, hi, hO, hM, hI, hD⟩ := hrel
      have HO := Lib.hid hO
      have HM := Lib.hid hM
      have HI := Lib.hid hI
      have HD := Lib.hid hD
      have hgs := hM.1
      have hij : i < j := by rw [hi.out]; exact HLt.out j hkj
      clear hO hM hI hD
      obtain ⟨wo, rfl⟩ : ∃ wo : World, wo = wr := ⟨_, rfl⟩
      by_cases hlt : j < ms.length
      · obtain ⟨d0, d1, d2⟩ := HD.out 0 (by rw [List.length_drop]; omega)
        rw [List.getElem_drop] at d0 d1 d2
        simp only [Nat.add_zero, Nat.zero_mul] at d0 d1 d2
        have HYes := Lib.hid (fun h => dropM_yes hlt h)
        have HNx := Lib.hid (fun h => dropM_no hlt h)
        obtain ⟨x0, x1, x2, hx⟩ : ∃ x0 x1 x2, ms[j] = ⟨x0, x1, x2⟩ := ⟨_, _, _, rfl⟩
        simp only [hx] at d0 d1 d2 HYes HNx
        have e3 : (0 : Int) ≤ (j : Int) := by omega
        have e4 : (j : Int) < (ms.length : Int) := by omega
        clear hx
        have hT0 : Tri (wo.alloc (.cells #[.int .i64 x0, .int .i64 x1, .int .i64 x2] 61)) wo.heap.size x0 x1 x2 := ⟨by simp, by go_simp, by go_simp, by go_simp, by go_simp, by go_simp, by go_simp⟩
        have HT0 := Lib.hid hT0
        have hb0 := below1 wo (.cells #[.int .i64 x0, .int .i64 x1, .int .i64 x2] 61)
        have HM0 := Lib.hid (HM.out.below hb0 hgs)
        have HI0 := Lib.hid (HI.out.below hb0 hgs)
        have HD0 := Lib.hid (HD.out.below hb0 hgs)
        have HO0 := Lib.hid (HO.out.step hb0)
        have hzO : (wo.alloc (.cells #[.int .i64 x0, .int .i64 x1, .int .i64 x2] 61)).heap.size = wo.heap.size + 1 := by simp
        have HzO := Lib.hid hzO
        clear hT0 hb0 hzO
        cases hre : restM ⟨x0, x1, x2⟩ with
        | true =>
          have HE := Lib.hid (HNx.out hre)
          have HRe := Lib.hid hre
          clear hre
          go_wp2_with fail
          refine (isRest_c x0 x1 x2 _).mono ?_
          rw [HRe.out]
          rintro e w2 ⟨rfl, hb2⟩
          have HO2 := Lib.hid (HO0.out.step hb2)
          have HM2 := Lib.hid (HM0.out.below hb2 (by rw [HzO.out]; omega))
          have HI2 := Lib.hid (HI0.out.below hb2 (by rw [HzO.out]; omega))
          have HD2 := Lib.hid (HD0.out.below hb2 (by rw [HzO.out]; omega))
          clear hb2 d0 d1 d2
          go_wp2
          go_roundw
          case rel => exact ⟨i, j + 1, by omega, by omega, rfl, by go_num, Lib.hid (by rw [HE.out]; exact hi.out), HO2.out, HM2.out, by rw [HE.out]; exact HI2.out, HD2.out.tail⟩
          case measure => simp [intOf]; omega
        | false =>
          have HE := Lib.hid (HYes.out hre)
          have HRe := Lib.hid hre
          clear hre
          go_wp2_with fail
          refine (isRest_c x0 x1 x2 _).mono ?_
          rw [HRe.out]
          rintro e w2 ⟨rfl, hb2⟩
          have HO2 := Lib.hid (HO0.out.step hb2)
          have HM2 := Lib.hid (HM0.out.below hb2 (by rw [HzO.out]; omega))
          have HI2 := Lib.hid (HI0.out.below hb2 (by rw [HzO.out]; omega))
          have HD2 := Lib.hid (HD0.out.below hb2 (by rw [HzO.out]; omega))
          have hT2 := HT0.out.below hb2 (by rw [HzO.out]; omega)
          clear hb2 d0 d1 d2
          obtain ⟨hg2, c0, c1, c2, _, _, _⟩ := hT2
          have hgs2 := HM2.out.1
          obtain ⟨⟨v0, m0⟩, f0⟩ := HM2.out.2 (i * 3) (by omega)
          obtain ⟨⟨v1, m1⟩, f1⟩ := HM2.out.2 (i * 3 + 1) (by omega)
          obtain ⟨⟨v2, m2⟩, f2⟩ := HM2.out.2 (i * 3 + 2) (by omega)
          have e5 : (0 : Int) ≤ (i : Int) := by omega
          have e6 : (i : Int) < (ms.length : Int) := by omega
          have HI3 := Lib.hid (HI2.out.snoc3 HM2.out (by rw [← hi.out]; omega) ⟨x0, x1, x2⟩)
          rw [← hi.out] at HI3
          have HD3 := Lib.hid (HD2.out.tail.ahead3 (k := i) (by omega) (.int .i64 x0) (.int .i64 x1) (.int .i64 x2))
          go_wp2
          go_roundw
          case rel => exact ⟨i + 1, j + 1, by omega, by omega, by go_num, by go_num, Lib.hid (by rw [HE.out, List.length_append, ← hi.out]; rfl), ((HO2.out.setCell (p := ⟨g, i * 3, none⟩) (Nat.le_refl _) (Nat.lt_succ_self _) _).setCell (p := ⟨g, i * 3 + 1, none⟩) (Nat.le_refl _) (Nat.lt_succ_self _) _).setCell (p := ⟨g, i * 3 + 2, none⟩) (Nat.le_refl _) (Nat.lt_succ_self _) _, ((HM2.out.set _ _).set _ _).set _ _, by rw [HE.out]; exact HI3.out, HD3.out⟩
          case measure => simp [intOf]; omega
      · obtain rfl : j = ms.length := by omega
        have hi2 := hi.out
        have hI2 := HI.out
        rw [List.take_length] at hi2 hI2
        have HLn := Lib.hid hi2
        have HIe := Lib.hid hI2
        have e5 : (0 : Int) ≤ (i : Int) := by omega
        have e6 : (i : Int) ≤ (ms.length : Int) := by omega
        have e7 : (i : Int) < (cap : Int) := by omega
        have e8 : i < cap := by omega
        have e9 : (ms.length : Int) ≤ (cap : Int) := by omega
        have e10 : ¬ cap = i := by omega
        have e11 : ¬ i = cap := by omega
        obtain ⟨vs, hvl, hcl⟩ := run_clear_mvs g (i * 3) (ms.length - i) (cap - i) (by omega)
        have hcl1 := fun ty => hcl wo ty (fun j hj => by obtain ⟨⟨v, h⟩, _⟩ := HM.out.2 (i * 3 + j) (by omega); rw [h]; rfl) (fun j hj => (HM.out.2 (i * 3 + j) (by omega)).2)
        have HV := Lib.hid hvl
        clear hi2 hI2 hcl hvl
        go_wp2
        go_ret
        have hI3 : MvsIn (wo.setCells g (i * 3) vs) g 0 (dropM ms) := fun i' hi' => by
          have hlt' : i' < i := by have := HLn.out; omega
          obtain ⟨a0, a1, a2⟩ := HIe.out i' hi'
          refine ⟨?_, ?_, ?_⟩
          · rw [World.cell?_setCells_out g vs (i * 3) wo _ (fun _ _ => .inl (by show 0 + i' * 3 < i * 3; omega))]; exact a0
          · rw [World.cell?_setCells_out g vs (i * 3) wo _ (fun _ _ => .inl (by show 0 + i' * 3 + 1 < i * 3; omega))]; exact a1
          · rw [World.cell?_setCells_out g vs (i * 3) wo _ (fun _ _ => .inl (by show 0 + i' * 3 + 2 < i * 3; omega))]; exact a2
        refine ⟨by first | (rw [← HLn.out]; done) | (rw [← HLn.out]; rfl), Outside.setCells hlo hhi vs _ ((Outside.of_below HB1.out).trans (outside_wide HO.out hlo (by omega))), .inr ⟨g, 0, rfl, hlo, hhi, hI3⟩⟩

theorem iRests_2 (lo hi : Nat) (D : Nat) (a : Option Addr) (cap : Nat) (ps : List (List Int)) (hs : flat ps ≤ 1048576) (w : World) (hr : PRow lo hi w a ps) (hh : hi ≤ w.heap.size) (h : pathB D ps = true) (hP : SmallP D ps) :
    Calls Try.prog 28 #[.int .i64 D, .slice a ps.length cap] w (PathPost (dropR ps) 0 w) := by
  have hl12 := hP.1
  have hD3 := hP.2.2.1
  have H := Lib.hid (iIsPath_c lo hi D a cap ps (by omega) hs w hr)
  have HB := Lib.hid h
  have HMv := Lib.hid (movesOf_c lo hi a cap ps hl12 (fun i hi => by rw [hP.len hi]; exact hD3) w hr hh)
  have HE := Lib.hid (dropM_of hD3 (ps := ps) (fun p hp => by obtain ⟨i, hi, rfl⟩ := List.mem_iff_getElem.1 hp; exact hP.len hi))
  have hD : 1 ≤ D ∧ D ≤ 3 := ⟨hP.2.1, hD3⟩
  have hml : (ps.map mvOf).length ≤ 12 := by simpa using hl12
  obtain ⟨ms, hms⟩ : ∃ ms, ps.map mvOf = ms := ⟨_, rfl⟩
  rw [hms] at HMv HE hml
  have hdl : (dropM ms).length ≤ 12 := by have := dropM_len ms ms.length; rw [List.take_length] at this; omega
  have HL2 := Lib.hid (show (dropR ps).length = (dropM ms).length from by rw [← HE.out, List.length_map])
  clear hr h hP hms hl12
  go_enter Try.func28, Try.ntmps28
  go_wp2_with (go_at_call 53; refine H.out.mono ?_; rw [HB.out]; rintro e w' ⟨rfl, rfl⟩)
  refine HMv.out.mono ?_
  rintro e w1 ⟨am, cm, rfl, hb1, hO1⟩
  have HB1 := Lib.hid hb1
  have hz1 := hb1.size
  obtain ⟨a2, c2, he2, hle2, hN2⟩ := hO1.newM
  injection he2 with q1 q2 q3
  subst q1 q3
  have HN2 := Lib.hid hN2
  clear hb1 hO1 q2 hN2
  go_wp2_with fail
  refine (deleteR_c w.heap.size w1.heap.size am cm ms (by omega) hle2 w1 HN2.out (Nat.le_refl _)).mono ?_
  rintro e w2 ⟨rfl, hO2, hR2⟩
  have hz2 := hO2.size
  have HB2 := Lib.hid (HB1.out.trans (hO2.below (B := w.heap.size) (Nat.le_refl _) hz1))
  have HR2 := Lib.hid hR2
  clear hO2 hR2
  go_wp2_with fail
  refine (rowsOf_c w.heap.size w1.heap.size D hD am cm (dropM ms) (by omega) w2 HR2.out hz2).mono ?_
  rintro e w3 ⟨a3, c3, rfl, hb3, hN3⟩
  have hzz : w.heap.size ≤ w2.heap.size := by omega
  have HB3 := Lib.hid (HB2.out.trans (hb3.mono hzz))
  have HN3 := Lib.hid (hN3.mono hzz (Nat.le_refl _))
  clear hb3 hN3
  go_wp2
  go_ret2
  have hN := HN3.out
  rw [HE.out] at hN
  exact ⟨a3, c3, by rw [HL2.out]; rfl, HB3.out, hN⟩
end Go.Proofs.Ytncodnjnndjjaaa
