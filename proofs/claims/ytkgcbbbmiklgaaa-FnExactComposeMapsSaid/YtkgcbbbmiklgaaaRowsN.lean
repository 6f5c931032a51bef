/-
  The model's sums for several lists, and what the program's moves make: the same rows.
-/
import Derived.Test.YtkgcbbbmiklgaaaRowsM
import Derived.Test.YtkgcbbbmiklgaaaMadeL
namespace Go.Proofs.Ytkgcbbbmiklgaaa
open Go.RowKit

def rowsL (ls ps : List (List Int)) (E : Nat) : List (List Int) := ls.map fun z => rowL z ps E
/-- lists of as many small numbers as there are rows -/
def FitL (E : Nat) (ls ps : List (List Int)) : Prop := ls.length ≤ 12 ∧ SmallR E ps ∧ ∀ i (hi : i < ls.length), (ls[i]).length = ps.length ∧ ∀ j (hj : j < (ls[i]).length), -100 ≤ ls[i][j] ∧ ls[i][j] ≤ 100
theorem FitL.fit {E : Nat} {ls ps : List (List Int)} (h : FitL E ls ps) {i : Nat} (hi : i < ls.length) : FitR E ls[i] ps := ⟨Nat.le_of_eq (h.2.2 i hi).1, h.2.1, (h.2.2 i hi).2⟩
/-- do all sums keep within their bounds? -/
def okL (ls ps : List (List Int)) (E : Nat) : Bool := (rowsL ls ps E).all numsB
theorem rowsL_take {ls ps : List (List Int)} {E k : Nat} (hk : k < ls.length) : (rowsL ls ps E).take (k + 1) = (rowsL ls ps E).take k ++ [rowL ls[k] ps E] := by
  rw [List.take_succ_eq_append_getElem (by simp [rowsL]; exact hk)]
  simp [rowsL]
theorem okL_no {ls ps : List (List Int)} {E : Nat} (k : Nat) (hk : k < ls.length) (h : numsB (rowL ls[k] ps E) = false) : okL ls ps E = false := by
  cases hp : okL ls ps E with
  | false => rfl
  | true =>
    have := List.all_eq_true.1 hp (rowL ls[k] ps E) (List.mem_map.2 ⟨ls[k], List.getElem_mem hk, rfl⟩)
    rw [h] at this; cases this
theorem okL_yes {ls ps : List (List Int)} {E : Nat} (h : ∀ k (hk : k < ls.length), numsB (rowL ls[k] ps E) = true) : okL ls ps E = true := List.all_eq_true.2 fun z hz => by
  obtain ⟨y, hy, rfl⟩ := List.mem_map.1 hz
  obtain ⟨i, hi, rfl⟩ := List.mem_iff_getElem.1 hy
  exact h i hi
theorem okL_rows {ls ps : List (List Int)} {E : Nat} : rowsB (E : Int) (rowsL ls ps E) = okL ls ps E := by
  unfold rowsB okL
  rw [Bool.eq_iff_iff, List.all_eq_true, List.all_eq_true]
  constructor
  · intro h z hz
    have := h z hz
    obtain ⟨y, hy, rfl⟩ := List.mem_map.1 hz
    rwa [stepB_nums (by rw [rowL_length])] at this
  · intro h z hz
    have := h z hz
    obtain ⟨y, hy, rfl⟩ := List.mem_map.1 hz
    rwa [stepB_nums (by rw [rowL_length])]

/-- what several sums come to: all the rows, or none -/
def SumsPost (ls ps : List (List Int)) (E : Nat) (W : World) (e : Ending) (w' : World) : Prop :=
  ∃ (a : Option Addr) (cap : Nat) (qs : List (List Int)), (if okL ls ps E then qs = rowsL ls ps E else qs = []) ∧ e = .returned (.tuple #[.slice a qs.length cap, .bool (okL ls ps E)]) ∧ Below W.heap.size W w' ∧ NewP W.heap.size w'.heap.size w' a qs

set_option maxRecDepth 100000 in
set_option maxHeartbeats 8000000 in
theorem l07Rows_c (lo hi lo2 hi2 E : Nat) (a0 : Option Addr) (cap0 : Nat) (ls : List (List Int)) (a : Option Addr) (cap : Nat) (ps : List (List Int)) (w : World) (h0 : PRow lo2 hi2 w a0 ls) (hh2 : hi2 ≤ w.heap.size) (hr : PRow lo hi w a ps) (hh : hi ≤ w.heap.size) (hF : FitL E ls ps) :
    Calls Try.prog 49 #[.slice a0 ls.length cap0, .int .i64 E, .slice a ps.length cap] w (SumsPost ls ps E w) := by
  have hE3 := hF.2.1.2.2.2.1
  have hl12 := hF.1
  have HT := Lib.hid hr
  have HL0 := Lib.hid h0
  have HF := Lib.hid hF
  clear hr h0 hF
  go_enter Try.func49, Try.ntmps49
  go_wp2
  go_loopw [8, 9] (fun vs vi wr => ∃ (k : Nat) (b : Option Addr) (l c : Nat), k ≤ ls.length ∧ vi = .int .i64 k ∧ vs = .slice b l c ∧ l = k ∧ OwnP wr w.heap.size (.slice b l c) ((rowsL ls ps E).take k) ∧ Below w.heap.size w wr ∧ ∀ i (h : i < ls.length), i < k → numsB (rowL ls[i] ps E) = true) (fun _ vi _ => ls.length - (intOf vi).toNat)
  case atStart => exact ⟨0, _, 0, 0, Nat.zero_le _, rfl, rfl, rfl, OwnP.emptyRow (heap_alloc_new w _) (Nat.le_refl _), below1 _ _, fun i _ h => absurd h (Nat.not_lt_zero _)⟩
  case round =>
    obtain ⟨k, bv, lv, cv, hk, rfl, rfl, hlv, hO, hB, hg⟩ := hrel
    have HO := Lib.hid hO
    have HL := Lib.hid hlv
    have HSz := Lib.hid hB.size
    have HBo := Lib.hid hB
    have HG := Lib.hid hg
    have hlv9 : lv ≤ 12 := by omega
    clear hO hlv hB hg
    by_cases hlt : k < ls.length
    · obtain ⟨b, off, a', c, rfl, c0, hI⟩ := HL0.out.get HBo.out hh2 hlt
      have HI := Lib.hid hI
      have HFk := Lib.hid (HF.out.fit hlt)
      have HTk := Lib.hid (rowsL_take (ps := ps) (E := E) hlt)
      have HNo := Lib.hid (fun h => okL_no (ps := ps) (E := E) k hlt h)
      obtain ⟨z, hez⟩ : ∃ z, ls[k] = z := ⟨_, rfl⟩
      have HE := Lib.hid hez
      rw [hez] at c0 HI HFk HTk HNo
      clear hez hI
      go_wp2_with fail
      refine (l07Row_c lo hi lo2 hi2 E a' c z a cap ps _ HI.out (by have := HSz.out; omega) (HT.out.below HBo.out hh) (by have := HSz.out; omega) HFk.out).mono ?_
      rintro e w1 ⟨a1, c1, rfl, hb1, hN1⟩
      have HB1 := Lib.hid hb1
      have HN1 := Lib.hid hN1
      have HSz1 := Lib.hid hb1.size

      have hy3 : (rowL z ps E).length ≤ 3 := by rw [rowL_length]; exact hE3
      obtain ⟨y, hy⟩ : ∃ y, rowL z ps E = y := ⟨_, rfl⟩
      have HY := Lib.hid hy
      rw [hy] at HN1 HTk HNo hy3
      rw [hy]
      clear hb1 hN1 c0 hy
      go_wp2
      obtain ⟨wo, rfl⟩ : ∃ wo : World, wo = wr := ⟨_, rfl⟩
      go_loop [11] (fun vj => ∃ j : Nat, j ≤ y.length ∧ vj = .int .i64 j ∧ ∀ i (h : i < y.length), i < j → inB y[i] (-100) 100 = true) (fun vj => y.length - (intOf vj).toNat)
      case atStart => exact ⟨0, Nat.zero_le _, rfl, fun i _ h => absurd h (Nat.not_lt_zero _)⟩
      case round =>
        obtain ⟨j, hj, rfl, hg⟩ := hrel
        have HGj := Lib.hid hg
        clear hg
        by_cases hltj : j < y.length
        · rcases HN1.out.row with h | ⟨b', o', rfl, _, _, hI'⟩
          · rw [h] at hltj; simp at hltj
          have c1 := hI' j hltj
          have HN := Lib.hid (fun h => HNo.out (numsB_no j hltj h))
          have HYj := Lib.hid (fun (h : inB y[j] (-100) 100 = true) i (hi : i < y.length) (hij : i < j + 1) => show inB y[i] (-100) 100 = true from by
            by_cases e : i < j
            · exact HGj.out i hi e
            · obtain rfl : i = j := by omega
              exact h)
          obtain ⟨x, hx⟩ : ∃ x, y[j] = x := ⟨_, rfl⟩
          rw [hx] at c1 HN HYj
          clear hx hI'
          cases hin : inB x (-100) 100 with
          | false =>
            have HR := Lib.hid (HN.out hin)
            go_wp2_with (go_at_call 56; refine (l01In_c _ _ _ _).mono ?_; rw [hin]; rintro e w' ⟨rfl, rfl⟩)
            go_ret2
            exact ⟨none, 0, [], by rw [HR.out]; rfl, by rw [HR.out]; rfl, HBo.out.trans (HB1.out.mono HSz.out), .inl rfl⟩
          | true =>
            have HR := Lib.hid (HYj.out hin)
            go_wp2_with (go_at_call 56; refine (l01In_c _ _ _ _).mono ?_; rw [hin]; rintro e w' ⟨rfl, rfl⟩)
            go_round
            case rel => exact ⟨j + 1, by omega, by go_num, HR.out⟩
            case measure => simp [intOf]; omega
        · have HR := Lib.hid (numsB_yes (fun i hi => HGj.out i hi (by omega)))
          go_wp2_with (at_builtin; refine wpList_append_path rfl _ _ rfl w.heap.size wo w1 bv lv cv ((rowsL ls ps E).take k) y a1 y.length c1 rfl (by rw [HL.out, List.length_take]; simp [rowsL]; omega) HO.out HB1.out HN1.out rfl rfl (by omega) HSz.out ?_)
          intro a9 q9 w9 hO9 hb9 _
          have HO9 := Lib.hid hO9
          have HBx := Lib.hid ((HBo.out.trans (HB1.out.mono HSz.out)).trans hb9)
          clear hO9 hb9
          go_wp2
          go_roundw
          case rel =>
            refine ⟨k + 1, a9, lv + 1, q9, by omega, by go_num, rfl, by rw [HL.out], by rw [HTk.out]; exact HO9.out, HBx.out, fun i hi hik => ?_⟩
            by_cases e : i < k
            · exact HG.out i hi e
            · obtain rfl : i = k := by omega
              rw [HE.out, HY.out]; exact HR.out
          case measure => simp [intOf]; omega
    · obtain rfl : k = ls.length := by omega
      have HOk := Lib.hid (okL_yes (ps := ps) (E := E) (fun k hk => HG.out k hk hk))
      have HTe := Lib.hid (show (rowsL ls ps E).take ls.length = rowsL ls ps E from List.take_of_length_le (by simp [rowsL]))
      have HLn := Lib.hid (show lv = (rowsL ls ps E).length from by simp [rowsL]; exact HL.out)
      have hO := HO.out
      rw [HTe.out] at hO
      have HN := Lib.hid hO.at_.2
      clear hO
      go_wp2
      go_ret2
      exact ⟨bv, cv, rowsL ls ps E, by rw [HOk.out]; rfl, by rw [HOk.out, ← HLn.out]; rfl, HBo.out, HN.out⟩

/-- the program's moves make the same row -/
theorem mapped_row {E : Nat} {z : List Int} {ps : List (List Int)} (hE : E ≤ 3) (hz : z.length = ps.length) (hp : 1 ≤ ps.length ∧ ps.length ≤ 3) : stepOf E (mapped (linOf ps 0) (linOf ps 1) (linOf ps 2) (mvOf z)) = rowL z ps E := by
  have hnone : ∀ i, z.length ≤ i → z.getD i 0 = 0 := fun i hi => by rw [List.getD_eq_getElem?_getD, List.getElem?_eq_none hi]; rfl
  have hsum : ∀ k, sumK z ps k z.length = z.getD 0 0 * (ps.getD 0 []).getD k 0 + z.getD 1 0 * (ps.getD 1 []).getD k 0 + z.getD 2 0 * (ps.getD 2 []).getD k 0 := fun k => by
    have h3 : z.length = 1 ∨ z.length = 2 ∨ z.length = 3 := by omega
    rcases h3 with h | h | h
    · rw [h, hnone 1 (by omega), hnone 2 (by omega)]; simp [sumK]
    · rw [h, hnone 2 (by omega)]; simp [sumK]
    · rw [h]; simp [sumK]
  apply List.ext_getElem
  · rw [stepOf_length hE, rowL_length]
  · intro k h1 h2
    have hk : k < E := by rw [rowL_length] at h2; exact h2
    have hk3 : k = 0 ∨ k = 1 ∨ k = 2 := by omega
    have hr : (rowL z ps E)[k] = sumK z ps k z.length := by simp [rowL]
    rw [hr, hsum]
    simp only [stepOf, List.getElem_take, mapped, linOf, mvOf]
    rcases hk3 with rfl | rfl | rfl <;> simp only [List.getElem_cons_zero, List.getElem_cons_succ] <;> rw [Int.mul_comm (z.getD 0 0), Int.mul_comm (z.getD 1 0), Int.mul_comm (z.getD 2 0)]
theorem mapped_rows {E : Nat} {ls ps : List (List Int)} (hF : FitL E ls ps) : ((ls.map mvOf).map (mapped (linOf ps 0) (linOf ps 1) (linOf ps 2))).map (stepOf E) = rowsL ls ps E := by
  rw [List.map_map, List.map_map]
  unfold rowsL
  apply List.map_congr_left
  intro z hz
  obtain ⟨i, hi, rfl⟩ := List.mem_iff_getElem.1 hz
  exact mapped_row hF.2.1.2.2.2.1 (hF.2.2 i hi).1 ⟨hF.2.1.1, hF.2.1.2.1⟩
theorem lin_small {E : Nat} {ps : List (List Int)} (h : SmallR E ps) (i : Nat) : Mv.small 100 (linOf ps i) := ⟨h.get i 0, h.get i 1, h.get i 2⟩
theorem mv_smallL {E : Nat} {ls ps : List (List Int)} (hF : FitL E ls ps) : ∀ i (h : i < (ls.map mvOf).length), Mv.small 100 (ls.map mvOf)[i] := fun i h => by
  rw [List.getElem_map]
  have hi : i < ls.length := by rw [List.length_map] at h; exact h
  have hs := (hF.2.2 i hi).2
  exact ⟨small_get hs 0, small_get hs 1, small_get hs 2⟩
theorem rowsL_flat {E : Nat} {ls ps : List (List Int)} (hF : FitL E ls ps) : flat (rowsL ls ps E) ≤ 36 := by
  have key : ∀ xs : List (List Int), flat (xs.map fun z => rowL z ps E) = xs.length * E := by
    intro xs
    induction xs with
    | nil => simp [flat]
    | cons z r ih => simp only [List.map_cons, flat, rowL_length, ih, List.length_cons, Nat.add_mul]; omega
  rw [rowsL, key]
  exact Nat.mul_le_mul hF.1 hF.2.1.2.2.2.1
end Go.Proofs.Ytkgcbbbmiklgaaa
