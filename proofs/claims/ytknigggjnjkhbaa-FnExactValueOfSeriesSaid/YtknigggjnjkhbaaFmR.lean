/-
  slices.Repeat of one fraction; squareOf at fractions: a matrix that has the same fraction everywhere, its rows slices of one list.
-/
import Derived.Test.YtknigggjnjkhbaaFmM
import Derived.Test.YtknigggjnjkhbaaFHd
import Derived.Test.YtknigggjnjkhbaaRept
namespace Go.Proofs.Ytknigggjnjkhbaa
open Go.RowKit
set_option linter.unusedVariables false

theorem size_fracF : (Try.prog.info? 43).map (·.size) = some 2 := by kernel_rfl
theorem info_fracF : (Try.prog.info? 43).map (fun i => (i.zero, i.size, i.bytes)) = some (some (.agg #[.int .i64 0, .int .i64 0]), 2, 16) := by kernel_rfl
theorem make_fracs (n : Nat) (hn : n ≤ 1048576) : ∃ O : Obj, (∀ W : World, (Instr.makeSlice 65 (.int .i64 (n : Int)) (.int .i64 (n : Int))).run Try.prog W = .ok (.slice (some ⟨W.heap.size, 0, none⟩) n n) (W.alloc O)) ∧ ∀ W : World, Made (W.alloc O) W.heap.size (n * 2) := by
  obtain ⟨i, hi, hz, hs, hby⟩ := info_parts info_fracF
  refine ⟨.cells (madeCells #[.int .i64 0, .int .i64 0] (n * 2)) 43, fun W => ?_, fun W => ⟨by simp, fun j hj => ?_⟩⟩
  · have h := run_make (P := Try.prog) W 65 43 i _ Try.underlying65 hi hz .i64 .i64 (n : Int) (n : Int) (by omega) (by omega) (by rw [hby]; omega) (by omega)
    simp only [Int.toNat_natCast, hs] at h
    exact h
  · refine ⟨⟨_, (World.cell?_alloc_new _ _ _ _).trans (Array.getElem?_eq_getElem (by rw [size_madeCells]; exact hj))⟩, ?_⟩
    simp
/-- the cells of a row that has one fraction everywhere -/
def cellQ (x y : Int) (j : Nat) : Value := if j % 2 = 0 then .int .i64 x else .int .i64 y
def cellsQ (x y : Int) (k d : Nat) : List Value := (List.range d).map fun q => cellQ x y (k + q)
theorem cellsQ_length (x y : Int) (k d : Nat) : (cellsQ x y k d).length = d := by simp [cellsQ]
theorem cellsQ_get {x y : Int} {k d j : Nat} {v : Value} (h : (cellsQ x y k d)[j]? = some v) : j < d ∧ v = cellQ x y (k + j) := by
  obtain ⟨hj, rfl⟩ := List.getElem?_eq_some_iff.1 h
  rw [cellsQ_length] at hj
  exact ⟨hj, by simp [cellsQ]⟩
theorem cellsQ_one {x y : Int} {k d : Nat} : ∀ u ∈ cellsQ x y k d, u.oneCell' = true := fun u hu => by
  obtain ⟨q, _, rfl⟩ := List.mem_map.1 hu
  unfold cellQ
  split <;> rfl
/-- copying elements of two cells: all is read before anything is written -/
theorem run_copy_cells2 {P : Program} (w : World) (dT sT ty elem : TypeId) (b o dLen dCap : Nat) (a : Addr) (sLen sCap n : Nat) (cs : List Value)
    (hu : P.underlying dT = some (.slice elem)) (hs : (P.info? elem).map (·.size) = some 2) (hn : n = Nat.min sLen dLen) (hcs : cs.length = n * 2)
    (hsrc : ∀ j v, cs[j]? = some v → w.cell? (a.add j) = some v) (hc : ∀ j, j < cs.length → (w.cell? ⟨b, o + j, none⟩).isSome = true) (hf : ∀ j, j < cs.length → w.frozen? ⟨b, o + j, none⟩ = false) (h1 : ∀ v ∈ cs, v.oneCell' = true) :
    (Builtin.copy_ #[dT, sT] ty #[.slice (some ⟨b, o, none⟩) dLen dCap, .slice (some a) sLen sCap]).run P w = .ok (goInt n) (w.setCells b o cs) := by
  have hl := run_loadCells_list (P := P) w a cs hsrc
  have hst := run_storeCells_cells (P := P) b o cs 0 w (by simpa using hc) (by simpa using hf) h1
  cases hq : P.info? elem with
  | none => simp [hq] at hs
  | some i =>
    have hi : i.size = 2 := by simpa [hq] using hs
    rw [hcs] at hl
    simp [Builtin.copy_, run_underlying hu, Builtin.lenOf, Builtin.firstCells, sizeOf, typeInfo, hq, hi, ← hn, hl, hst]
/-- cells behind the first ones of a block -/
theorem setCells_fullQ {w : World} {g k d m : Nat} {x y : Int} (hM : Made w g m) (hv : ∀ j, j < k → w.cell? ⟨g, j, none⟩ = some (cellQ x y j)) (hd : k + d ≤ m) :
    Made (w.setCells g k (cellsQ x y k d)) g m ∧ ∀ j, j < k + d → (w.setCells g k (cellsQ x y k d)).cell? ⟨g, j, none⟩ = some (cellQ x y j) := by
  have hin := World.cell?_setCells_in g (cellsQ x y k d) k w (fun j hj => by
    obtain ⟨⟨u, hu⟩, _⟩ := hM.2 (k + j) (by rw [cellsQ_length] at hj; omega)
    rw [hu]; rfl)
  have hout := fun j (h : j < k ∨ k + d ≤ j) => World.cell?_setCells_out g (cellsQ x y k d) k w ⟨g, j, none⟩ (fun _ _ => by rw [cellsQ_length]; exact h)
  refine ⟨⟨?_, fun j hj => ⟨?_, ?_⟩⟩, fun j hj => ?_⟩
  · have h := (Go.Lib.below_setCells_w (B := g) (Nat.le_refl g) (cellsQ x y k d) k w).size
    exact Nat.lt_of_lt_of_le hM.1 h
  · by_cases h1 : j < k ∨ k + d ≤ j
    · rw [hout j h1]; exact (hM.2 j hj).1
    · have h2 := hin (j - k) (by rw [cellsQ_length]; omega)
      rw [show k + (j - k) = j by omega] at h2
      exact ⟨_, h2⟩
  · rw [World.frozen?_setCells]; exact (hM.2 j hj).2
  · by_cases h1 : j < k
    · rw [hout j (.inl h1)]; exact hv j h1
    · have h2 := hin (j - k) (by rw [cellsQ_length]; omega)
      rw [show k + (j - k) = j by omega] at h2
      rw [h2]
      simp only [cellsQ, List.getElem_map, List.getElem_range]
      rw [show k + (j - k) = j by omega]

set_option maxRecDepth 100000 in
set_option maxHeartbeats 4000000 in
theorem repeatF_c (x y : Int) (g0 m : Nat) (hm : 1 ≤ m ∧ m ≤ 36) (w : World) (h0 : w.cell? ⟨g0, 0, none⟩ = some (.int .i64 x)) (h1 : w.cell? ⟨g0, 1, none⟩ = some (.int .i64 y)) :
    Calls Try.prog 65 #[.slice (some ⟨g0, 0, none⟩) 1 1, .int .i64 m] w fun e w' => ∃ g, e = .returned (.slice (some ⟨g, 0, none⟩) m m) ∧ w.heap.size ≤ g ∧ Below w.heap.size w w' ∧ Made w' g (m * 2) ∧ ∀ j, j < m * 2 → w'.cell? ⟨g, j, none⟩ = some (cellQ x y j) := by
  obtain ⟨O, hmk, hmade⟩ := make_fracs m (by omega)
  have hM0 := hmade w
  have hMul := Try.bits_Mul 1 m (by decide) (by omega) w
  rw [show 1 * m / 18446744073709551616 = 0 by omega, show 1 * m % 18446744073709551616 = m by omega] at hMul
  have HMul := Lib.hid hMul
  have h0' : (w.alloc O).cell? ⟨g0, 0, none⟩ = some (.int .i64 x) := ((below1 w O).cell (p := ⟨g0, 0, none⟩) (addr_lt h0)).trans h0
  have h1' : (w.alloc O).cell? ⟨g0, 1, none⟩ = some (.int .i64 y) := ((below1 w O).cell (p := ⟨g0, 1, none⟩) (addr_lt h1)).trans h1
  have hcp : ∀ ty, (Builtin.copy_ #[65, 65] ty #[.slice (some ⟨w.heap.size, 0, none⟩) m m, .slice (some ⟨g0, 0, none⟩) 1 1]).run Try.prog (w.alloc O) = .ok (goInt 1) ((w.alloc O).setCells w.heap.size 0 (cellsQ x y 0 2)) := fun ty =>
    run_copy_cells2 (w.alloc O) _ _ ty 43 w.heap.size 0 m m ⟨g0, 0, none⟩ 1 1 1 (cellsQ x y 0 2) Try.underlying65 size_fracF (Nat.min_eq_left hm.1).symm (by rw [cellsQ_length])
      (fun j u hu => by
        obtain ⟨hj, rfl⟩ := cellsQ_get hu
        have hj2 : j = 0 ∨ j = 1 := by omega
        rcases hj2 with rfl | rfl
        · simpa [Addr.add, cellQ] using h0'
        · simpa [Addr.add, cellQ] using h1')
      (fun j hj => by
        obtain ⟨⟨u, hu⟩, _⟩ := hM0.2 j (by rw [cellsQ_length] at hj; omega)
        rw [Nat.zero_add, hu]; rfl)
      (fun j hj => by rw [Nat.zero_add]; exact (hM0.2 j (by rw [cellsQ_length] at hj; omega)).2)
      cellsQ_one
  have hF := setCells_fullQ (k := 0) (d := 2) (x := x) (y := y) hM0 (fun j hj => absurd hj (Nat.not_lt_zero _)) (by omega)
  have hB : Below w.heap.size w ((w.alloc O).setCells w.heap.size 0 (cellsQ x y 0 2)) := (below1 w O).trans (Go.Lib.below_setCells_w (Nat.le_refl _) _ _ _)
  have HF := Lib.hid hF
  have HB := Lib.hid hB
  clear hmade hM0 hMul h0 h1 hF hB
  have hm0 : (0 : Int) ≤ (m : Int) := by omega
  have hm1 : (m : Int) ≤ 36 := by omega
  go_enter Try.func65, Try.ntmps65
  go_wp2_with fail
  refine HMul.out.mono ?_
  rintro e w' ⟨rfl, rfl⟩
  go_wp2_with fail
  clear hmk hcp h0' h1'
  go_loopw [8] (fun v8 wr => ∃ k : Nat, 1 ≤ k ∧ k ≤ m ∧ v8 = .int .i64 k ∧ Below w'.heap.size w' wr ∧ Made wr w'.heap.size (m * 2) ∧ ∀ j, j < k * 2 → wr.cell? ⟨w'.heap.size, j, none⟩ = some (cellQ x y j)) (fun v8 _ => m - (intOf v8).toNat)
  case atStart => exact ⟨1, Nat.le_refl _, hm.1, rfl, HB.out, HF.out.1, HF.out.2⟩
  case round =>
    obtain ⟨k, hk1, hkm, rfl, hBr, hMr, hvr⟩ := hrel
    have HBr := Lib.hid hBr
    have HMr := Lib.hid hMr
    have HVr := Lib.hid hvr
    clear hBr hMr hvr
    by_cases hlt : k < m
    · obtain ⟨d, hd⟩ : ∃ d, Nat.min k (m - k) = d := ⟨_, rfl⟩
      have hd1 : 1 ≤ d ∧ k + d ≤ m := by
        have h := hd
        change min k (m - k) = d at h
        omega
      have hcp : ∀ ty, (Builtin.copy_ #[65, 65] ty #[.slice (some ⟨w'.heap.size, k * 2, none⟩) (m - k) (m - k), .slice (some ⟨w'.heap.size, 0, none⟩) k m]).run Try.prog wr.drew = .ok (goInt d) (wr.drew.setCells w'.heap.size (k * 2) (cellsQ x y (k * 2) (d * 2))) := fun ty => by
        have h := run_copy_cells2 (P := Try.prog) wr.drew 65 65 ty 43 w'.heap.size (k * 2) (m - k) (m - k) ⟨w'.heap.size, 0, none⟩ k m d (cellsQ x y (k * 2) (d * 2)) Try.underlying65 size_fracF hd.symm (by rw [cellsQ_length])
          (fun j u hu => by
            obtain ⟨hj, rfl⟩ := cellsQ_get hu
            have hjk : j < k * 2 := Nat.lt_of_lt_of_le hj (Nat.mul_le_mul_right 2 (by rw [← hd]; exact Nat.min_le_left _ _))
            rw [add_form, Nat.zero_add]
            refine (show wr.drew.cell? ⟨w'.heap.size, j, none⟩ = wr.cell? ⟨w'.heap.size, j, none⟩ from rfl).trans ((HVr.out j hjk).trans ?_)
            unfold cellQ
            rw [show (k * 2 + j) % 2 = j % 2 by omega])
          (fun j hj => by
            obtain ⟨⟨u, hu⟩, _⟩ := HMr.out.2 (k * 2 + j) (by rw [cellsQ_length] at hj; omega)
            show (wr.cell? _).isSome = true
            rw [hu]; rfl)
          (fun j hj => (HMr.out.2 (k * 2 + j) (by rw [cellsQ_length] at hj; omega)).2)
          cellsQ_one
        exact h
      have HF2 := Lib.hid (setCells_fullQ (w := wr.drew) (k := k * 2) (d := d * 2) (x := x) (y := y) HMr.out HVr.out (by omega))
      have HB2 := Lib.hid (HBr.out.drew.trans (Go.Lib.below_setCells_w (B := w'.heap.size) (Nat.le_refl _) (cellsQ x y (k * 2) (d * 2)) (k * 2) wr.drew))
      go_upto_region 9 with fail
      go_region
      all_goals
        go_wp2
        go_roundw
        case rel => exact ⟨k + d, by omega, hd1.2, by go_num, HB2.out, HF2.out.1, fun j hj => HF2.out.2 j (by omega)⟩
        case measure => simp [intOf]; omega
    · obtain rfl : k = m := by omega
      go_wp2
      go_ret
      exact ⟨_, rfl, Nat.le_refl _, HBr.out, HMr.out, HVr.out⟩

def hdQ (n g k : Nat) : List Hd := (List.range k).map fun i => ⟨some ⟨g, i * n * 2, none⟩, n, n⟩
theorem hdQ_length (n g k : Nat) : (hdQ n g k).length = k := by simp [hdQ]
theorem hdQ_succ (n g k : Nat) : hdQ n g (k + 1) = hdQ n g k ++ [⟨some ⟨g, k * n * 2, none⟩, n, n⟩] := by simp [hdQ, List.range_succ]
/-- the layout of a matrix whose rows are slices of one list -/
def gridY (n h g : Nat) : Lay := ⟨h, fun _ => g, fun i => i * n * 2, fun _ => n⟩
theorem gridY_apart {n h g : Nat} (hne : g ≠ h) : (gridY n h g).apart n := by
  refine ⟨fun _ _ => hne, fun i j a b hi hj ha hb hn _ e f he hf => ?_⟩
  show a * n * 2 + b * 2 + e ≠ i * n * 2 + j * 2 + f
  intro h
  have h1 : a * n + b = i * n + j := by omega
  rcases Nat.lt_trichotomy a i with h2 | h2 | h2
  · have := rows_apart (n := n) h2; omega
  · subst h2; exact hn ⟨rfl, by omega⟩
  · have := rows_apart (n := n) h2; omega
set_option maxRecDepth 100000 in
set_option maxHeartbeats 4000000 in
theorem squareOfF_c (n : Nat) (hn : 1 ≤ n ∧ n ≤ 6) (x y : Int) (w : World) :
    Calls Try.prog 30 #[.int .i64 n, .agg #[.int .i64 x, .int .i64 y]] w fun e w' => ∃ (Y : Lay) (c : Nat), e = .returned (.slice (some ⟨Y.h, 0, none⟩) n c) ∧ Below w.heap.size w w' ∧ FM w' w.heap.size w'.heap.size n Y (fun _ _ => (x, y)) := by
  obtain ⟨q, hq⟩ : ∃ q, n * n = q := ⟨_, rfl⟩
  have hq1 : 1 ≤ q ∧ q ≤ 36 := by
    have h := Nat.mul_le_mul hn.1 hn.1
    have h2 := Nat.mul_le_mul hn.2 hn.2
    omega
  have hqi : (n : Int) * (n : Int) = (q : Int) := by rw [← hq]; exact (Int.natCast_mul n n).symm
  have HQ := Lib.hid hq
  have HRp := Lib.hid (repeatF_c x y (w.heap.size + 1) q hq1 ((w.alloc (.cells #[.int .i64 x, .int .i64 y] 43)).alloc (.cells #[.int .i64 x, .int .i64 y] 43)) (by go_simp) (by go_simp))
  clear hq
  go_enter Try.func30, Try.ntmps30
  go_wp2_with fail
  refine HRp.out.mono ?_
  rintro e w2 ⟨g, rfl, hg1, hb2, hM2, hv2⟩
  have HB2 := Lib.hid ((below2 w (.cells #[.int .i64 x, .int .i64 y] 43) (.cells #[.int .i64 x, .int .i64 y] 43)).trans (hb2.mono (by simp; omega)))
  have HM2 := Lib.hid hM2
  have HV2 := Lib.hid hv2
  have hg2 := hM2.1
  have hgw : w.heap.size < g := by simp at hg1; omega
  clear hb2 hM2 hv2 hg1 hqi HRp
  go_wp2_with fail
  go_loopw [5, 6] (fun v5 v6 wr => ∃ (k o r : Nat) (a : Option Addr) (l c : Nat), k ≤ n ∧ v5 = .slice (some ⟨g, o, none⟩) r r ∧ v6 = .slice a l c ∧ Hid (k < n → o = k * n * 2) ∧ Hid (r = (n - k) * n) ∧ l = k ∧ OwnHF wr w2.heap.size (.slice a l c) (hdQ n g k) ∧ Below w2.heap.size w2 wr) (fun v5 _ _ => match v5 with | .slice _ r _ => r | _ => 0)
  case atStart => exact ⟨0, 0, q, none, 0, 0, Nat.zero_le _, rfl, rfl, Lib.hid (fun _ => by simp), Lib.hid (by rw [Nat.sub_zero]; exact HQ.out.symm), rfl, OwnHF.nil _ _, Below.refl _ _⟩
  case round =>
    obtain ⟨k, o, r, a, l, c, hk, rfl, rfl, ho, hr, hl, hO, hB⟩ := hrel
    have HO := Lib.hid hO
    have HBr := Lib.hid hB
    have HL := Lib.hid hl
    have hzr := hB.size
    clear hO hB hl
    by_cases hlt : k < n
    · have hr1 : n ≤ r := by
        have h := Nat.mul_le_mul_right n (show 1 ≤ n - k by omega)
        rw [← hr.out, Nat.one_mul] at h
        exact h
      have hr2 : r ≤ 36 := by
        have h := Nat.mul_le_mul_right n (show n - k ≤ n by omega)
        rw [← hr.out] at h
        have := HQ.out
        omega
      have hl6 : l ≤ 6 := by have := HL.out; omega
      go_wp2_with (at_builtin; refine wpList_append_hdsF rfl _ _ rfl w2.heap.size (.slice a l c) l (hdQ n g k) [⟨some ⟨g, o, none⟩, n, n⟩] rfl (by rw [HL.out, hdQ_length]) (HO.out.alloc _) (some ⟨wr.heap.size, 0, none⟩) 1 1 rfl rfl (.inr ⟨_, 0, rfl, hds_oneF _ ⟨some ⟨g, o, none⟩, n, n⟩⟩) (by omega) (by simp; omega) ?_)
      intro a9 q9 w9 hO9 hG9 _
      have HO9 := Lib.hid (show OwnHF w9 w2.heap.size (.slice a9 (l + 1) q9) (hdQ n g (k + 1)) from by rw [hdQ_succ, ← ho.out hlt]; exact hO9)
      have HB9 := Lib.hid ((HBr.out.trans ((below1 wr (.cells #[.slice (some ⟨g, o, none⟩) n n] 65)).mono hzr)).trans (own_grownHF (HO.out.alloc _) hG9 (by simp; omega)))
      clear hO9 hG9
      go_wp2
      go_roundw
      case rel =>
        refine ⟨k + 1, if r = n then o else o + n * 2, r - n, a9, l + 1, q9, hlt, by split <;> rfl, rfl, Lib.hid (fun hk2 => ?_), Lib.hid ?_, by rw [HL.out], HO9.out, HB9.out⟩
        · have h2 := Nat.mul_le_mul_right n (show 2 ≤ n - k by omega)
          rw [← hr.out] at h2
          rw [if_neg (by omega), Nat.add_mul, Nat.one_mul, ho.out hlt, Nat.add_mul]
        have e : (n - k) * n = (n - (k + 1)) * n + n := by rw [← Nat.succ_mul]; congr 1; omega
        rw [hr.out, e, Nat.add_sub_cancel]
      case measure => simp; omega
    · obtain rfl : k = n := by omega
      have hr0 : r = 0 := by rw [hr.out, Nat.sub_self, Nat.zero_mul]
      subst hr0
      go_wp2
      go_ret
      obtain ⟨e1, hN⟩ := HO.out.at_
      rw [hdQ_length] at e1
      subst e1
      rcases hN with h0 | ⟨h, rfl, hh1, hh2, hMh, hIn⟩
      · have := hdQ_length l g l
        rw [h0] at this
        simp at this
        omega
      · have hzz := HB2.out.size
        have hBr' := Lib.hid (fun o => HBr.out.cell (p := ⟨g, o, none⟩) hg2)
        refine ⟨gridY l h g, c, rfl, HB2.out.trans (HBr.out.mono hzz), by show _ ≤ h; omega, hh2, Nat.le_refl _, gridY_apart (by omega), fun i hi => ⟨by show _ ≤ g; omega, by show g < _; omega, ?_⟩, fun i j hi hj => ?_⟩
        · have hq := hIn i (by rw [hdQ_length]; exact hi)
          rw [Nat.zero_add] at hq
          simpa [hdQ, gridY] using hq
        · have hfit := row_fits (n := l) hi
          have hm := HQ.out
          have hM := HM2.out.below HBr.out hg2
          have f0 := hM.2 (i * l * 2 + j * 2) (by omega)
          have f1 := hM.2 (i * l * 2 + j * 2 + 1) (by omega)
          refine ⟨?_, ?_, f0.2, f1.2⟩
          · show wr.cell? ⟨g, i * l * 2 + j * 2, none⟩ = _
            rw [hBr'.out (i * l * 2 + j * 2), HV2.out (i * l * 2 + j * 2) (by omega)]
            unfold cellQ
            rw [if_pos (by omega)]
          · show wr.cell? ⟨g, i * l * 2 + j * 2 + 1, none⟩ = _
            rw [hBr'.out (i * l * 2 + j * 2 + 1), HV2.out (i * l * 2 + j * 2 + 1) (by omega)]
            unfold cellQ
            rw [if_neg (by omega)]
end Go.Proofs.Ytknigggjnjkhbaa
