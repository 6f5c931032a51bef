/-
  slices.Repeat of one number: a new row that has it everywhere.
-/
import Derived.Test.YtknigggjnjkhbaaTabs
import Derived.Test.YtknigggjnjkhbaaShelf
import Derived.Test.YtknigggjnjkhbaaOpenR
import Derived.Laws.IdiomCopy
import Derived.Lib.EndianMore
namespace Go.Proofs.Ytknigggjnjkhbaa
open Go.RowKit

theorem size_int64 : (Try.prog.info? 2).map (·.size) = some 1 := by kernel_rfl
/-- the first cells of a block, where some of them were copied further on -/
theorem setCells_full {w : World} {g k d m : Nat} {v : Value} (hM : Made w g m) (hv : ∀ j, j < k → w.cell? ⟨g, j, none⟩ = some v) (hd : k + d ≤ m) :
    Made (w.setCells g k (List.replicate d v)) g m ∧ ∀ j, j < k + d → (w.setCells g k (List.replicate d v)).cell? ⟨g, j, none⟩ = some v := by
  have hin := World.cell?_setCells_in g (List.replicate d v) k w (fun j hj => by
    obtain ⟨⟨u, hu⟩, _⟩ := hM.2 (k + j) (by simp at hj; omega)
    rw [hu]; rfl)
  have hout := fun j (h : j < k ∨ k + d ≤ j) => World.cell?_setCells_out g (List.replicate d v) k w ⟨g, j, none⟩ (fun _ _ => by simpa using h)
  refine ⟨⟨?_, fun j hj => ⟨?_, ?_⟩⟩, fun j hj => ?_⟩
  · have h := (Go.Lib.below_setCells_w (B := g) (Nat.le_refl g) (List.replicate d v) k w).size
    exact Nat.lt_of_lt_of_le hM.1 h
  · by_cases h1 : j < k ∨ k + d ≤ j
    · rw [hout j h1]; exact (hM.2 j hj).1
    · have h2 := hin (j - k) (by simp; omega)
      rw [show k + (j - k) = j by omega] at h2
      exact ⟨_, h2⟩
  · rw [World.frozen?_setCells]; exact (hM.2 j hj).2
  · by_cases h1 : j < k
    · rw [hout j (.inl h1)]; exact hv j h1
    · have h2 := hin (j - k) (by simp; omega)
      rw [show k + (j - k) = j by omega] at h2
      rw [h2]
      simp

set_option maxRecDepth 100000 in
set_option maxHeartbeats 4000000 in
theorem repeat_c (v : Int) (g0 m : Nat) (hm : 1 ≤ m ∧ m ≤ 36) (w : World) (h0 : w.cell? ⟨g0, 0, none⟩ = some (.int .i64 v)) :
    Calls Try.prog 87 #[.slice (some ⟨g0, 0, none⟩) 1 1, .int .i64 m] w fun e w' => ∃ g, e = .returned (.slice (some ⟨g, 0, none⟩) m m) ∧ w.heap.size ≤ g ∧ Below w.heap.size w w' ∧ Made w' g m ∧ ∀ j, j < m → w'.cell? ⟨g, j, none⟩ = some (.int .i64 v) := by
  obtain ⟨O, hmk, hmade⟩ := make_ints m (by omega)
  have hM0 := (hmade w).1
  have hMul := Try.bits_Mul 1 m (by decide) (by omega) w
  rw [show 1 * m / 18446744073709551616 = 0 by omega, show 1 * m % 18446744073709551616 = m by omega] at hMul
  have HMul := Lib.hid hMul
  have h0' : (w.alloc O).cell? ⟨g0, 0, none⟩ = some (.int .i64 v) := ((below1 w O).cell (p := ⟨g0, 0, none⟩) (addr_lt h0)).trans h0
  have hcp : ∀ ty, (Builtin.copy_ #[79, 79] ty #[.slice (some ⟨w.heap.size, 0, none⟩) m m, .slice (some ⟨g0, 0, none⟩) 1 1]).run Try.prog (w.alloc O) = .ok (goInt 1) ((w.alloc O).setCells w.heap.size 0 (List.replicate 1 (.int .i64 v))) := fun ty =>
    Go.run_copy_cells (w.alloc O) _ _ ty 2 w.heap.size 0 m m ⟨g0, 0, none⟩ 1 1 (List.replicate 1 (.int .i64 v)) Try.underlying79 size_int64 (by rw [List.length_replicate]; exact (Nat.min_eq_left hm.1).symm)
      (fun j u hu => by
        obtain ⟨hj, rfl⟩ := List.getElem?_eq_some_iff.1 hu
        obtain rfl : j = 0 := by simpa using hj
        simpa [Addr.add] using h0')
      (fun j hj => by
        obtain ⟨⟨u, hu⟩, _⟩ := hM0.2 j (by simp at hj; omega)
        rw [Nat.zero_add, hu]; rfl)
      (fun j hj => by rw [Nat.zero_add]; exact (hM0.2 j (by simp at hj; omega)).2)
      (fun u hu => by rw [List.eq_of_mem_replicate hu]; rfl)
  have hF := setCells_full (k := 0) (d := 1) (v := .int .i64 v) hM0 (fun j hj => absurd hj (Nat.not_lt_zero _)) (by omega)
  have hB : Below w.heap.size w ((w.alloc O).setCells w.heap.size 0 (List.replicate 1 (.int .i64 v))) := (below1 w O).trans (Go.Lib.below_setCells_w (Nat.le_refl _) _ _ _)
  have HF := Lib.hid hF
  have HB := Lib.hid hB
  clear hmade hM0 hMul h0 hF hB
  have hm0 : (0 : Int) ≤ (m : Int) := by omega
  have hm1 : (m : Int) ≤ 36 := by omega
  go_enter Try.func87, Try.ntmps87
  go_wp2_with fail
  refine HMul.out.mono ?_
  rintro e w' ⟨rfl, rfl⟩
  go_wp2_with fail
  clear hmk hcp h0'
  go_loopw [8] (fun v8 wr => ∃ k : Nat, 1 ≤ k ∧ k ≤ m ∧ v8 = .int .i64 k ∧ Below w'.heap.size w' wr ∧ Made wr w'.heap.size m ∧ ∀ j, j < k → wr.cell? ⟨w'.heap.size, j, none⟩ = some (.int .i64 v)) (fun v8 _ => m - (intOf v8).toNat)
  case atStart => exact ⟨1, Nat.le_refl _, hm.1, rfl, HB.out, HF.out.1, HF.out.2⟩
  case round =>
    obtain ⟨k, hk1, hkm, rfl, hBr, hMr, hvr⟩ := hrel
    have HBr := Lib.hid hBr
    have HMr := Lib.hid hMr
    have HVr := Lib.hid hvr
    clear hBr hMr hvr
    by_cases hlt : k < m
    · obtain ⟨d, hd⟩ : ∃ d, Nat.min k (m - k) = d := ⟨_, rfl⟩
      have hd1 : 1 ≤ d ∧ k + d ≤ m := by
        have h := hd
        change min k (m - k) = d at h
        omega
      have hcp : ∀ ty, (Builtin.copy_ #[79, 79] ty #[.slice (some ⟨w'.heap.size, k, none⟩) (m - k) (m - k), .slice (some ⟨w'.heap.size, 0, none⟩) k m]).run Try.prog wr.drew = .ok (goInt d) (wr.drew.setCells w'.heap.size k (List.replicate d (.int .i64 v))) := fun ty => by
        have h := Go.run_copy_cells (P := Try.prog) wr.drew 79 79 ty 2 w'.heap.size k (m - k) (m - k) ⟨w'.heap.size, 0, none⟩ k m (List.replicate d (.int .i64 v)) Try.underlying79 size_int64 (by rw [List.length_replicate]; exact hd.symm)
          (fun j u hu => by
            obtain ⟨hj, rfl⟩ := List.getElem?_eq_some_iff.1 hu
            have hj' : j < d := by simpa using hj
            have hjk : j < k := Nat.lt_of_lt_of_le hj' (by rw [← hd]; exact Nat.min_le_left _ _)
            rw [add_form, Nat.zero_add]
            refine (show wr.drew.cell? ⟨w'.heap.size, j, none⟩ = wr.cell? ⟨w'.heap.size, j, none⟩ from rfl).trans ((HVr.out j hjk).trans ?_)
            simp)
          (fun j hj => by
            obtain ⟨⟨u, hu⟩, _⟩ := HMr.out.2 (k + j) (by simp at hj; omega)
            show (wr.cell? _).isSome = true
            rw [hu]; rfl)
          (fun j hj => (HMr.out.2 (k + j) (by simp at hj; omega)).2)
          (fun u hu => by rw [List.eq_of_mem_replicate hu]; rfl)
        simpa using h
      have HF2 := Lib.hid (setCells_full (w := wr.drew) (k := k) (d := d) (v := .int .i64 v) HMr.out HVr.out hd1.2)
      have HB2 := Lib.hid (HBr.out.drew.trans (Go.Lib.below_setCells_w (B := w'.heap.size) (Nat.le_refl _) (List.replicate d (.int .i64 v)) k wr.drew))
      go_upto_region 9 with fail
      go_region
      all_goals
        go_wp2
        go_roundw
        case rel => exact ⟨k + d, by omega, hd1.2, by go_num, HB2.out, HF2.out.1, HF2.out.2⟩
        case measure => simp [intOf]; omega
    · obtain rfl : k = m := by omega
      go_wp2
      go_ret
      exact ⟨_, rfl, Nat.le_refl _, HBr.out, HMr.out, HVr.out⟩
end Go.Proofs.Ytknigggjnjkhbaa
