/-
  squareOf: a matrix that has the same number everywhere; its rows are slices of one list.
-/
import Derived.Test.YtknigggjnjkhbaaRept
import Derived.Test.YtknigggjnjkhbaaGrid
import Derived.Test.YtknigggjnjkhbaaPathRes
namespace Go.Proofs.Ytknigggjnjkhbaa
open Go.RowKit

def sqL (n : Nat) (v : Int) : List (List Int) := List.replicate n (List.replicate n v)
theorem sqL_length (n : Nat) (v : Int) : (sqL n v).length = n := by simp [sqL]
def hdL (n g k : Nat) : List Hd := (List.range k).map fun i => ⟨some ⟨g, i * n, none⟩, n, n⟩
theorem hdL_length (n g k : Nat) : (hdL n g k).length = k := by simp [hdL]
theorem hdL_succ (n g k : Nat) : hdL n g (k + 1) = hdL n g k ++ [⟨some ⟨g, k * n, none⟩, n, n⟩] := by simp [hdL, List.range_succ]

def SqPost (n : Nat) (ps : List (List Int)) (W : World) (e : Ending) (w' : World) : Prop :=
  ∃ (a : Option Addr) (c : Nat), e = .returned (.slice a ps.length c) ∧ Below W.heap.size W w' ∧ GridP n W.heap.size w'.heap.size w' a ps

set_option maxRecDepth 100000 in
set_option maxHeartbeats 4000000 in
theorem squareOf_c (n : Nat) (hn : 1 ≤ n ∧ n ≤ 6) (v : Int) (w : World) :
    Calls Try.prog 66 #[.int .i64 n, .int .i64 v] w (SqPost n (sqL n v) w) := by
  obtain ⟨q, hq⟩ : ∃ q, n * n = q := ⟨_, rfl⟩
  have hq1 : 1 ≤ q ∧ q ≤ 36 := by
    have h := Nat.mul_le_mul hn.1 hn.1
    have h2 := Nat.mul_le_mul hn.2 hn.2
    omega
  have hqi : (n : Int) * (n : Int) = (q : Int) := by rw [← hq]; exact (Int.natCast_mul n n).symm
  have HQ := Lib.hid hq
  have HRp := Lib.hid (repeat_c v w.heap.size q hq1 (w.alloc (.cells #[.int .i64 v] 2)) (by go_simp))
  clear hq
  go_enter Try.func66, Try.ntmps66
  go_wp2_with fail
  refine HRp.out.mono ?_
  rintro e w2 ⟨g, rfl, hg1, hb2, hM2, hv2⟩
  have HB2 := Lib.hid ((below1 w (.cells #[.int .i64 v] 2)).trans (hb2.mono (by simp)))
  have HM2 := Lib.hid hM2
  have HV2 := Lib.hid hv2
  have hg2 := hM2.1
  have hgw : w.heap.size < g := by simp at hg1; omega
  clear hb2 hM2 hv2 hg1 hqi HRp
  go_wp2_with fail
  go_loopw [5, 6] (fun v5 v6 wr => ∃ (k o r : Nat) (a : Option Addr) (l c : Nat), k ≤ n ∧ v5 = .slice (some ⟨g, o, none⟩) r r ∧ v6 = .slice a l c ∧ Hid (k < n → o = k * n) ∧ Hid (r = (n - k) * n) ∧ l = k ∧ OwnH wr w2.heap.size (.slice a l c) (hdL n g k) ∧ Below w2.heap.size w2 wr) (fun v5 _ _ => match v5 with | .slice _ r _ => r | _ => 0)
  case atStart => exact ⟨0, 0, q, none, 0, 0, Nat.zero_le _, rfl, rfl, Lib.hid (fun _ => by simp), Lib.hid (by rw [Nat.sub_zero]; exact HQ.out.symm), rfl, OwnH.nil _ _, Below.refl _ _⟩
  case round =>
    obtain ⟨k, o, r, a, l, c, hk, rfl, rfl, ho, hr, hl, hO, hB⟩ := hrel
    have HO := Lib.hid hO
    have HBr := Lib.hid hB
    have HL := Lib.hid hl
    have hzr := hB.size
    clear hO hB hl
    by_cases hlt : k < n
    · have hr1 : n ≤ r := by
        have h := Nat.mul_le_mul_right n (show 1 ≤ n - k by omega)
        rw [← hr.out, Nat.one_mul] at h
        exact h
      have hr2 : r ≤ 36 := by
        have h := Nat.mul_le_mul_right n (show n - k ≤ n by omega)
        rw [← hr.out] at h
        have := HQ.out
        omega
      have hl6 : l ≤ 6 := by have := HL.out; omega
      go_wp2_with (at_builtin; refine wpList_append_hds rfl _ _ rfl w2.heap.size (.slice a l c) l (hdL n g k) [⟨some ⟨g, o, none⟩, n, n⟩] rfl (by rw [HL.out, hdL_length]) (HO.out.alloc _) (some ⟨wr.heap.size, 0, none⟩) 1 1 rfl rfl (.inr ⟨_, 0, rfl, hds_one _ ⟨some ⟨g, o, none⟩, n, n⟩⟩) (by omega) (by simp; omega) ?_)
      intro a9 q9 w9 hO9 hG9 _
      have HO9 := Lib.hid (show OwnH w9 w2.heap.size (.slice a9 (l + 1) q9) (hdL n g (k + 1)) from by rw [hdL_succ, ← ho.out hlt]; exact hO9)
      have HB9 := Lib.hid ((HBr.out.trans ((below1 wr (.cells #[.slice (some ⟨g, o, none⟩) n n] 79)).mono hzr)).trans (own_grownH (HO.out.alloc _) hG9 (by simp; omega)))
      clear hO9 hG9
      go_wp2
      go_roundw
      case rel =>
        refine ⟨k + 1, if r = n then o else o + n, r - n, a9, l + 1, q9, hlt, by split <;> rfl, rfl, Lib.hid (fun hk2 => ?_), Lib.hid ?_, by rw [HL.out], HO9.out, HB9.out⟩
        · have h2 := Nat.mul_le_mul_right n (show 2 ≤ n - k by omega)
          rw [← hr.out] at h2
          rw [if_neg (by omega), Nat.add_mul, Nat.one_mul, ho.out hlt]
        have e : (n - k) * n = (n - (k + 1)) * n + n := by rw [← Nat.succ_mul]; congr 1; omega
        rw [hr.out, e, Nat.add_sub_cancel]
      case measure => simp; omega
    · obtain rfl : k = n := by omega
      have hr0 : r = 0 := by rw [hr.out, Nat.sub_self, Nat.zero_mul]
      subst hr0
      go_wp2
      go_ret
      obtain ⟨e1, hN⟩ := HO.out.at_
      rw [hdL_length] at e1
      subst e1
      refine ⟨a, c, by rw [sqL_length]; rfl, HB2.out.trans (HBr.out.mono HB2.out.size), ?_⟩
      rcases hN with h0 | ⟨h, rfl, hh1, hh2, hMh, hIn⟩
      · have := hdL_length l g l
        rw [h0] at this
        simp at this
        omega
      · refine ⟨h, g, fun _ => l, rfl, by have := HB2.out.size; omega, hh2, by omega, by omega, by omega, ?_, ?_, fun i hi => ?_⟩
        · rw [sqL_length]; rw [hdL_length] at hMh; exact hMh
        · rw [sqL_length, HQ.out]; exact HM2.out.below HBr.out hg2
        · rw [sqL_length] at hi
          have hq := hIn i (by rw [hdL_length]; exact hi)
          rw [Nat.zero_add] at hq
          refine ⟨by simpa [hdL] using hq, by simp [sqL], fun j hj => ?_⟩
          have hj' : j < l := by simpa [sqL] using hj
          have hfit := row_fits (n := l) hi
          rw [(HBr.out.cell (p := ⟨g, i * l + j, none⟩) hg2), HV2.out (i * l + j) (by rw [← HQ.out]; omega)]
          simp [sqL]
end Go.Proofs.Ytknigggjnjkhbaa
