/-
  Contracts of the model's exponential, of its logarithm, and of what it takes the unit from.
-/
import Derived.Test.YtogbilajlchinaaGreatDoorSumM
import Derived.Test.YtogbilajlchinaaGreatDoorSopF
import Derived.Deep.RegionHeld3
namespace Go.Proofs.YtogbilajlchinaaGreatDoor
open Go.RowKit

theorem val_isF {D N : Nat} {xs : List Tm} (h : serB D N xs = true) : isF (valL [] xs).1 (valL [] xs).2 = true := by
  have G := good_valV h
  have hD : D ≤ 3 := by
    have hsh : shapeB (D : Int) (N : Int) = true := by unfold serB at h; rw [Bool.and_eq_true] at h; exact h.1
    have := shape_out hsh
    omega
  have e := valL_termsOf (allW_asc hD N) G.1 ByteArray.empty
  rw [G.2] at e
  show isF (valL ByteArray.empty.data.toList xs).1 (valL ByteArray.empty.data.toList xs).2 = true
  rw [e]
  exact valF_isF G.1 _
theorem isZero_named {p q : Int} {o : Bool} (h : (p == 0) = o) (hq : p = 0 → q = 1) (w : World) : Calls Tryz.prog 37 #[.agg #[.int .i64 p, .int .i64 q]] w fun e w' => e = .returned (.bool o) ∧ Below w.heap.size w w' := by
  have e : (p == 0 && q == 1) = o := by
    cases o with
    | false => rw [h]; rfl
    | true => rw [h, hq (by simpa using h)]; rfl
  rw [← e]
  exact isZero_c p q w
theorem OwnR.end_0 {w : World} {a : Option Addr} {l c B : Nat} {zs : List (Int × Int)} (h : OwnR w B (.slice a l c) zs) : NewR 0 w.heap.size w a zs := by
  obtain ⟨a', c', he, _, hN⟩ := h.newRow
  injection he with e1 e2 e3
  subst e1
  exact hN.mono (Nat.zero_le _) (Nat.le_refl _)
theorem Row.next {w w' : World} {a : Option Addr} {ts : List Tm} (h : Row w a ts) (hb : Below w.heap.size w w') : Row w' a ts := h.below hb

set_option maxRecDepth 100000 in
set_option maxHeartbeats 8000000 in
theorem l02Exp_c (D N : Nat) (hD : 1 ≤ D ∧ D ≤ 3) (hN : N ≤ 5) (a1 : Option Addr) (cap1 : Nat) (y : VF) (hy : GoodV (allW D N) y) (xs : List Tm) (hx : termsOf y (allW D N) = xs) (w : World) (hr1 : Row w a1 xs) :
    Calls Tryz.prog 52 #[.agg #[.int .i64 D, .int .i64 N, .slice a1 xs.length cap1]] w (SumPost D N ((expV y (allW D N) N).map fun h => termsOf h (allW D N)) w) := by
  have HR1 := Lib.hid hr1
  have HSum := Lib.hid (fun aN cN W r1 r2 => l02Sum_c D N hD hN a1 cap1 y hy xs hx expF (N + 1) (by omega) (fun k hk => expF_isF (by omega)) (fun k _ _ => expF_nz k) (fun h => absurd h (expF_nz 0)) aN cN W r1 r2)
  have HExp := Lib.hid (show expV y (allW D N) N = sumK y (allW D N) expF (N + 1) from rfl)
  clear hr1 hy hx
  go_enter Tryz.func52, Tryz.ntmps52
  go_wp2_with fail
  have HT4 := Lib.hid (show T3 ((w.alloc (.cells #[.int .i64 D, .int .i64 N, .slice a1 xs.length cap1] 28)).alloc (.cells #[.int .i64 0, .int .i64 0, .slice none 0 0] 28)) (w.heap.size + 1) (.int .i64 0) (.int .i64 0) (.slice none 0 0) from by have h := T3.new (w.alloc (.cells #[.int .i64 D, .int .i64 N, .slice a1 xs.length cap1] 28)) 0 0 none 0 0 28; rw [World.size_alloc] at h; exact h)
  have x0 : ((w.alloc (.cells #[.int .i64 D, .int .i64 N, .slice a1 xs.length cap1] 28)).alloc (.cells #[.int .i64 0, .int .i64 0, .slice none 0 0] 28)).cell? ⟨w.heap.size, 0, none⟩ = some (.int .i64 D) := by go_simp
  have x1 : ((w.alloc (.cells #[.int .i64 D, .int .i64 N, .slice a1 xs.length cap1] 28)).alloc (.cells #[.int .i64 0, .int .i64 0, .slice none 0 0] 28)).cell? ⟨w.heap.size, 1, none⟩ = some (.int .i64 N) := by go_simp
  have x2 : ((w.alloc (.cells #[.int .i64 D, .int .i64 N, .slice a1 xs.length cap1] 28)).alloc (.cells #[.int .i64 0, .int .i64 0, .slice none 0 0] 28)).cell? ⟨w.heap.size, 2, none⟩ = some (.slice a1 xs.length cap1) := by go_simp
  have HWb := Lib.hid (below2 w (.cells #[.int .i64 D, .int .i64 N, .slice a1 xs.length cap1] 28) (.cells #[.int .i64 0, .int .i64 0, .slice none 0 0] 28))
  have hwb : ((w.alloc (.cells #[.int .i64 D, .int .i64 N, .slice a1 xs.length cap1] 28)).alloc (.cells #[.int .i64 0, .int .i64 0, .slice none 0 0] 28)).heap.size = w.heap.size + 2 := by simp
  generalize ((w.alloc (.cells #[.int .i64 D, .int .i64 N, .slice a1 xs.length cap1] 28)).alloc (.cells #[.int .i64 0, .int .i64 0, .slice none 0 0] 28)) = wb at *
  have hww : w.heap.size < wb.heap.size := by omega
  have hwz : w.heap.size + 1 + 1 = wb.heap.size := by omega
  have KS := Lib.hid (show ∀ w', Below wb.heap.size wb w' → (w'.cell? ⟨w.heap.size, 0, none⟩ = some (.int .i64 D) ∧ w'.cell? ⟨w.heap.size, 1, none⟩ = some (.int .i64 N) ∧ w'.cell? ⟨w.heap.size, 2, none⟩ = some (.slice a1 xs.length cap1)) from fun w' hb => ⟨(hb.cell (p := ⟨w.heap.size, 0, none⟩) hww).trans x0, (hb.cell (p := ⟨w.heap.size, 1, none⟩) hww).trans x1, (hb.cell (p := ⟨w.heap.size, 2, none⟩) hww).trans x2⟩)
  have HWZ := Lib.hid hwb
  clear x0 x1 x2 hwb hww hwz
  go_loopw [4, 5, 6] (fun v4 v5 v6 wr => ∃ (k : Nat) (a : Option Addr) (l c : Nat), k ≤ N + 1 ∧ v6 = .int .i64 k ∧ v5 = .int .i64 (fct (k - 1)) ∧ v4 = .slice a l c ∧ l = k ∧ OwnR wr wb.heap.size (.slice a l c) (numL expF k) ∧ Below wb.heap.size wb wr) (fun _ _ v6 _ => N + 1 - (intOf v6).toNat)
  case atStart =>
    have hwz : w.heap.size + 1 + 1 = wb.heap.size := by have := HWZ.out; omega
    exact ⟨0, some ⟨w.heap.size + 1 + 1, 0, none⟩, 0, 0, Nat.zero_le _, rfl, rfl, rfl, rfl, OwnR.emptyRow (by rw [hwz]; exact heap_alloc_new wb _) (by omega), below1 _ _⟩
  case round =>
    obtain ⟨k, av, lv, cv, hk, rfl, rfl, rfl, hl, hO, hB⟩ := hrel
    have HO := Lib.hid hO
    have HL := Lib.hid hl
    have HB := Lib.hid hB
    have HSz := Lib.hid hB.size
    have hl9 : lv ≤ 6 := by omega
    obtain ⟨x0, x1, x2⟩ := KS.out wr hB
    clear hO hl hB
    by_cases hlt : k ≤ N
    · have hf1 := fct_bd (k := k - 1) (by omega)
      have hf2 := fct_bd (k := k) (by omega)
      have HF := Lib.hid (show fct (k - 1) * max (k : Int) 1 = fct k from by
        cases k with
        | zero => rfl
        | succ j =>
          rw [show ((j + 1 : Nat) : Int) = (j : Int) + 1 by omega, Int.max_eq_left (by omega)]
          rfl)
      have HNs := Lib.hid (numL_succ expF k)
      have HE := Lib.hid (show expF k = (1, fct k) from rfl)
      rw [HE.out] at HNs
      obtain ⟨q, hq⟩ : ∃ q, fct (k - 1) = q := ⟨_, rfl⟩
      obtain ⟨r, hr⟩ : ∃ r, fct k = r := ⟨_, rfl⟩
      rw [hq] at hf1
      rw [hr] at hf2 HNs
      rw [hq, hr] at HF
      have hm : q * max (k : Int) 1 = r := HF.out
      have HRr := Lib.hid hr
      rw [hq]
      clear hr hq
      go_wp2_with (at_builtin; refine wpList_append_frs rfl _ _ rfl wb.heap.size (.slice av lv cv) lv (numL expF k) [(1, r)] rfl (by rw [numL_length]; exact HL.out) (HO.out.alloc _) (some ⟨wr.heap.size, 0, none⟩) 1 1 rfl rfl (.inr ⟨wr.heap.size, 0, rfl, frs_one wr 1 r⟩) (by omega) (by have := HSz.out; simp; omega) ?_)
      intro a3 c3 w3 hO3 hG3 _
      have HB3 := Lib.hid (HB.out.trans (((below1 wr (.cells #[.int .i64 1, .int .i64 r] 47)).mono HSz.out).trans (own_grownR (HO.out.alloc _) hG3 (by have := HSz.out; simp; omega))))
      have HO3 := Lib.hid hO3
      clear hO3 hG3 x0 x1 x2
      go_wp2
      go_roundw
      case rel => exact ⟨k + 1, a3, lv + 1, c3, by omega, by go_num, by rw [Nat.add_sub_cancel, HRr.out], rfl, by rw [HL.out], by rw [HNs.out]; exact HO3.out, HB3.out⟩
      case measure => simp [intOf]; omega
    · obtain rfl : k = N + 1 := by omega
      have HNr := Lib.hid (HO.out.end_0)
      have HBw := Lib.hid (HWb.out.trans (HB.out.mono (by have := HWZ.out; omega)))
      have hle : ¬ ((N + 1 : Nat) : Int) ≤ (N : Int) := by omega
      have HLv := HL.out
      subst HLv
      have HS := Lib.hid (HSum.out av cv wr (HR1.out.below HBw.out) HNr.out)
      go_wp2_with fail
      refine HS.out.mono ?_
      rw [← HExp.out]
      rintro e w5 hpost
      obtain ⟨X, Y, a5, l5, c5, ok, rfl, hb5, hU⟩ := SumPost.u hpost
      have hT4 := (HT4.out.below HB.out (by have := HWZ.out; omega)).next hb5
      obtain ⟨hq4, r0, r1, r2, z0, z1, z2⟩ := id hT4
      have hz5 := hb5.size
      have hzb := HB.out.size
      have HU5 := Lib.hid hU
      have HB5 := Lib.hid (HWb.out.trans ((HB.out.trans (hb5.mono (by omega))).mono (by have := HWZ.out; omega)))
      clear hpost hb5 hU hT4
      go_wp2
      refine bodyPost_ret (v := .tuple #[.agg #[.int .i64 X, .int .i64 Y, .slice a5 l5 c5], .bool ok]) (by simp [results, Tryz.results52, go_sem, r0, r1, r2, hq4]) rfl ?_
      have hU := HU5.out
      have hW := HB5.out
      have hwz := HWZ.out
      exact SumU.back (lo := wr.heap.size) (by first | exact (((hU.far (by omega)).far (by omega)).far (by omega)).below (below1 _ _) | exact (((hU.below (below1 _ _)).far (by omega)).far (by omega)).far (by omega)) (by go_grown) (by omega)
end Go.Proofs.YtogbilajlchinaaGreatDoor
