/-
  Contracts of FractionText, of the program and of its model, over the library's table of powers of ten.
-/
import Derived.Test.YtimakdejccaanaaDoorArith
import Derived.Test.YtimakdejccaanaaDoorShut
import Derived.Test.YtimakdejccaanaaDoorShelf
import Derived.Laws.BytesArg
import Derived.Deep.RegionHeld3
import Derived.IntWalk
import Derived.Lib.LaidTab
import Derived.Lib.AppendIntMem
import Derived.LaidSub
import Derived.MakeChecks
import Derived.WalkSpells
namespace Go.Proofs.YtimakdejccaanaaDoor
open Go.RowKit

theorem conv_letterF (x : Int) (W : World) (g : Nat) (hc : W.cell? ⟨g, 0, none⟩ = some (.int .u8 x)) :
    (convert 35 9 (.slice (some ⟨g, 0, none⟩) 1 1)).run Tryd.prog W = .ok (.string ⟨#[UInt8.ofNat x.toNat]⟩) W := by
  have h := run_convert_bytes_arg (P := Tryd.prog) W 35 5 Tryd.underlying35 Tryd.underlying5 g 0 1 1 [x] rfl (fun i hi => by
    obtain rfl : i = 0 := by omega
    simpa using hc) 9 Tryd.underlying9
  rw [h]
  rfl
def digS (n : Nat) : ByteArray := ⟨(Lib.decDigits n).toArray⟩
def itS (n : Int) : ByteArray := ⟨(Lib.itoa n).toArray⟩
theorem digS_small {n : Nat} (h : n < 10) : digS n = ⟨#[UInt8.ofNat (48 + n)]⟩ := by
  unfold digS
  rw [Lib.decDigits_one h]
theorem digS_big {n : Nat} (h : ¬ n < 10) : digS n = digS (n / 10) ++ ⟨#[UInt8.ofNat (48 + n % 10)]⟩ := by
  unfold digS
  rw [Lib.decDigits, dif_neg h]
  apply ByteArray.ext
  apply Array.ext'
  simp [ByteArray.data_append]
theorem digS_size : ∀ (f n : Nat), n < 10 ^ (f + 1) → (digS n).size ≤ f + 1
  | 0, n, h => by rw [digS_small (by omega)]; exact Nat.le_refl _
  | f + 1, n, h => by
    by_cases h0 : n < 10
    · rw [digS_small h0]; show 1 ≤ _; omega
    · rw [digS_big h0, ByteArray.size_append]
      have := digS_size f (n / 10) (by rw [Nat.pow_succ] at h; omega)
      show (digS (n / 10)).size + 1 ≤ _
      omega
theorem itS_neg {n : Int} (h : n < 0) : itS n = ({ data := #[45] } : ByteArray) ++ digS n.natAbs := by
  unfold itS digS Lib.itoa
  rw [if_pos h]
  apply ByteArray.ext
  apply Array.ext'
  simp [ByteArray.data_append]
theorem itS_pos {n : Nat} : itS (n : Int) = digS n := by
  unfold itS digS Lib.itoa
  rw [if_neg (by omega), Int.toNat_natCast]
theorem below_nextF {a w w' : World} (h : Below a.heap.size a w) (hb : Below w.heap.size w w') : Below a.heap.size a w' := h.trans (hb.mono h.size)

theorem u8_add (n : Nat) : UInt8.ofNat (48 + n) = 48 + UInt8.ofNat n := by rw [UInt8.ofNat_add]; rfl
theorem l01Dec_small (n : Nat) (h0 : n < 10) (w : World) :
    Calls Tryd.prog 13 #[.int .i64 n] w fun e w' => e = .returned (.string (digS n)) ∧ Below w.heap.size w w' := by
  have HD := Lib.hid (digS_small h0)
  have HU := Lib.hid (u8_add n)
  have hcv := fun (W : World) (g : Nat) hc => conv_letterF (48 + (n : Int)) W g hc
  have hn0 : ¬ (n : Int) < 0 := by omega
  have hn1 : (n : Int) < 10 := by omega
  have hmod : (48 + (n : Int)) % 256 = 48 + (n : Int) := by omega
  go_enter Tryd.func13, Tryd.ntmps13
  go_wp2
  go_ret
  exact ⟨by rw [HD.out, HU.out]; rfl, below1 _ _⟩
set_option maxRecDepth 100000 in
set_option maxHeartbeats 4000000 in
theorem l01Dec_pos : ∀ (f n : Nat), n < 10 ^ (f + 1) → f ≤ 9 → ∀ w : World,
    Calls Tryd.prog 13 #[.int .i64 n] w fun e w' => e = .returned (.string (digS n)) ∧ Below w.heap.size w w' := by
  intro f
  induction f with
  | zero => exact fun n hn _ w => l01Dec_small n (by omega) w
  | succ f ih =>
    intro n hn hf w
    by_cases h0 : n < 10
    · exact l01Dec_small n h0 w
    · have HD := Lib.hid (digS_big h0)
      have hq : n / 10 < 10 ^ (f + 1) := by rw [Nat.pow_succ] at hn; omega
      have hds := digS_size f (n / 10) hq
      have HI := Lib.hid (ih (n / 10) hq (by omega))
      have hnb : n < 100000000000 := by
        have h1 : (10 : Nat) ^ (f + 1 + 1) ≤ 10 ^ 11 := Nat.pow_le_pow_right (by omega) (by omega)
        have h2 : (10 : Nat) ^ 11 = 100000000000 := by decide
        omega
      have HU := Lib.hid (u8_add (n % 10))
      have hn0 : ¬ (n : Int) < 0 := by omega
      have hn1 : ¬ (n : Int) < 10 := by omega
      have HW := Lib.hid (show IntKind.i64.wrap ((n : Int) / 10) = ((n / 10 : Nat) : Int) by
        have e : (n : Int) / 10 = ((n / 10 : Nat) : Int) := by omega
        rw [e]
        exact IntWalk.i64_in _ (by omega))
      have hr : (n : Int).tmod 10 = ((n % 10 : Nat) : Int) := by rw [Int.tmod_eq_emod_of_nonneg (by omega)]; omega
      have hr2 : (n : Int) % 10 = ((n % 10 : Nat) : Int) := by omega
      have hm0 : n % 10 < 10 := Nat.mod_lt _ (by omega)
      generalize digS (n / 10) = t at *
      generalize n % 10 = m at *
      have hs1 : IntKind.i64.wrap (48 + (m : Int)) = 48 + (m : Int) := IntWalk.i64_in _ (by omega)
      have hu8 : IntKind.u8.wrap (48 + (m : Int)) = 48 + (m : Int) := by
        simp [IntKind.wrap, IntKind.signed, IntKind.bits]
        omega
      have hmod : (48 + (m : Int)) % 256 = 48 + (m : Int) := by omega
      have hcv := fun (W : World) (g : Nat) hc => conv_letterF (48 + (m : Int)) W g hc
      have hadd : ¬ 9223372036854775807 < t.size + 1 := by omega
      clear ih hn hq
      go_enter Tryd.func13, Tryd.ntmps13
      go_wp2_with fail
      go_region_with (first
        | (go_at_call 13; rw [HW.out]; with_reducible refine (HI.out w.drew).mono ?_; rintro e w1 ⟨rfl, hb1⟩)
        | (go_at_call 13; rw [HW.out]; with_reducible refine (HI.out (w.alloc (.cells #[.int .u8 (48 + (m : Int))] 5)).drew).mono ?_; rintro e w1 ⟨rfl, hb1⟩; have q0 : w1.cell? ⟨w.heap.size, 0, none⟩ = some (.int .u8 (48 + (m : Int))) := (hb1.cell (p := ⟨w.heap.size, 0, none⟩) (by simp)).trans (by go_simp)))
      all_goals (go_wp2_with fail; go_ret)
      all_goals refine ⟨by rw [HD.out]; first | rfl | (rw [HU.out]; rfl), ?_⟩
      all_goals first
        | exact (show Below w.heap.size w w1 from ⟨hb1.os, hb1.tape, hb1.output, hb1.size, hb1.block⟩).alloc hb1.size _
        | exact (below1 w (.cells #[.int .u8 (48 + (m : Int))] 5)).trans ⟨hb1.os, hb1.tape, hb1.output, hb1.size, fun j hj => hb1.block j (by simp; omega)⟩

theorem l01Dec_c (n : Int) (h0 : -1000000000 ≤ n) (h1 : n ≤ 1000000000) (w : World) :
    Calls Tryd.prog 13 #[.int .i64 n] w fun e w' => e = .returned (.string (itS n)) ∧ Below w.heap.size w w' := by
  by_cases hn : n < 0
  · obtain ⟨m, rfl⟩ : ∃ m : Nat, n = -(m : Int) := ⟨n.natAbs, by omega⟩
    have hm : m < 10 ^ (9 + 1) := by have : (10 : Nat) ^ (9 + 1) = 10000000000 := by decide
                                     omega
    have HI := Lib.hid (l01Dec_pos 9 m hm (by omega))
    have hz := digS_size 9 m hm
    have HT := Lib.hid (show itS (-(m : Int)) = ({ data := #[45] } : ByteArray) ++ digS m by rw [itS_neg hn]; congr 2; omega)
    generalize digS m = t at *
    have hadd : ¬ 9223372036854775807 < 1 + t.size := by omega
    clear hm
    go_enter Tryd.func13, Tryd.ntmps13
    go_wp2_with fail
    have e : - -(m : Int) = m := by omega
    (try rw [e])
    refine (HI.out _).mono ?_
    rintro e w1 ⟨rfl, hb⟩
    go_wp2
    go_ret
    exact ⟨by rw [HT.out]; rfl, hb⟩
  · obtain ⟨m, rfl⟩ : ∃ m : Nat, n = (m : Int) := ⟨n.toNat, by omega⟩
    have hm : m < 10 ^ (9 + 1) := by have : (10 : Nat) ^ (9 + 1) = 10000000000 := by decide
                                     omega
    rw [itS_pos]
    exact l01Dec_pos 9 m hm (by omega) w
theorem itS_size (n : Int) (h0 : -1000000000 ≤ n) (h1 : n ≤ 1000000000) : (itS n).size ≤ 20 := by
  by_cases hn : n < 0
  · rw [itS_neg hn, ByteArray.size_append]
    have := digS_size 9 n.natAbs (by have : (10 : Nat) ^ (9 + 1) = 10000000000 := by decide
                                     omega)
    show 1 + _ ≤ 20
    omega
  · obtain ⟨m, rfl⟩ : ∃ m : Nat, n = (m : Int) := ⟨n.toNat, by omega⟩
    rw [itS_pos]
    have := digS_size 9 m (by have : (10 : Nat) ^ (9 + 1) = 10000000000 := by decide
                              omega)
    omega
theorem keep2F {w w' w'' : World} {p : Nat} {u v : Value} (hb : Below w'.heap.size w' w'') (h : w'.cell? ⟨p, 0, none⟩ = some u ∧ w'.cell? ⟨p, 1, none⟩ = some v ∧ Below w.heap.size w w') : w''.cell? ⟨p, 0, none⟩ = some u ∧ w''.cell? ⟨p, 1, none⟩ = some v ∧ Below w.heap.size w w'' :=
  ⟨cell_later hb h.1, cell_later hb h.2.1, below_nextF h.2.2 hb⟩
theorem keepDF {w w' : World} {p : Nat} {u v : Value} (h : w'.cell? ⟨p, 0, none⟩ = some u ∧ w'.cell? ⟨p, 1, none⟩ = some v ∧ Below w.heap.size w w') : w'.drew.cell? ⟨p, 0, none⟩ = some u ∧ w'.drew.cell? ⟨p, 1, none⟩ = some v ∧ Below w.heap.size w w'.drew :=
  ⟨h.1, h.2.1, h.2.2.drew⟩
set_option maxRecDepth 100000 in
set_option maxHeartbeats 4000000 in
theorem l01FracText_c (n d : Int) (hn0 : -1000000000 ≤ n) (hn1 : n ≤ 1000000000) (hd0 : -1000000000 ≤ d) (hd1 : d ≤ 1000000000) (w : World) :
    Calls Tryd.prog 8 #[.agg #[.int .i64 n, .int .i64 d]] w fun e w' => e = .returned (.string (itS n ++ { data := #[47] } ++ itS d)) ∧ Below w.heap.size w w' := by
  have z1 := itS_size n hn0 hn1
  have z2 := itS_size d hd0 hd1
  have HN := Lib.hid (l01Dec_c n hn0 hn1)
  have HD := Lib.hid (l01Dec_c d hd0 hd1)
  obtain ⟨t, ht⟩ : ∃ t, itS n = t := ⟨_, rfl⟩
  obtain ⟨u, hu⟩ : ∃ u, itS d = u := ⟨_, rfl⟩
  rw [ht] at z1 HN ⊢
  rw [hu] at z2 HD ⊢
  have g1 : ¬ 9223372036854775807 < t.size + 1 := by omega
  have g2 : ¬ 9223372036854775807 < t.size + 1 + u.size := by omega
  clear ht hu
  go_enter Tryd.func8, Tryd.ntmps8
  go_wp2_with fail
  obtain ⟨W, hW⟩ : ∃ W, w.alloc (.cells #[.int .i64 n, .int .i64 d] 26) = W := ⟨_, rfl⟩
  have c0 : W.cell? ⟨w.heap.size, 0, none⟩ = some (.int .i64 n) := by subst hW; go_simp
  have c1 : W.cell? ⟨w.heap.size, 1, none⟩ = some (.int .i64 d) := by subst hW; go_simp
  have hwW : Below w.heap.size w W := by subst hW; exact below1 _ _
  rw [hW]
  clear hW
  have hB0 := Below.refl W.heap.size W
  go_region_held3 (fun w' => w'.cell? ⟨w.heap.size, 0, none⟩ = some (.int .i64 n) ∧ w'.cell? ⟨w.heap.size, 1, none⟩ = some (.int .i64 d) ∧ Below W.heap.size W w')
    (first | (exact keep2F hb1 (by assumption)) | (exact keep2F hb1 ⟨by assumption, by assumption, by assumption⟩) | (exact keepDF (by assumption)) | (exact keepDF ⟨by assumption, by assumption, by assumption⟩) | assumption | (exact ⟨by assumption, by assumption, by assumption⟩))
    (first | (go_at_call 13; with_reducible refine (HN.out _).mono ?_; rintro e w1 ⟨rfl, hb1⟩) | (go_at_call 13; with_reducible refine (HD.out _).mono ?_; rintro e w1 ⟨rfl, hb1⟩))
  all_goals (go_wp2_with fail; go_ret)
  all_goals (rename_i hh; exact ⟨rfl, hwW.trans (hh.2.2.mono hwW.size)⟩)

/-- the library's table of powers of ten, as the row's condition tells it -/
def TabW (w : World) : Prop := Lib.TabIs Tryd.prog w "internal/strconv.uint64pow10" .u64 Lib.pow10Tab
theorem pow10_global : ∃ g, Tryd.prog.globalNamed "internal/strconv.uint64pow10" = some g := Option.isSome_iff_exists.mp (by kernel_rfl)
theorem TabW.below {w w' : World} (h : TabW w) (hb : Below w.heap.size w w') : TabW w' := by
  obtain ⟨g, hg⟩ := pow10_global
  unfold TabW Lib.TabIs World.var? at h ⊢
  rw [hg] at h ⊢
  simp only [Option.bind_some] at h ⊢
  have hlt : g < w.heap.size := by
    rcases Nat.lt_or_ge g w.heap.size with h' | h'
    · exact h'
    · rw [Array.getElem?_eq_none h'] at h; cases h
  rw [hb.block g hlt]
  exact h
theorem formatInt_c (n : Int) (h0 : -1000000000 ≤ n) (h1 : n ≤ 1000000000) (w : World) (ht : TabW w) :
    Calls Tryd.prog 10 #[.int .i64 n, .int .i64 10] w fun e w' => e = .returned (.string (itS n)) ∧ Below w.heap.size w w' := by
  refine (Tryd.strconv_FormatInt_10 n (by omega) (by omega) w ht).mono ?_
  rintro e w' ⟨rfl, k, os, rfl⟩
  exact ⟨rfl, Lib.below_grow w.heap.size w (Nat.le_refl _) k os⟩
def TextPostF (s : ByteArray) (c : Int) (W : World) (e : Ending) (w' : World) : Prop := e = .returned (.tuple #[.string s, .int .i64 c]) ∧ Below W.heap.size W w'
theorem sFText_1 (n d : Int) (h : isF n d = false) (w : World) : Calls Tryd.prog 4 #[.agg #[.int .i64 n, .int .i64 d]] w (TextPostF { data := #[] } 1 w) := by
  have H := Lib.hid h
  clear h
  go_enter Tryd.func4, Tryd.ntmps4
  go_wp2_with fail
  refine (l01IsFrac_c _ _ _).mono ?_
  rw [H.out]
  rintro e w1 ⟨rfl, hb⟩
  have hB := (below1 w (.cells #[.int .i64 n, .int .i64 d] 26)).trans (hb.mono (by simp))
  go_wp2
  go_ret2
  exact ⟨rfl, hB⟩
theorem iFText_1 (n d : Int) (h : isF n d = false) (w : World) : Calls Tryd.prog 6 #[.agg #[.int .i64 n, .int .i64 d]] w (TextPostF { data := #[] } 1 w) := by
  have H := Lib.hid h
  clear h
  go_enter Tryd.func6, Tryd.ntmps6
  go_wp2_with fail
  refine (isFraction_c _ _ _).mono ?_
  rw [H.out]
  rintro e w1 ⟨rfl, hb⟩
  have hB := (below1 w (.cells #[.int .i64 n, .int .i64 d] 26)).trans (hb.mono (by simp))
  go_wp2
  go_ret2
  exact ⟨rfl, hB⟩
theorem sFText_2 (n d : Int) (h : isF n d = true) (w : World) : Calls Tryd.prog 4 #[.agg #[.int .i64 n, .int .i64 d]] w (TextPostF (itS n ++ { data := #[47] } ++ itS d) 0 w) := by
  have H := Lib.hid h
  have hf := isF_out h
  clear h
  go_enter Tryd.func4, Tryd.ntmps4
  go_wp2_with fail
  refine (l01IsFrac_c _ _ _).mono ?_
  rw [H.out]
  rintro e w1 ⟨rfl, hb⟩
  have bc := bcellB hb
  have c0 : w1.cell? ⟨w.heap.size, 0, none⟩ = some (.int .i64 n) := (bc.1 _ _ (by simp)).trans (by go_simp)
  have c1 : w1.cell? ⟨w.heap.size, 1, none⟩ = some (.int .i64 d) := (bc.1 _ _ (by simp)).trans (by go_simp)
  have hB := (below1 w (.cells #[.int .i64 n, .int .i64 d] 26)).trans (hb.mono (by simp))
  clear bc hb
  go_wp2_with fail
  refine (l01FracText_c n d hf.2.2.1 hf.2.2.2.1 (by omega) hf.2.1 _).mono ?_
  rintro e w2 ⟨rfl, hb⟩
  have hB2 := hB.trans (hb.mono hB.size)
  clear hb hf
  go_wp2
  go_ret2
  exact ⟨rfl, hB2⟩
set_option maxRecDepth 100000 in
set_option maxHeartbeats 4000000 in
theorem iFText_2 (n d : Int) (h : isF n d = true) (w : World) (ht : TabW w) : Calls Tryd.prog 6 #[.agg #[.int .i64 n, .int .i64 d]] w (TextPostF (itS n ++ { data := #[47] } ++ itS d) 0 w) := by
  have H := Lib.hid h
  have hf := isF_out h
  have HTw := Lib.hid ht
  have z1 := itS_size n hf.2.2.1 hf.2.2.2.1
  have z2 := itS_size d (by omega) hf.2.1
  have HN := Lib.hid (formatInt_c n hf.2.2.1 hf.2.2.2.1)
  have HD := Lib.hid (formatInt_c d (by omega) hf.2.1)
  obtain ⟨t, ht1⟩ : ∃ t, itS n = t := ⟨_, rfl⟩
  obtain ⟨u, hu⟩ : ∃ u, itS d = u := ⟨_, rfl⟩
  rw [ht1] at z1 HN ⊢
  rw [hu] at z2 HD ⊢
  have g1 : ¬ 9223372036854775807 < t.size + 1 := by omega
  have g2 : ¬ 9223372036854775807 < t.size + 1 + u.size := by omega
  clear ht1 hu h ht hf
  go_enter Tryd.func6, Tryd.ntmps6
  go_wp2_with fail
  refine (isFraction_c _ _ _).mono ?_
  rw [H.out]
  rintro e W ⟨rfl, hb⟩
  have bc := bcellB hb
  have c0 : W.cell? ⟨w.heap.size, 0, none⟩ = some (.int .i64 n) := (bc.1 _ _ (by simp)).trans (by go_simp)
  have c1 : W.cell? ⟨w.heap.size, 1, none⟩ = some (.int .i64 d) := (bc.1 _ _ (by simp)).trans (by go_simp)
  have hwW := (below1 w (.cells #[.int .i64 n, .int .i64 d] 26)).trans (hb.mono (by simp))
  have HTW := Lib.hid (HTw.out.below hwW)
  clear bc hb
  go_wp2_with fail
  have hB0 := Below.refl W.heap.size W
  go_region_held3 (fun w' => w'.cell? ⟨w.heap.size, 0, none⟩ = some (.int .i64 n) ∧ w'.cell? ⟨w.heap.size, 1, none⟩ = some (.int .i64 d) ∧ Below W.heap.size W w')
    (first | (exact keep2F hb1 (by assumption)) | (exact keep2F hb1 ⟨by assumption, by assumption, by assumption⟩) | (exact keepDF (by assumption)) | (exact keepDF ⟨by assumption, by assumption, by assumption⟩) | assumption | (exact ⟨by assumption, by assumption, by assumption⟩))
    (first | (go_at_call 10; with_reducible refine Calls.mono (HN.out _ (HTW.out.below ?_)) ?_; (first | assumption | exact Below.drew (by assumption) | exact And.right (And.right (by assumption))); rintro e w1 ⟨rfl, hb1⟩) | (go_at_call 10; with_reducible refine Calls.mono (HD.out _ (HTW.out.below ?_)) ?_; (first | assumption | exact Below.drew (by assumption) | exact And.right (And.right (by assumption))); rintro e w1 ⟨rfl, hb1⟩))
  all_goals (go_wp2_with fail; go_ret2)
  all_goals (rename_i hh; exact ⟨rfl, hwW.trans (hh.2.2.mono hwW.size)⟩)
end Go.Proofs.YtimakdejccaanaaDoor
