/-
  Iterated sums: contracts of the program's strictSumAt and weakSumAt.
-/
import Derived.Test.YtncodnjnndjjaaaItS
namespace Go.Proofs.Ytncodnjnndjjaaa
open Go.RowKit

/-- the six sums at the start -/
theorem six_new (w : World) : Made (w.alloc (.cells #[.int .i64 1, .int .i64 0, .int .i64 0, .int .i64 0, .int .i64 0, .int .i64 0] 67)) w.heap.size 6 ∧ IntsIn (w.alloc (.cells #[.int .i64 1, .int .i64 0, .int .i64 0, .int .i64 0, .int .i64 0, .int .i64 0] 67)) w.heap.size 0 [1, 0, 0, 0, 0, 0] := by
  refine ⟨⟨by simp, fun i hi => ?_⟩, fun i hi => ?_⟩
  · have : i = 0 ∨ i = 1 ∨ i = 2 ∨ i = 3 ∨ i = 4 ∨ i = 5 := by omega
    rcases this with rfl | rfl | rfl | rfl | rfl | rfl
    · exact ⟨⟨.int .i64 1, by go_simp⟩, by go_simp⟩
    · exact ⟨⟨.int .i64 0, by go_simp⟩, by go_simp⟩
    · exact ⟨⟨.int .i64 0, by go_simp⟩, by go_simp⟩
    · exact ⟨⟨.int .i64 0, by go_simp⟩, by go_simp⟩
    · exact ⟨⟨.int .i64 0, by go_simp⟩, by go_simp⟩
    · exact ⟨⟨.int .i64 0, by go_simp⟩, by go_simp⟩
  · have h6 : i < 6 := hi
    have : i = 0 ∨ i = 1 ∨ i = 2 ∨ i = 3 ∨ i = 4 ∨ i = 5 := by omega
    rcases this with rfl | rfl | rfl | rfl | rfl | rfl <;> go_simp
/-- an entry's own three cells -/
theorem entry_new (w : World) (p : List Int) (c : Nat) (hc : c < 3) : (w.alloc (.cells #[.int .i64 (p.getD 0 0), .int .i64 (p.getD 1 0), .int .i64 (p.getD 2 0)] 61)).cell? ⟨w.heap.size, c, none⟩ = some (.int .i64 (p.getD c 0)) := by
  have : c = 0 ∨ c = 1 ∨ c = 2 := by omega
  rcases this with rfl | rfl | rfl <;> go_simp

set_option maxRecDepth 100000 in
set_option maxHeartbeats 8000000 in
theorem strictSumAt_c (lo hi : Nat) (D : Nat) (a : Option Addr) (cap : Nat) (ps : List (List Int)) (s : ByteArray) (hP : SmallP D ps) (hw : wordB (D : Int) s.data.toList = true) (h5 : s.size ≤ 5) (w : World) (hr : MRow lo hi w a (ps.map mvOf)) (hh : hi ≤ w.heap.size) :
    Calls Try.prog 38 #[.slice a ps.length cap, .string s] w (NumP (sumS false ps (letsN s)) w) := by
  have hl12 := hP.1
  have hD3 := hP.2.2.1
  have HT := Lib.hid hr
  have HWd := Lib.hid hw
  have HP := Lib.hid hP
  have HLl := Lib.hid (letsN_length s)
  have HSt := Lib.hid (sixL_start false ps (letsN s))
  have HLm := Lib.hid (show (ps.map mvOf).length = ps.length from by simp)
  clear hr hw hP
  go_enter Try.func38, Try.ntmps38
  go_wp2
  go_loopw [12] (fun vj wr => ∃ j : Nat, j ≤ ps.length ∧ vj = .int .i64 j ∧ Below w.heap.size w wr ∧ Made wr w.heap.size 6 ∧ IntsIn wr w.heap.size 0 (sixL false ps (letsN s) j s.size)) (fun vj _ => ps.length - (intOf vj).toNat)
  case atStart => exact ⟨0, Nat.zero_le _, rfl, below1 _ _, (six_new _).1, by have h := HSt.out; simp only [Bool.false_eq_true, if_false, HLl.out] at h; rw [h]; exact (six_new _).2⟩
  case round =>
    obtain ⟨j, hj, rfl, hB, hM, hI⟩ := hrel
    have HB := Lib.hid hB
    have HM := Lib.hid hM
    have HI := Lib.hid hI
    have hgs := hM.1
    have hzr := hB.size
    clear hB hM hI
    obtain ⟨wt, rfl⟩ : ∃ wt : World, wt = wr := ⟨_, rfl⟩
    by_cases hlt : j < ps.length
    · obtain ⟨b, off, rfl, d0, d1, d2⟩ := (HT.out.below HB.out hh).get (Below.refl _ _) (Nat.le_refl hi) (k := j) (by rw [HLm.out]; exact hlt)
      rw [mv_get, getD_of hlt] at d0 d1 d2
      have HEn := Lib.hid (fun c hc => entry_new wt ps[j] c hc)
      have HEy := Lib.hid (fun c => HP.out.entry ps[j] (List.getElem_mem hlt) c)
      have HSet := Lib.hid (fun k hk => sixL_sset ps (letsN s) j k hlt hk (by rw [HLl.out]; exact h5))
      have HNx := Lib.hid (sixL_next false ps (letsN s) j)
      obtain ⟨p, hpe⟩ : ∃ p, ps[j] = p := ⟨_, rfl⟩
      simp only [hpe] at d0 d1 d2 HEn HEy HSet
      clear hpe
      obtain ⟨y0, hy0⟩ : ∃ y, p.getD 0 0 = y := ⟨_, rfl⟩
      obtain ⟨y1, hy1⟩ : ∃ y, p.getD 1 0 = y := ⟨_, rfl⟩
      obtain ⟨y2, hy2⟩ : ∃ y, p.getD 2 0 = y := ⟨_, rfl⟩
      rw [hy0] at d0
      rw [hy1] at d1
      rw [hy2] at d2
      simp only [hy0, hy1, hy2] at HEn
      clear hy0 hy1 hy2
      go_wp2_with fail
      have hzO : (wt.alloc (.cells #[.int .i64 y0, .int .i64 y1, .int .i64 y2] 61)).heap.size = wt.heap.size + 1 := by simp
      have HzO := Lib.hid hzO
      clear hzO d0 d1 d2
      go_loopw [8] (fun vi wr => ∃ (u : Nat) (q : Int), u ≤ s.size ∧ vi = .int .i64 q ∧ Hid (q = (u : Int) - 1) ∧ Outside w.heap.size (w.heap.size + 1) (wt.alloc (.cells #[.int .i64 y0, .int .i64 y1, .int .i64 y2] 61)) wr ∧ Made wr w.heap.size 6 ∧ IntsIn wr w.heap.size 0 (sixL false ps (letsN s) j u)) (fun vi _ => (intOf vi + 1).toNat)
      case atStart =>
        have hB1 := below1 wt (.cells #[.int .i64 y0, .int .i64 y1, .int .i64 y2] 61)
        exact ⟨s.size, _, Nat.le_refl _, rfl, Lib.hid rfl, Outside.refl _ _ _, HM.out.below hB1 hgs, HI.out.below hB1 hgs⟩
      case round =>
        obtain ⟨u, q, hu, rfl, hq, hO, hMu, hIu⟩ := hrel
        have HO := Lib.hid hO
        have HMu := Lib.hid hMu
        have HIu := Lib.hid hIu
        have hg2 := hMu.1
        have hzu := hO.size
        rw [HzO.out] at hzu
        clear hO hMu hIu
        by_cases hq0 : (0 : Int) ≤ q
        · obtain ⟨k, rfl⟩ : ∃ k : Nat, q = k := ⟨q.toNat, by omega⟩
          have huk : u = k + 1 := by have := hq.out; omega
          subst huk
          have hks : k < s.size := by omega
          have hksI : (k : Int) < (s.size : Int) := by omega
          have hlb := wordB_gets HWd.out k hks
          have ht0 := letB_true hlb
          have HSk := Lib.hid (HSet.out k (by rw [HLl.out]; exact hks))
          rw [letsN_get hks] at HSk
          obtain ⟨c, hc⟩ : ∃ c : Nat, (s[k]).toNat - 48 = c := ⟨_, rfl⟩
          rw [hc] at HSk
          have hcD : c < 3 := by omega
          have hcDI : (c : Int) < 3 := by omega
          have hcc : ((s[k].toNat : Int) - 48) = (c : Int) := by omega
          have HC8 := Lib.hid hcc
          have en := (HO.out.cell (b := wt.heap.size) (o := c) (by rw [HzO.out]; omega) (.inr (by omega))).trans (HEn.out c hcD)
          have hy := HEy.out c
          have n1 := HIu.out (k + 1) (by rw [sixL_length]; omega)
          rw [sixL_get _ _ _ _ _ _ _ (by rw [HLl.out]; omega), Nat.zero_add] at n1
          simp only [Bool.false_eq_true, if_false] at n1
          rw [if_neg (Nat.lt_irrefl _)] at n1
          have n0 := HIu.out k (by rw [sixL_length]; omega)
          rw [sixL_get _ _ _ _ _ _ _ (by rw [HLl.out]; omega), Nat.zero_add] at n0
          simp only [Bool.false_eq_true, if_false] at n0
          rw [if_neg (by omega)] at n0
          have hf := (HMu.out.2 (k + 1) (by omega)).2
          have hX := HP.out.sumsT false j (ks := (letsN s).take (k + 1)) (by rw [List.length_take, HLl.out]; omega)
          have hY := HP.out.sumsT false j (ks := (letsN s).take k) (by rw [List.length_take, HLl.out]; omega)
          have hPr := mul_b100 hy hY
          clear hlb ht0 hc hcc
          obtain ⟨y, hye⟩ : ∃ y, p.getD c 0 = y := ⟨_, rfl⟩
          rw [hye] at en hy hPr HSk
          clear hye
          obtain ⟨X, hXe⟩ : ∃ X, sumS false (ps.take j) ((letsN s).take (k + 1)) = X := ⟨_, rfl⟩
          rw [hXe] at n1 hX HSk
          clear hXe
          obtain ⟨Y, hYe⟩ : ∃ Y, sumS false (ps.take j) ((letsN s).take k) = Y := ⟨_, rfl⟩
          rw [hYe] at n0 hY hPr HSk
          clear hYe
          rw [Int.mul_comm y Y] at hPr
          obtain ⟨Pr, hPre⟩ : ∃ Pr, Y * y = Pr := ⟨_, rfl⟩
          rw [hPre] at hPr
          have k1 : IntKind.i64.wrap (Y * y) = Y * y := IntWalk.i64_in _ (by omega)
          have k2 : IntKind.i64.wrap (X + Y * y) = X + Y * y := IntWalk.i64_in _ (by omega)
          have k3 : IntKind.i64.wrap ((k : Int) + 1) = (k : Int) + 1 := IntWalk.i64_in _ (by omega)
          have k4 : ((k : Int) + 1).toNat = k + 1 := by omega
          have k5 : (0 : Int) ≤ (k : Int) + 1 := by omega
          have k6 : (0 : Int) ≤ (c : Int) := by omega
          have k7 : (k : Int) + 1 < 6 := by omega
          have k8 : (0 : Int) ≤ (k : Int) := by omega
          have k9 : (k : Int) < 6 := by omega
          have hw8 : IntKind.u8.wrap ((s[k].toNat : Int) - 48) = (c : Int) := by
            rw [HC8.out]
            simp [IntKind.wrap, IntKind.signed, IntKind.bits]
            omega
          have hw9 : ((s[k].toNat : Int) - 48) % 256 = (c : Int) := by rw [HC8.out]; omega
          clear hPre hPr hX hY hy
          go_wp2_with fail
          go_region
          all_goals
            go_wp2
            go_roundw
            case rel =>
              exact ⟨k, (k : Int) - 1, by omega, rfl, Lib.hid rfl, HO.out.drew.setCell (p := ⟨w.heap.size, k + 1, none⟩) (Nat.le_refl _) (Nat.lt_succ_self _) _, HMu.out.set _ _, by rw [← HSk.out]; exact IntsIn.upd (w := wr.drew) HIu.out (by rw [sixL_length]; exact HMu.out) (by rw [sixL_length]; omega) _⟩
            case measure => simp [intOf]
        · have hu0 : u = 0 := by have := hq.out; omega
          subst hu0
          have HNe := Lib.hid (show IntsIn wr w.heap.size 0 (sixL false ps (letsN s) (j + 1) s.size) from by have h := HNx.out; simp only [Bool.false_eq_true, if_false, HLl.out] at h; rw [← h]; exact HIu.out)
          have HBu := Lib.hid (HB.out.trans (((below1 wt (.cells #[.int .i64 y0, .int .i64 y1, .int .i64 y2] 61)).mono hzr).trans (HO.out.below (Nat.le_refl _) (by rw [HzO.out]; omega))))
          go_wp2
          go_roundw
          case rel => exact ⟨j + 1, by omega, by go_num, HBu.out, HMu.out, HNe.out⟩
          case measure => simp [intOf]; omega
    · obtain rfl : j = ps.length := by omega
      have c0 := HI.out s.size (by rw [sixL_length]; omega)
      rw [sixL_get _ _ _ _ _ _ _ (by rw [HLl.out]; exact Nat.le_refl _), Nat.zero_add] at c0
      simp only [Bool.false_eq_true, if_false] at c0
      rw [if_neg (Nat.lt_irrefl _), List.take_length, List.take_of_length_le (l := letsN s) (by rw [HLl.out]; exact Nat.le_refl _)] at c0
      have e1 : (s.size : Int) < 6 := by omega
      obtain ⟨R, hR⟩ : ∃ R, sumS false ps (letsN s) = R := ⟨_, rfl⟩
      rw [hR] at c0
      have HR := Lib.hid hR
      clear hR
      go_wp2
      go_ret
      exact ⟨by first | (rw [HR.out]; done) | (rw [HR.out]; rfl), HB.out⟩

set_option maxRecDepth 100000 in
set_option maxHeartbeats 8000000 in
theorem weakSumAt_c (lo hi : Nat) (D : Nat) (a : Option Addr) (cap : Nat) (ps : List (List Int)) (s : ByteArray) (hP : SmallP D ps) (hw : wordB (D : Int) s.data.toList = true) (h5 : s.size ≤ 5) (w : World) (hr : MRow lo hi w a (ps.map mvOf)) (hh : hi ≤ w.heap.size) :
    Calls Try.prog 39 #[.slice a ps.length cap, .string s] w (NumP (sumS true ps (letsN s)) w) := by
  have hl12 := hP.1
  have hD3 := hP.2.2.1
  have HT := Lib.hid hr
  have HWd := Lib.hid hw
  have HP := Lib.hid hP
  have HLl := Lib.hid (letsN_length s)
  have HSt := Lib.hid (sixL_start true ps (letsN s))
  have HLm := Lib.hid (show (ps.map mvOf).length = ps.length from by simp)
  clear hr hw hP
  go_enter Try.func39, Try.ntmps39
  go_wp2
  go_loopw [12] (fun vj wr => ∃ j : Nat, j ≤ ps.length ∧ vj = .int .i64 j ∧ Below w.heap.size w wr ∧ Made wr w.heap.size 6 ∧ IntsIn wr w.heap.size 0 (sixL true ps (letsN s) j 0)) (fun vj _ => ps.length - (intOf vj).toNat)
  case atStart => exact ⟨0, Nat.zero_le _, rfl, below1 _ _, (six_new _).1, by have h := HSt.out; simp only [if_true, HLl.out] at h; rw [h]; exact (six_new _).2⟩
  case round =>
    obtain ⟨j, hj, rfl, hB, hM, hI⟩ := hrel
    have HB := Lib.hid hB
    have HM := Lib.hid hM
    have HI := Lib.hid hI
    have hgs := hM.1
    have hzr := hB.size
    clear hB hM hI
    obtain ⟨wt, rfl⟩ : ∃ wt : World, wt = wr := ⟨_, rfl⟩
    by_cases hlt : j < ps.length
    · obtain ⟨b, off, rfl, d0, d1, d2⟩ := (HT.out.below HB.out hh).get (Below.refl _ _) (Nat.le_refl hi) (k := j) (by rw [HLm.out]; exact hlt)
      rw [mv_get, getD_of hlt] at d0 d1 d2
      have HEn := Lib.hid (fun c hc => entry_new wt ps[j] c hc)
      have HEy := Lib.hid (fun c => HP.out.entry ps[j] (List.getElem_mem hlt) c)
      have HSet := Lib.hid (fun k hk => sixL_wset ps (letsN s) j k hlt hk (by rw [HLl.out]; exact h5))
      have HNx := Lib.hid (sixL_next true ps (letsN s) j)
      obtain ⟨p, hpe⟩ : ∃ p, ps[j] = p := ⟨_, rfl⟩
      simp only [hpe] at d0 d1 d2 HEn HEy HSet
      clear hpe
      obtain ⟨y0, hy0⟩ : ∃ y, p.getD 0 0 = y := ⟨_, rfl⟩
      obtain ⟨y1, hy1⟩ : ∃ y, p.getD 1 0 = y := ⟨_, rfl⟩
      obtain ⟨y2, hy2⟩ : ∃ y, p.getD 2 0 = y := ⟨_, rfl⟩
      rw [hy0] at d0
      rw [hy1] at d1
      rw [hy2] at d2
      simp only [hy0, hy1, hy2] at HEn
      clear hy0 hy1 hy2
      go_wp2_with fail
      have hzO : (wt.alloc (.cells #[.int .i64 y0, .int .i64 y1, .int .i64 y2] 61)).heap.size = wt.heap.size + 1 := by simp
      have HzO := Lib.hid hzO
      clear hzO d0 d1 d2
      go_loopw [18] (fun vi wr => ∃ (u : Nat), u ≤ s.size ∧ vi = .int .i64 u ∧ Outside w.heap.size (w.heap.size + 1) (wt.alloc (.cells #[.int .i64 y0, .int .i64 y1, .int .i64 y2] 61)) wr ∧ Made wr w.heap.size 6 ∧ IntsIn wr w.heap.size 0 (sixL true ps (letsN s) j u)) (fun vi _ => s.size - (intOf vi).toNat)
      case atStart =>
        have hB1 := below1 wt (.cells #[.int .i64 y0, .int .i64 y1, .int .i64 y2] 61)
        exact ⟨0, Nat.zero_le _, rfl, Outside.refl _ _ _, HM.out.below hB1 hgs, HI.out.below hB1 hgs⟩
      case round =>
        obtain ⟨k, hu, rfl, hO, hMu, hIu⟩ := hrel
        have HO := Lib.hid hO
        have HMu := Lib.hid hMu
        have HIu := Lib.hid hIu
        have hg2 := hMu.1
        have hzu := hO.size
        rw [HzO.out] at hzu
        clear hO hMu hIu
        by_cases hq0 : k < s.size
        · skip
          have hks : k < s.size := by omega
          have hksI : (k : Int) < (s.size : Int) := by omega
          have hlb := wordB_gets HWd.out k hks
          have ht0 := letB_true hlb
          have HSk := Lib.hid (HSet.out k (by rw [HLl.out]; exact hks))
          rw [letsN_get hks] at HSk
          obtain ⟨c, hc⟩ : ∃ c : Nat, (s[k]).toNat - 48 = c := ⟨_, rfl⟩
          rw [hc] at HSk
          have hcD : c < 3 := by omega
          have hcDI : (c : Int) < 3 := by omega
          have hcc : ((s[k].toNat : Int) - 48) = (c : Int) := by omega
          have HC8 := Lib.hid hcc
          have en := (HO.out.cell (b := wt.heap.size) (o := c) (by rw [HzO.out]; omega) (.inr (by omega))).trans (HEn.out c hcD)
          have hy := HEy.out c
          have n1 := HIu.out (k + 1) (by rw [sixL_length]; omega)
          rw [sixL_get _ _ _ _ _ _ _ (by rw [HLl.out]; omega), Nat.zero_add] at n1
          simp only [if_true] at n1
          rw [if_neg (by omega)] at n1
          have n0 := HIu.out k (by rw [sixL_length]; omega)
          rw [sixL_get _ _ _ _ _ _ _ (by rw [HLl.out]; omega), Nat.zero_add] at n0
          simp only [if_true] at n0
          rw [if_pos (Nat.le_refl _)] at n0
          have hf := (HMu.out.2 (k + 1) (by omega)).2
          have hX := HP.out.sumsT true j (ks := (letsN s).take (k + 1)) (by rw [List.length_take, HLl.out]; omega)
          have hY := HP.out.sumsT true (j + 1) (ks := (letsN s).take k) (by rw [List.length_take, HLl.out]; omega)
          have hPr := mul_b100 hy hY
          clear hlb ht0 hc hcc
          obtain ⟨y, hye⟩ : ∃ y, p.getD c 0 = y := ⟨_, rfl⟩
          rw [hye] at en hy hPr HSk
          clear hye
          obtain ⟨X, hXe⟩ : ∃ X, sumS true (ps.take j) ((letsN s).take (k + 1)) = X := ⟨_, rfl⟩
          rw [hXe] at n1 hX HSk
          clear hXe
          obtain ⟨Y, hYe⟩ : ∃ Y, sumS true (ps.take (j + 1)) ((letsN s).take k) = Y := ⟨_, rfl⟩
          rw [hYe] at n0 hY hPr HSk
          clear hYe
          rw [Int.mul_comm y Y] at hPr
          obtain ⟨Pr, hPre⟩ : ∃ Pr, Y * y = Pr := ⟨_, rfl⟩
          rw [hPre] at hPr
          have k1 : IntKind.i64.wrap (Y * y) = Y * y := IntWalk.i64_in _ (by omega)
          have k2 : IntKind.i64.wrap (X + Y * y) = X + Y * y := IntWalk.i64_in _ (by omega)
          have k3 : IntKind.i64.wrap ((k : Int) + 1) = (k : Int) + 1 := IntWalk.i64_in _ (by omega)
          have k4 : ((k : Int) + 1).toNat = k + 1 := by omega
          have k5 : (0 : Int) ≤ (k : Int) + 1 := by omega
          have k6 : (0 : Int) ≤ (c : Int) := by omega
          have k7 : (k : Int) + 1 < 6 := by omega
          have k8 : (0 : Int) ≤ (k : Int) := by omega
          have k9 : (k : Int) < 6 := by omega
          have hw8 : IntKind.u8.wrap ((s[k].toNat : Int) - 48) = (c : Int) := by
            rw [HC8.out]
            simp [IntKind.wrap, IntKind.signed, IntKind.bits]
            omega
          have hw9 : ((s[k].toNat : Int) - 48) % 256 = (c : Int) := by rw [HC8.out]; omega
          clear hPre hPr hX hY hy
          go_wp2_with fail
          go_region
          all_goals
            go_wp2
            go_roundw
            case rel =>
              exact ⟨k + 1, by omega, by go_num, HO.out.drew.setCell (p := ⟨w.heap.size, k + 1, none⟩) (Nat.le_refl _) (Nat.lt_succ_self _) _, HMu.out.set _ _, by rw [← HSk.out]; exact IntsIn.upd (w := wr.drew) HIu.out (by rw [sixL_length]; exact HMu.out) (by rw [sixL_length]; omega) _⟩
            case measure => simp [intOf]; omega
        · obtain rfl : k = s.size := by omega
          have HNe := Lib.hid (show IntsIn wr w.heap.size 0 (sixL true ps (letsN s) (j + 1) 0) from by have h := HNx.out; simp only [if_true, HLl.out] at h; rw [← h]; exact HIu.out)
          have HBu := Lib.hid (HB.out.trans (((below1 wt (.cells #[.int .i64 y0, .int .i64 y1, .int .i64 y2] 61)).mono hzr).trans (HO.out.below (Nat.le_refl _) (by rw [HzO.out]; omega))))
          go_wp2
          go_roundw
          case rel => exact ⟨j + 1, by omega, by go_num, HBu.out, HMu.out, HNe.out⟩
          case measure => simp [intOf]; omega
    · obtain rfl : j = ps.length := by omega
      have c0 := HI.out s.size (by rw [sixL_length]; omega)
      rw [sixL_get _ _ _ _ _ _ _ (by rw [HLl.out]; exact Nat.le_refl _), Nat.zero_add] at c0
      simp only [if_true] at c0
      have htk : ps.take (if s.size ≤ 0 then ps.length + 1 else ps.length) = ps := by split <;> exact List.take_of_length_le (by omega)
      rw [htk, List.take_of_length_le (l := letsN s) (by rw [HLl.out]; exact Nat.le_refl _)] at c0
      have e1 : (s.size : Int) < 6 := by omega
      obtain ⟨R, hR⟩ : ∃ R, sumS true ps (letsN s) = R := ⟨_, rfl⟩
      rw [hR] at c0
      have HR := Lib.hid hR
      clear hR
      go_wp2
      go_ret
      exact ⟨by first | (rw [HR.out]; done) | (rw [HR.out]; rfl), HB.out⟩

end Go.Proofs.Ytncodnjnndjjaaa
