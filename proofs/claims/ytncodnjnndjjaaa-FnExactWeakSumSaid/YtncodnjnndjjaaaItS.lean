/-
  Iterated sums: contracts of the model's sum at a word (strict and weak), of StrictSum and WeakSum of the model.
-/
import Derived.Test.YtncodnjnndjjaaaItM
import Derived.Test.YtncodnjnndjjaaaDblArea
import Derived.Test.YtncodnjnndjjaaaWordW
import Derived.BigRegion
import Derived.BigQuiet
namespace Go.Proofs.Ytncodnjnndjjaaa
open Go.RowKit

/-- the letters of a word as numbers -/
def letsN (s : ByteArray) : List Nat := s.data.toList.map fun c => c.toNat - 48
theorem letsN_length (s : ByteArray) : (letsN s).length = s.size := by simp [letsN]
theorem letsN_get {s : ByteArray} {k : Nat} (h : k < s.size) : (letsN s)[k]'(by rw [letsN_length]; exact h) = s[k].toNat - 48 := by simp [letsN]; rfl
theorem letsN_drop {s : ByteArray} {k : Nat} (h : k < s.size) : (letsN s).drop k = (s[k].toNat - 48) :: (letsN s).drop (k + 1) := by
  rw [List.drop_eq_getElem_cons (by rw [letsN_length]; exact h), letsN_get h]
theorem SmallP.entry {D : Nat} {ps : List (List Int)} (h : SmallP D ps) : ∀ p ∈ ps, ∀ c, -100 ≤ p.getD c 0 ∧ p.getD c 0 ≤ 100 := fun p hp c => by
  obtain ⟨i, hi, rfl⟩ := List.mem_iff_getElem.1 hp
  by_cases hc : c < (ps[i]).length
  · rw [getD_of hc]; exact (h.2.2.2 i hi).2 c hc
  · rw [List.getD_eq_getElem?_getD, List.getElem?_eq_none (by omega)]; simp
theorem SmallP.sums {D : Nat} {ps : List (List Int)} (h : SmallP D ps) (wk : Bool) (i : Nat) {ks : List Nat} (hk : ks.length ≤ 5) : -43680000000000 ≤ sumS wk (ps.drop i) ks ∧ sumS wk (ps.drop i) ks ≤ 43680000000000 :=
  sumS_in wk (fun p hp => h.entry p (List.mem_of_mem_drop hp)) hk (by rw [List.length_drop]; have := h.1; omega)
theorem SmallP.sumsT {D : Nat} {ps : List (List Int)} (h : SmallP D ps) (wk : Bool) (i : Nat) {ks : List Nat} (hk : ks.length ≤ 5) : -43680000000000 ≤ sumS wk (ps.take i) ks ∧ sumS wk (ps.take i) ks ≤ 43680000000000 :=
  sumS_in wk (fun p hp => h.entry p (List.mem_of_mem_take hp)) hk (by rw [List.length_take]; have := h.1; omega)
/-- a function that returns a number -/
def NumP (z : Int) (W : World) (e : Ending) (w' : World) : Prop := e = .returned (.int .i64 z) ∧ Below W.heap.size W w'

set_option maxRecDepth 100000 in
set_option maxHeartbeats 8000000 in
theorem l10Sum_s (lo hi : Nat) (D : Nat) (a : Option Addr) (cap : Nat) (ps : List (List Int)) (s : ByteArray) (hP : SmallP D ps) (hw : wordB (D : Int) s.data.toList = true) (h5 : s.size ≤ 5) (w : World) (hr : PRow lo hi w a ps) (hh : hi ≤ w.heap.size) :
    Calls Try.prog 36 #[.slice a ps.length cap, .string s, .bool false] w (NumP (sumS false ps (letsN s)) w) := by
  have hl12 := hP.1
  have HT := Lib.hid hr
  have HWd := Lib.hid hw
  have HP := Lib.hid hP
  have HLl := Lib.hid (letsN_length s)
  obtain ⟨O, hmk, hmade⟩ := make_ints (ps.length + 1) (by omega)
  have HMd := Lib.hid hmade
  have ecast : ((ps.length + 1 : Nat) : Int) = (ps.length : Int) + 1 := by omega
  rw [ecast] at hmk
  have HMk := Lib.hid hmk
  clear hr hw hP hmade ecast
  go_enter Try.func36, Try.ntmps36
  go_wp2
  clear hmk
  go_loopw [9] (fun vi wr => ∃ j : Nat, j ≤ ps.length + 1 ∧ vi = .int .i64 j ∧ Below w.heap.size w wr ∧ Made wr w.heap.size (ps.length + 1) ∧ IntsIn wr w.heap.size 0 (onesL (ps.length + 1) j)) (fun vi _ => ps.length + 1 - (intOf vi).toNat)
  case atStart => exact ⟨0, Nat.zero_le _, rfl, below1 _ _, (HMd.out _).1, by rw [onesL_zero]; exact (HMd.out _).2⟩
  case round =>
    obtain ⟨j, hj, rfl, hB, hM, hI⟩ := hrel
    have HB := Lib.hid hB
    have HM := Lib.hid hM
    have HI := Lib.hid hI
    have hgs := hM.1
    clear hB hM hI
    by_cases hlt : (j : Int) ≤ (ps.length : Int)
    · have hc := HI.out j (by rw [onesL_length]; omega)
      rw [Nat.zero_add] at hc
      have hf := (HM.out.2 j (by omega)).2
      have HS := Lib.hid (onesL_set (ps.length + 1) j)
      have e1 : (j : Int) < (ps.length : Int) + 1 := by omega
      have e0 : (0 : Int) ≤ (j : Int) := by omega
      obtain ⟨v, hv⟩ : ∃ v, (onesL (ps.length + 1) j)[j]'(by rw [onesL_length]; omega) = v := ⟨_, rfl⟩
      rw [hv] at hc
      clear hv
      go_wp2
      go_roundw
      case rel => exact ⟨j + 1, by omega, by go_num, HB.out.setCell (p := ⟨w.heap.size, j, none⟩) (Nat.le_refl _) _, HM.out.set _ _, by rw [← HS.out]; exact IntsIn.upd HI.out (by rw [onesL_length]; exact HM.out) (by rw [onesL_length]; omega) _⟩
      case measure => simp [intOf]; omega
    · have hjn : j = ps.length + 1 := by omega
      have hI := HI.out
      rw [hjn, onesL_done false ps] at hI
      have HI2 := Lib.hid hI
      clear hI HI hjn
      obtain ⟨wa, rfl⟩ : ∃ wa : World, wa = wr := ⟨_, rfl⟩
      go_wp2
      go_loopw [8, 10] (fun vs vk wr => ∃ (t g : Nat) (q : Int), t ≤ s.size ∧ vk = .int .i64 q ∧ Hid (q = (t : Int) - 1) ∧ vs = .slice (some ⟨g, 0, none⟩) (ps.length + 1) (ps.length + 1) ∧ w.heap.size ≤ g ∧ Below w.heap.size w wr ∧ Made wr g (ps.length + 1) ∧ IntsIn wr g 0 (behL false ps ((letsN s).drop t))) (fun _ vk _ => (intOf vk + 1).toNat)
      case atStart => exact ⟨s.size, w.heap.size, _, Nat.le_refl _, rfl, Lib.hid rfl, rfl, Nat.le_refl _, HB.out, HM.out, by rw [List.drop_of_length_le (by rw [HLl.out]; exact Nat.le_refl _)]; exact HI2.out⟩
      case round =>
        obtain ⟨t, g, q, ht, rfl, hq, rfl, hwg, hBt, hMt, hIt⟩ := hrel
        have HBt := Lib.hid hBt
        have HMt := Lib.hid hMt
        have HIt := Lib.hid hIt
        have hgs := hMt.1
        have hzt := hBt.size
        clear hBt hMt hIt HI2 HM HB
        obtain ⟨wt, rfl⟩ : ∃ wt : World, wt = wr := ⟨_, rfl⟩
        by_cases hq0 : (0 : Int) ≤ q
        · obtain ⟨k, rfl⟩ : ∃ k : Nat, q = k := ⟨q.toNat, by omega⟩
          have htk : t = k + 1 := by have := hq.out; omega
          subst htk
          have hks : k < s.size := by omega
          have hksI : (k : Int) < (s.size : Int) := by omega
          have hlb := wordB_gets HWd.out k hks
          have ht0 := letB_true hlb
          have HDr := Lib.hid (letsN_drop hks)
          obtain ⟨c, hc⟩ : ∃ c : Nat, (s[k]).toNat - 48 = c := ⟨_, rfl⟩
          rw [hc] at HDr
          have hcD : c < D := by omega
          have hc3 : c < 3 := by have := HP.out.2.2.1; omega
          have hcc : ((s[k].toNat : Int) - 48) = (c : Int) := by omega
          have HC8 := Lib.hid hcc
          obtain ⟨rest, hrest⟩ : ∃ rest, (letsN s).drop (k + 1) = rest := ⟨_, rfl⟩
          have hrl : rest.length ≤ 4 := by rw [← hrest, List.length_drop, HLl.out]; omega
          rw [hrest] at HDr HIt
          have HRl := Lib.hid hrl
          clear hlb ht0 hc hcc hrest hrl
          have hmk := HMk.out
          go_wp2
          clear hmk
          have hzO : (wt.alloc O).heap.size = wt.heap.size + 1 := by simp
          have HzO := Lib.hid hzO
          clear hzO
          go_loopw [12] (fun vi wr => ∃ (u : Nat) (p : Int), u ≤ ps.length ∧ vi = .int .i64 p ∧ Hid (p = (u : Int) - 1) ∧ Outside wt.heap.size (wt.heap.size + 1) (wt.alloc O) wr ∧ Made wr wt.heap.size (ps.length + 1) ∧ IntsIn wr wt.heap.size 0 (nexL false ps (c :: rest) u)) (fun vi _ => (intOf vi + 1).toNat)
          case atStart => exact ⟨ps.length, _, Nat.le_refl _, rfl, Lib.hid rfl, Outside.refl _ _ _, (HMd.out _).1, by rw [nexL_zero]; exact (HMd.out _).2⟩
          case round =>
            obtain ⟨u, p, hu, rfl, hp, hO, hMu, hIu⟩ := hrel
            have HO := Lib.hid hO
            have HMu := Lib.hid hMu
            have HIu := Lib.hid hIu
            have HBu := Lib.hid (HBt.out.trans (((below1 wt O).mono hzt).trans (hO.below hzt (by rw [HzO.out]; omega))))
            have hg2 := hMu.1
            clear hO hMu hIu
            by_cases hp0 : (0 : Int) ≤ p
            · obtain ⟨j, rfl⟩ : ∃ j : Nat, p = j := ⟨p.toNat, by omega⟩
              have huj : u = j + 1 := by have := hp.out; omega
              subst huj
              have hjl : j < ps.length := by omega
              have hjlI : (j : Int) < (ps.length : Int) := by omega
              have e0 : (0 : Int) ≤ (j : Int) := by omega
              have e1 : (j : Int) + 1 < (ps.length : Int) + 1 := by omega
              have e2 : (j : Int) < (ps.length : Int) + 1 := by omega
              have e3 : (0 : Int) ≤ (k : Int) := by omega
              obtain ⟨b, off, a', c', rfl, hbz, r0, hI⟩ := HT.out.getB HBu.out hh hjl
              have hzl := HP.out.len hjl
              rcases hI with h | ⟨b', o', rfl, _, hb2, hI'⟩
              · rw [h] at hzl; simp at hzl; omega
              have r1 := hI' c (by rw [hzl]; exact hcD)
              have hy := HP.out.entry ps[j] (List.getElem_mem hjl) c
              have HSet := Lib.hid (nexL_set false ps c rest j hjl)
              rw [getD_of (by rw [hzl]; exact hcD)] at hy HSet
              have n1 := HIu.out (j + 1) (by rw [nexL_length]; omega)
              rw [nexL_get, if_pos (Nat.le_refl _), Nat.zero_add] at n1
              have n0 := HIu.out j (by rw [nexL_length]; omega)
              rw [nexL_get, if_neg (by omega), Nat.zero_add] at n0
              have hf := (HMu.out.2 j (by omega)).2
              have v1 := (HO.out.cell (b := g) (o := 0 + (j + 1)) (by rw [HzO.out]; omega) (.inl hgs)).trans (((below1 wt O).cell (p := ⟨g, 0 + (j + 1), none⟩) hgs).trans (HIt.out (j + 1) (by rw [behL_length]; omega)))
              rw [behL_get, Nat.zero_add] at v1
              have hX := HP.out.sums false (j + 1) (ks := c :: rest) (by have := HRl.out; simp; omega)
              have hY := HP.out.sums false (j + 1) (ks := rest) (by have := HRl.out; omega)
              have hZ := HP.out.sums false j (ks := c :: rest) (by have := HRl.out; simp; omega)
              have hPr := mul_b100 hy hY
              have hSum : sumS false (ps.drop (j + 1)) (c :: rest) + (ps[j])[c]'(by rw [hzl]; exact hcD) * sumS false (ps.drop (j + 1)) rest = sumS false (ps.drop j) (c :: rest) := by
                rw [List.drop_eq_getElem_cons hjl, sumS_strict, getD_of (by rw [hzl]; exact hcD)]
              rw [← hSum] at hZ
              simp only [Bool.false_eq_true, if_false] at HSet
              obtain ⟨y, hye⟩ : ∃ y, (ps[j])[c]'(by rw [hzl]; exact hcD) = y := ⟨_, rfl⟩
              rw [hye] at r1 hy hPr hZ HSet
              clear hSum hye
              obtain ⟨X, hXe⟩ : ∃ X, sumS false (ps.drop (j + 1)) (c :: rest) = X := ⟨_, rfl⟩
              rw [hXe] at n1 hX hZ HSet
              clear hXe
              obtain ⟨Y, hYe⟩ : ∃ Y, sumS false (ps.drop (j + 1)) rest = Y := ⟨_, rfl⟩
              rw [hYe] at v1 hY hPr hZ HSet
              clear hYe
              obtain ⟨m, hm⟩ : ∃ m, (ps[j]).length = m := ⟨_, rfl⟩
              have hcm : c < m := by omega
              have hcmI : (c : Int) < (m : Int) := by omega
              rw [hm] at r0
              clear hm hI'
              obtain ⟨Pr, hPre⟩ : ∃ Pr, y * Y = Pr := ⟨_, rfl⟩
              rw [hPre] at hPr hZ
              have k1 : IntKind.i64.wrap (y * Y) = y * Y := IntWalk.i64_in _ (by omega)
              have k2 : IntKind.i64.wrap (X + y * Y) = X + y * Y := IntWalk.i64_in _ (by omega)
              have k3 : IntKind.i64.wrap ((j : Int) + 1) = (j : Int) + 1 := IntWalk.i64_in _ (by omega)
              have k4 : ((j : Int) + 1).toNat = j + 1 := by omega
              have k5 : (0 : Int) ≤ (j : Int) + 1 := by omega
              have k6 : (0 : Int) ≤ (c : Int) := by omega
              have hw8 : IntKind.u8.wrap ((s[k].toNat : Int) - 48) = (c : Int) := by
                rw [HC8.out]
                simp [IntKind.wrap, IntKind.signed, IntKind.bits]
                omega
              have hw9 : ((s[k].toNat : Int) - 48) % 256 = (c : Int) := by rw [HC8.out]; omega
              clear hPre hPr hZ hX hY hy hzl
              go_wp2_with fail
              go_region
              all_goals
                go_wp2
                go_roundw
                case rel =>
                  exact ⟨j, (j : Int) - 1, by omega, rfl, Lib.hid rfl, HO.out.drew.setCell (p := ⟨wt.heap.size, j, none⟩) (Nat.le_refl _) (Nat.lt_succ_self _) _, HMu.out.set _ _, by rw [← HSet.out]; exact IntsIn.upd (w := wr.drew) HIu.out (by rw [nexL_length]; exact HMu.out) (by rw [nexL_length]; omega) _⟩
                case measure => simp [intOf]
            · have hu0 : u = 0 := by have := hp.out; omega
              subst hu0
              have HIe := Lib.hid (show IntsIn wr wt.heap.size 0 (behL false ps ((letsN s).drop k)) from by rw [HDr.out, ← nexL_done]; exact HIu.out)
              go_wp2
              go_roundw
              case rel => exact ⟨k, wt.heap.size, (k : Int) - 1, by omega, rfl, Lib.hid rfl, rfl, hzt, HBu.out, HMu.out, HIe.out⟩
              case measure => simp [intOf]
        · have ht0 : t = 0 := by have := hq.out; omega
          subst ht0
          have c0 := HIt.out 0 (by rw [behL_length]; omega)
          rw [behL_get, List.drop_zero, List.drop_zero, Nat.zero_add] at c0
          have e1 : (0 : Int) < (ps.length : Int) + 1 := by omega
          obtain ⟨R, hR⟩ : ∃ R, sumS false ps (letsN s) = R := ⟨_, rfl⟩
          rw [hR] at c0
          have HR := Lib.hid hR
          clear hR
          go_wp2
          go_ret
          exact ⟨by first | (rw [HR.out]; done) | (rw [HR.out]; rfl), HBt.out⟩

set_option maxRecDepth 100000 in
set_option maxHeartbeats 8000000 in
theorem l10Sum_w (lo hi : Nat) (D : Nat) (a : Option Addr) (cap : Nat) (ps : List (List Int)) (s : ByteArray) (hP : SmallP D ps) (hw : wordB (D : Int) s.data.toList = true) (h5 : s.size ≤ 5) (w : World) (hr : PRow lo hi w a ps) (hh : hi ≤ w.heap.size) :
    Calls Try.prog 36 #[.slice a ps.length cap, .string s, .bool true] w (NumP (sumS true ps (letsN s)) w) := by
  have hl12 := hP.1
  have HT := Lib.hid hr
  have HWd := Lib.hid hw
  have HP := Lib.hid hP
  have HLl := Lib.hid (letsN_length s)
  obtain ⟨O, hmk, hmade⟩ := make_ints (ps.length + 1) (by omega)
  have HMd := Lib.hid hmade
  have ecast : ((ps.length + 1 : Nat) : Int) = (ps.length : Int) + 1 := by omega
  rw [ecast] at hmk
  have HMk := Lib.hid hmk
  clear hr hw hP hmade ecast
  go_enter Try.func36, Try.ntmps36
  go_wp2
  clear hmk
  go_loopw [9] (fun vi wr => ∃ j : Nat, j ≤ ps.length + 1 ∧ vi = .int .i64 j ∧ Below w.heap.size w wr ∧ Made wr w.heap.size (ps.length + 1) ∧ IntsIn wr w.heap.size 0 (onesL (ps.length + 1) j)) (fun vi _ => ps.length + 1 - (intOf vi).toNat)
  case atStart => exact ⟨0, Nat.zero_le _, rfl, below1 _ _, (HMd.out _).1, by rw [onesL_zero]; exact (HMd.out _).2⟩
  case round =>
    obtain ⟨j, hj, rfl, hB, hM, hI⟩ := hrel
    have HB := Lib.hid hB
    have HM := Lib.hid hM
    have HI := Lib.hid hI
    have hgs := hM.1
    clear hB hM hI
    by_cases hlt : (j : Int) ≤ (ps.length : Int)
    · have hc := HI.out j (by rw [onesL_length]; omega)
      rw [Nat.zero_add] at hc
      have hf := (HM.out.2 j (by omega)).2
      have HS := Lib.hid (onesL_set (ps.length + 1) j)
      have e1 : (j : Int) < (ps.length : Int) + 1 := by omega
      have e0 : (0 : Int) ≤ (j : Int) := by omega
      obtain ⟨v, hv⟩ : ∃ v, (onesL (ps.length + 1) j)[j]'(by rw [onesL_length]; omega) = v := ⟨_, rfl⟩
      rw [hv] at hc
      clear hv
      go_wp2
      go_roundw
      case rel => exact ⟨j + 1, by omega, by go_num, HB.out.setCell (p := ⟨w.heap.size, j, none⟩) (Nat.le_refl _) _, HM.out.set _ _, by rw [← HS.out]; exact IntsIn.upd HI.out (by rw [onesL_length]; exact HM.out) (by rw [onesL_length]; omega) _⟩
      case measure => simp [intOf]; omega
    · have hjn : j = ps.length + 1 := by omega
      have hI := HI.out
      rw [hjn, onesL_done true ps] at hI
      have HI2 := Lib.hid hI
      clear hI HI hjn
      obtain ⟨wa, rfl⟩ : ∃ wa : World, wa = wr := ⟨_, rfl⟩
      go_wp2
      go_loopw [8, 10] (fun vs vk wr => ∃ (t g : Nat) (q : Int), t ≤ s.size ∧ vk = .int .i64 q ∧ Hid (q = (t : Int) - 1) ∧ vs = .slice (some ⟨g, 0, none⟩) (ps.length + 1) (ps.length + 1) ∧ w.heap.size ≤ g ∧ Below w.heap.size w wr ∧ Made wr g (ps.length + 1) ∧ IntsIn wr g 0 (behL true ps ((letsN s).drop t))) (fun _ vk _ => (intOf vk + 1).toNat)
      case atStart => exact ⟨s.size, w.heap.size, _, Nat.le_refl _, rfl, Lib.hid rfl, rfl, Nat.le_refl _, HB.out, HM.out, by rw [List.drop_of_length_le (by rw [HLl.out]; exact Nat.le_refl _)]; exact HI2.out⟩
      case round =>
        obtain ⟨t, g, q, ht, rfl, hq, rfl, hwg, hBt, hMt, hIt⟩ := hrel
        have HBt := Lib.hid hBt
        have HMt := Lib.hid hMt
        have HIt := Lib.hid hIt
        have hgs := hMt.1
        have hzt := hBt.size
        clear hBt hMt hIt HI2 HM HB
        obtain ⟨wt, rfl⟩ : ∃ wt : World, wt = wr := ⟨_, rfl⟩
        by_cases hq0 : (0 : Int) ≤ q
        · obtain ⟨k, rfl⟩ : ∃ k : Nat, q = k := ⟨q.toNat, by omega⟩
          have htk : t = k + 1 := by have := hq.out; omega
          subst htk
          have hks : k < s.size := by omega
          have hksI : (k : Int) < (s.size : Int) := by omega
          have hlb := wordB_gets HWd.out k hks
          have ht0 := letB_true hlb
          have HDr := Lib.hid (letsN_drop hks)
          obtain ⟨c, hc⟩ : ∃ c : Nat, (s[k]).toNat - 48 = c := ⟨_, rfl⟩
          rw [hc] at HDr
          have hcD : c < D := by omega
          have hc3 : c < 3 := by have := HP.out.2.2.1; omega
          have hcc : ((s[k].toNat : Int) - 48) = (c : Int) := by omega
          have HC8 := Lib.hid hcc
          obtain ⟨rest, hrest⟩ : ∃ rest, (letsN s).drop (k + 1) = rest := ⟨_, rfl⟩
          have hrl : rest.length ≤ 4 := by rw [← hrest, List.length_drop, HLl.out]; omega
          rw [hrest] at HDr HIt
          have HRl := Lib.hid hrl
          clear hlb ht0 hc hcc hrest hrl
          have hmk := HMk.out
          go_wp2
          clear hmk
          have hzO : (wt.alloc O).heap.size = wt.heap.size + 1 := by simp
          have HzO := Lib.hid hzO
          clear hzO
          go_loopw [12] (fun vi wr => ∃ (u : Nat) (p : Int), u ≤ ps.length ∧ vi = .int .i64 p ∧ Hid (p = (u : Int) - 1) ∧ Outside wt.heap.size (wt.heap.size + 1) (wt.alloc O) wr ∧ Made wr wt.heap.size (ps.length + 1) ∧ IntsIn wr wt.heap.size 0 (nexL true ps (c :: rest) u)) (fun vi _ => (intOf vi + 1).toNat)
          case atStart => exact ⟨ps.length, _, Nat.le_refl _, rfl, Lib.hid rfl, Outside.refl _ _ _, (HMd.out _).1, by rw [nexL_zero]; exact (HMd.out _).2⟩
          case round =>
            obtain ⟨u, p, hu, rfl, hp, hO, hMu, hIu⟩ := hrel
            have HO := Lib.hid hO
            have HMu := Lib.hid hMu
            have HIu := Lib.hid hIu
            have HBu := Lib.hid (HBt.out.trans (((below1 wt O).mono hzt).trans (hO.below hzt (by rw [HzO.out]; omega))))
            have hg2 := hMu.1
            clear hO hMu hIu
            by_cases hp0 : (0 : Int) ≤ p
            · obtain ⟨j, rfl⟩ : ∃ j : Nat, p = j := ⟨p.toNat, by omega⟩
              have huj : u = j + 1 := by have := hp.out; omega
              subst huj
              have hjl : j < ps.length := by omega
              have hjlI : (j : Int) < (ps.length : Int) := by omega
              have e0 : (0 : Int) ≤ (j : Int) := by omega
              have e1 : (j : Int) + 1 < (ps.length : Int) + 1 := by omega
              have e2 : (j : Int) < (ps.length : Int) + 1 := by omega
              have e3 : (0 : Int) ≤ (k : Int) := by omega
              obtain ⟨b, off, a', c', rfl, hbz, r0, hI⟩ := HT.out.getB HBu.out hh hjl
              have hzl := HP.out.len hjl
              rcases hI with h | ⟨b', o', rfl, _, hb2, hI'⟩
              · rw [h] at hzl; simp at hzl; omega
              have r1 := hI' c (by rw [hzl]; exact hcD)
              have hy := HP.out.entry ps[j] (List.getElem_mem hjl) c
              have HSet := Lib.hid (nexL_set true ps c rest j hjl)
              rw [getD_of (by rw [hzl]; exact hcD)] at hy HSet
              have n1 := HIu.out (j + 1) (by rw [nexL_length]; omega)
              rw [nexL_get, if_pos (Nat.le_refl _), Nat.zero_add] at n1
              have n0 := HIu.out j (by rw [nexL_length]; omega)
              rw [nexL_get, if_neg (by omega), Nat.zero_add] at n0
              have hf := (HMu.out.2 j (by omega)).2
              have v1 := (HO.out.cell (b := g) (o := 0 + j) (by rw [HzO.out]; omega) (.inl hgs)).trans (((below1 wt O).cell (p := ⟨g, 0 + j, none⟩) hgs).trans (HIt.out j (by rw [behL_length]; omega)))
              rw [behL_get, Nat.zero_add] at v1
              have hX := HP.out.sums true (j + 1) (ks := c :: rest) (by have := HRl.out; simp; omega)
              have hY := HP.out.sums true j (ks := rest) (by have := HRl.out; omega)
              have hZ := HP.out.sums true j (ks := c :: rest) (by have := HRl.out; simp; omega)
              have hPr := mul_b100 hy hY
              have hSum : sumS true (ps.drop (j + 1)) (c :: rest) + (ps[j])[c]'(by rw [hzl]; exact hcD) * sumS true (ps.drop j) rest = sumS true (ps.drop j) (c :: rest) := by
                have hd := List.drop_eq_getElem_cons hjl
                rw [hd, (show ∀ x : List Int, sumS true (x :: ps.drop (j + 1)) (c :: rest) = sumS true (ps.drop (j + 1)) (c :: rest) + x.getD c 0 * sumS true (x :: ps.drop (j + 1)) rest from fun x => sumS_weak x _ c rest), getD_of (by rw [hzl]; exact hcD)]
              rw [← hSum] at hZ
              simp only [if_true] at HSet
              obtain ⟨y, hye⟩ : ∃ y, (ps[j])[c]'(by rw [hzl]; exact hcD) = y := ⟨_, rfl⟩
              rw [hye] at r1 hy hPr hZ HSet
              clear hSum hye
              obtain ⟨X, hXe⟩ : ∃ X, sumS true (ps.drop (j + 1)) (c :: rest) = X := ⟨_, rfl⟩
              rw [hXe] at n1 hX hZ HSet
              clear hXe
              obtain ⟨Y, hYe⟩ : ∃ Y, sumS true (ps.drop j) rest = Y := ⟨_, rfl⟩
              rw [hYe] at v1 hY hPr hZ HSet
              clear hYe
              obtain ⟨m, hm⟩ : ∃ m, (ps[j]).length = m := ⟨_, rfl⟩
              have hcm : c < m := by omega
              have hcmI : (c : Int) < (m : Int) := by omega
              rw [hm] at r0
              clear hm hI'
              obtain ⟨Pr, hPre⟩ : ∃ Pr, y * Y = Pr := ⟨_, rfl⟩
              rw [hPre] at hPr hZ
              have k1 : IntKind.i64.wrap (y * Y) = y * Y := IntWalk.i64_in _ (by omega)
              have k2 : IntKind.i64.wrap (X + y * Y) = X + y * Y := IntWalk.i64_in _ (by omega)
              have k3 : IntKind.i64.wrap ((j : Int) + 1) = (j : Int) + 1 := IntWalk.i64_in _ (by omega)
              have k4 : ((j : Int) + 1).toNat = j + 1 := by omega
              have k5 : (0 : Int) ≤ (j : Int) + 1 := by omega
              have k6 : (0 : Int) ≤ (c : Int) := by omega
              have hw8 : IntKind.u8.wrap ((s[k].toNat : Int) - 48) = (c : Int) := by
                rw [HC8.out]
                simp [IntKind.wrap, IntKind.signed, IntKind.bits]
                omega
              have hw9 : ((s[k].toNat : Int) - 48) % 256 = (c : Int) := by rw [HC8.out]; omega
              clear hPre hPr hZ hX hY hy hzl
              go_wp2_with fail
              go_region
              all_goals
                go_wp2
                go_roundw
                case rel =>
                  exact ⟨j, (j : Int) - 1, by omega, rfl, Lib.hid rfl, HO.out.drew.setCell (p := ⟨wt.heap.size, j, none⟩) (Nat.le_refl _) (Nat.lt_succ_self _) _, HMu.out.set _ _, by rw [← HSet.out]; exact IntsIn.upd (w := wr.drew) HIu.out (by rw [nexL_length]; exact HMu.out) (by rw [nexL_length]; omega) _⟩
                case measure => simp [intOf]
            · have hu0 : u = 0 := by have := hp.out; omega
              subst hu0
              have HIe := Lib.hid (show IntsIn wr wt.heap.size 0 (behL true ps ((letsN s).drop k)) from by rw [HDr.out, ← nexL_done]; exact HIu.out)
              go_wp2
              go_roundw
              case rel => exact ⟨k, wt.heap.size, (k : Int) - 1, by omega, rfl, Lib.hid rfl, rfl, hzt, HBu.out, HMu.out, HIe.out⟩
              case measure => simp [intOf]
        · have ht0 : t = 0 := by have := hq.out; omega
          subst ht0
          have c0 := HIt.out 0 (by rw [behL_length]; omega)
          rw [behL_get, List.drop_zero, List.drop_zero, Nat.zero_add] at c0
          have e1 : (0 : Int) < (ps.length : Int) + 1 := by omega
          obtain ⟨R, hR⟩ : ∃ R, sumS true ps (letsN s) = R := ⟨_, rfl⟩
          rw [hR] at c0
          have HR := Lib.hid hR
          clear hR
          go_wp2
          go_ret
          exact ⟨by first | (rw [HR.out]; done) | (rw [HR.out]; rfl), HBt.out⟩

end Go.Proofs.Ytncodnjnndjjaaa
