/-
  The contract of the model's list of all words of a length, up to 8 letters.
-/
import Derived.Test.YtolbgdgoambliaaMapV
namespace Go.Proofs.Ytolbgdgoambliaa
open Go.RowKit

theorem wordsL_few8 {d n : Nat} (hd : d ≤ 3) (hn : n ≤ 8) : (wordsL d n).length ≤ 6561 := by
  rw [wordsL_length]
  have h1 : d ^ n ≤ 3 ^ n := Nat.pow_le_pow_left hd n
  have h2 : 3 ^ n ≤ 3 ^ 8 := Nat.pow_le_pow_right (by omega) hn
  have h3 : (3 : Nat) ^ 8 = 6561 := by decide
  omega
set_option maxRecDepth 100000 in
set_option maxHeartbeats 8000000 in
theorem l01Words8_c (D N : Nat) (hD : 1 ≤ D ∧ D ≤ 3) (hN : N ≤ 8) (w : World) :
    Calls Try.prog 43 #[.int .i64 D, .int .i64 N] w (WordsPost (wordsL D N) w) := by
  obtain ⟨i0, hi0, hi1, hi2, hi3⟩ := info_parts info_string
  go_enter Try.func43, Try.ntmps43
  go_wp2_with fail
  go_loopw [1, 5] (fun vn v wr => ∃ (j : Nat) (a : Option Addr) (l c : Nat), j ≤ N ∧ vn = .int .i64 ((N : Int) - j) ∧ v = .slice a l c ∧ l = (wordsL D j).length ∧ NewS w.heap.size wr.heap.size wr a (wordsL D j) ∧ Below w.heap.size w wr) (fun vn _ _ => (intOf vn).toNat)
  case atStart =>
    have h := (OwnS.one w ByteArray.empty).at_
    exact ⟨0, _, 1, 1, Nat.zero_le _, by simp, rfl, rfl, h.2, below1 _ _⟩
  case round =>
    obtain ⟨j, av, lv, cv, hj, rfl, rfl, hlv, hNw, hB⟩ := hrel
    have HB := Lib.hid hB
    have HL := Lib.hid hlv
    have HNw := Lib.hid hNw
    have hz := hB.size
    have hfew := wordsL_few8 (d := D) (n := j) hD.2 (by omega)
    have HSz := Lib.hid (wordsL_size D j)
    clear hB hlv hNw
    obtain ⟨wo, rfl⟩ : ∃ wo : World, wo = wr := ⟨_, rfl⟩
    by_cases hjn : j < N
    · have hpos : (0 : Int) < (N : Int) - j := by omega
      have hlf : lv ≤ 6561 := by have := HL.out; omega
      generalize hws : wordsL D j = ws at HL HNw HSz hfew
      have HWS := Lib.hid hws
      clear hws
      go_wp2_with fail
      go_loopw [6, 7] (fun v vi wr => ∃ (i : Nat) (a : Option Addr) (l c : Nat), i ≤ ws.length ∧ vi = .int .i64 i ∧ v = .slice a l c ∧ l = i * D ∧ OwnS wr wo.heap.size (.slice a l c) (nextL D (ws.take i)) ∧ Below wo.heap.size wo wr) (fun _ vi _ => ws.length - (intOf vi).toNat)
      case atStart => exact ⟨0, _, 0, 0, Nat.zero_le _, rfl, rfl, by simp, OwnS.emptyRow (heap_alloc_new wo _) (Nat.le_refl _), below1 _ _⟩
      case round =>
        obtain ⟨i, a1, l1, c1, hi, rfl, rfl, hl1, hO1, hB1⟩ := hrel
        have HO1 := Lib.hid hO1
        have HB1 := Lib.hid hB1
        have HL1 := Lib.hid hl1
        have hz1 := hB1.size
        clear hO1 hB1 hl1
        obtain ⟨wm, rfl⟩ : ∃ wm : World, wm = wr := ⟨_, rfl⟩
        by_cases hlt : i < ws.length
        · rcases HNw.out with h | ⟨b, rfl, hb1, hb2, hM, ht⟩
          · rw [h] at hlt; simp at hlt
          have HT := Lib.hid (nextL_take (d := D) hlt)
          have hsz : (ws[i]).size ≤ 8 := by have := HSz.out _ (List.getElem_mem hlt); omega
          have c0 := ht i hlt
          rw [Nat.zero_add] at c0
          obtain ⟨s, hse⟩ : ∃ s, ws[i] = s := ⟨_, rfl⟩
          rw [hse] at c0 hsz HT
          have HC0 := Lib.hid c0
          have hlt2 : i < lv := by have := HL.out; omega
          have hlI : (i : Int) < (lv : Int) := by omega
          have hI0 : (0 : Int) ≤ (i : Int) := by omega
          clear hse ht hM c0
          go_wp2_with fail
          go_loopw [6, 8] (fun v vk wr => ∃ (k : Nat) (a : Option Addr) (l c : Nat), k ≤ D ∧ vk = .int .i64 k ∧ v = .slice a l c ∧ l = i * D + k ∧ OwnS wr wo.heap.size (.slice a l c) (nextL D (ws.take i) ++ (longer D s).take k) ∧ Below wo.heap.size wo wr) (fun _ vk _ => D - (intOf vk).toNat)
          case atStart => exact ⟨0, a1, l1, c1, Nat.zero_le _, rfl, rfl, HL1.out, by simpa using HO1.out, HB1.out⟩
          case round =>
            obtain ⟨k, a2, l2, c2, hk, rfl, rfl, hl2, hO2, hB2⟩ := hrel
            have HO2 := Lib.hid hO2
            have HB2 := Lib.hid hB2
            have HL2 := Lib.hid hl2
            have hz2 := hB2.size
            have hfew2 : l2 ≤ 100000 := by
              have h1 : i * D ≤ 6561 * 3 := Nat.mul_le_mul (by omega) hD.2
              omega
            have c0 := (hB2.cell (p := ⟨b, i, none⟩) hb2).trans HC0.out
            have hbr : b < wr.heap.size := by omega
            clear hO2 hB2 hl2
            by_cases hkl : k < D
            · have hk0 : (0 : Int) ≤ (k : Int) := by omega
              have hk2 : (k : Int) ≤ 2 := by omega
              have hcv := conv_byte (48 + (k : Int)) (by omega) (by omega)
              have hsum : IntKind.i64.wrap (48 + (k : Int)) = 48 + (k : Int) := IntWalk.i64_in _ (by omega)
              have hu8 : IntKind.u8.wrap (48 + (k : Int)) = 48 + (k : Int) := by
                simp [IntKind.wrap, IntKind.signed, IntKind.bits]
                omega
              have hs63 : ¬ 9223372036854775807 < s.size + 1 := by omega
              have hcs1 := conv_letter (48 + (k : Int)) (wr.alloc (.cells #[.int .u8 (48 + (k : Int))] 5)) wr.heap.size (by go_simp)
              have hcs2 := conv_letter (48 + (k : Int)) (wr.alloc (.cells #[.int .u8 (48 + (k : Int))] 5)).drew wr.heap.size (by go_simp)
              have HTk := Lib.hid (longer_take s hkl)
              have HLen := Lib.hid (show l2 = (nextL D (ws.take i) ++ (longer D s).take k).length from by
                rw [HL2.out, List.length_append, nextL_length, List.length_take, List.length_take, longer_length, Nat.min_eq_left (by omega), Nat.min_eq_left hk])
              go_upto_region 11 with fail
              go_region_law
                ((refine step_append_lies _ (by rfl) _ _ _ (by rfl) wo.heap.size 9 i0 _ 1 16 Try.underlying26 hi0 hi1 hi2 hi3 rfl (by omega) (.slice a2 l2 c2) l2 (cellsS (nextL D (ws.take i) ++ (longer D s).take k)) (by rfl) (by have h := HO2.out; unfold OwnS at h; rw [← HLen.out] at h; exact ((h.alloc _).alloc _).drew)
                    ⟨wr.heap.size + 1, 0, none⟩ 1 1 [.string (s ++ ⟨#[UInt8.ofNat (48 + (k : Int)).toNat]⟩)] (by rfl) (by rfl) (World.news_of_block (cs := #[.string (s ++ ⟨#[UInt8.ofNat (48 + (k : Int)).toNat]⟩)]) (t := 9) (fr := (0, 0)) (by have h := heap_alloc_new (wr.alloc (.cells #[.int .u8 (48 + (k : Int))] 5)) (.cells #[.string (s ++ ⟨#[UInt8.ofNat (48 + (k : Int)).toNat]⟩)] 9); rw [World.size_alloc] at h; exact h)) (by simp [Value.oneCell'])
                    (by omega) (by unfold maxLen; omega) (by omega) (by simp; omega) (wr.heap.size + 1 + 1) (by simp) ?_; intro gg cg w2 hown1 hgrow hat hlt2))
              all_goals
                have HB3 := Lib.hid (HB2.out.trans ((Below.drew ((below2 wr (.cells #[.int .u8 (48 + (k : Int))] 5) (.cells #[.string (s ++ ⟨#[UInt8.ofNat (48 + (k : Int)).toNat]⟩)] 9)).mono hz2)).trans (below_of_grown hgrow (fun g h => (HO2.out.lt g h).1) (by simp; omega))))
                have HO3 := Lib.hid (show OwnS w2 wo.heap.size (.slice (some ⟨gg, 0, none⟩) (l2 + 1) cg) (nextL D (ws.take i) ++ (longer D s).take (k + 1)) from by
                  unfold OwnS
                  rw [HTk.out, ← List.append_assoc, List.length_append, ← HLen.out, cellsS_append]
                  exact hown1)
                clear hown1 hgrow hat
                go_wp2
                go_roundw
                case rel => exact ⟨k + 1, some ⟨gg, 0, none⟩, l2 + 1, cg, by omega, by go_num, rfl, by rw [HL2.out]; omega, HO3.out, HB3.out⟩
                case measure => simp [intOf]; omega
            · have HTD := Lib.hid (show (longer D s).take D = longer D s from List.take_of_length_le (by rw [longer_length]; exact Nat.le_refl _))
              obtain rfl : k = D := by omega
              have hkk : ¬ (k : Int) < (k : Int) := by omega
              go_wp2
              go_roundw
              case rel => exact ⟨i + 1, a2, l2, c2, by omega, by go_num, rfl, by rw [HL2.out, Nat.add_mul]; omega, by rw [HT.out]; have h := HO2.out; rwa [HTD.out] at h, HB2.out⟩
              case measure => simp [intOf]; omega
        · obtain rfl : i = ws.length := by omega
          have hge : ¬ (ws.length : Int) < (lv : Int) := by have := HL.out; omega
          have HO := Lib.hid (show OwnS wm wo.heap.size (.slice a1 l1 c1) (wordsL D (j + 1)) from by have h := HO1.out; rw [List.take_length] at h; rw [wordsL, HWS.out]; exact h)
          go_wp2
          go_roundw
          case rel => exact ⟨j + 1, a1, l1, c1, by omega, by first | (congr 1; omega) | go_num, rfl, HO.out.at_.1, HO.out.at_.2.mono hz (Nat.le_refl _), HB.out.trans (HB1.out.mono hz)⟩
          case measure => simp [intOf]; omega
    · obtain rfl : j = N := by omega
      have hnn : ¬ (0 : Int) < (j : Int) - j := by omega
      go_wp2
      go_ret
      exact ⟨av, cv, by first | rfl | (rw [← HL.out]; rfl) | (rw [HL.out]; rfl), HB.out, HNw.out⟩
end Go.Proofs.Ytolbgdgoambliaa
