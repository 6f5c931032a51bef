/-
  The lists of all words of a length, of the program and of its model.
-/
import Derived.Test.YtahkahmhagoacaaDoorStrA
import Derived.Test.YtahkahmhagoacaaDoorWoN
import Derived.Test.YtahkahmhagoacaaDoorLawWordsOf
namespace Go.Proofs.YtahkahmhagoacaaDoor
open Go.RowKit

/-- what a function that returns words alone comes to -/
def WordsPost (ss : List ByteArray) (W : World) (e : Ending) (w' : World) : Prop :=
  ∃ (a : Option Addr) (cap : Nat), e = .returned (.slice a ss.length cap) ∧ Below W.heap.size W w' ∧ NewS W.heap.size w'.heap.size w' a ss

/-- where an outer loop over words stands: so many are done -/
def NextRel (D : Nat) (ws : List ByteArray) (B : Nat) (W : World) (i k : Nat) (v : Value) (wr : World) : Prop :=
  ∃ (a : Option Addr) (l c : Nat), i ≤ ws.length ∧ v = .slice a l c ∧ l = i * D + k ∧ OwnS wr B (.slice a l c) (nextL D (ws.take i) ++ (match ws[i]? with | some s => (longer D s).take k | none => [])) ∧ Below B W wr

theorem next_len {D i k : Nat} {ws : List ByteArray} (hi : i < ws.length) (hk : k ≤ D) : (nextL D (ws.take i) ++ (longer D ws[i]).take k).length = i * D + k := by
  rw [List.length_append, nextL_length, List.length_take, List.length_take, longer_length]
  rw [Nat.min_eq_left (by omega), Nat.min_eq_left hk]

set_option maxRecDepth 100000 in
set_option maxHeartbeats 4000000 in
theorem withNextLetter_c (D : Nat) (hD : 1 ≤ D ∧ D ≤ 3) (a : Option Addr) (cap : Nat) (ws : List ByteArray) (hl : ws.length ≤ 1048576) (hs : ∀ s ∈ ws, s.size ≤ 1048576) (w : World) (hr : SRow w a ws) :
    Calls Tryd.prog 77 #[.int .i64 D, .slice a ws.length cap] w (WordsPost (nextL D ws) w) := by
  have HR := Lib.hid hr
  have HS := Lib.hid hs
  clear hr hs
  go_enter Tryd.func77, Tryd.ntmps77
  go_wp2_with fail
  go_loopw [5, 11] (fun v vi wr => ∃ (i : Nat) (a : Option Addr) (l c : Nat), i ≤ ws.length ∧ vi = .int .i64 i ∧ v = .slice a l c ∧ l = i * D ∧ OwnS wr w.heap.size (.slice a l c) (nextL D (ws.take i)) ∧ Below w.heap.size w wr) (fun _ vi _ => ws.length - (intOf vi).toNat)
  case atStart => exact ⟨0, none, 0, 0, Nat.zero_le _, rfl, rfl, by simp, OwnS.nil _ _, Below.refl _ _⟩
  case round =>
    obtain ⟨i, av, lv, cv, hi, rfl, rfl, hlv, hO, hB⟩ := hrel
    have HO := Lib.hid hO
    have HB := Lib.hid hB
    have HL := Lib.hid hlv
    have hz := hB.size
    clear hO hB hlv
    by_cases hlt : i < ws.length
    · rcases HR.out with h | ⟨b, off, rfl, hb, ht⟩
      · rw [h] at hlt; simp at hlt
      have c0 := ht.below HB.out hb i hlt
      have hsz := HS.out _ (List.getElem_mem hlt)
      have HT := Lib.hid (nextL_take (d := D) hlt)
      obtain ⟨s, hse⟩ : ∃ s, ws[i] = s := ⟨_, rfl⟩
      rw [hse] at c0 hsz HT
      clear hse ht
      obtain ⟨wo, rfl⟩ : ∃ wo : World, wo = wr := ⟨_, rfl⟩
      go_wp2_with fail
      go_loopw [5, 16] (fun v vk wr => ∃ (k : Nat) (a : Option Addr) (l c : Nat), k ≤ D ∧ vk = .int .i64 k ∧ v = .slice a l c ∧ l = i * D + k ∧ OwnS wr w.heap.size (.slice a l c) (nextL D (ws.take i) ++ (longer D s).take k) ∧ Below w.heap.size w wr) (fun _ vk _ => D - (intOf vk).toNat)
      case atStart => exact ⟨0, av, lv, cv, Nat.zero_le _, rfl, rfl, HL.out, by simpa using HO.out, HB.out⟩
      case round =>
        obtain ⟨k, a2, l2, c2, hk, rfl, rfl, hl2, hO2, hB2⟩ := hrel
        have HO2 := Lib.hid hO2
        have HB2 := Lib.hid hB2
        have HL2 := Lib.hid hl2
        have hz2 := hB2.size
        have hfew : l2 ≤ 3145728 := by
          have h1 : i * D ≤ 1048576 * 3 - 3 := by
            have : i * D ≤ 1048575 * 3 := Nat.mul_le_mul (by omega) hD.2
            omega
          omega
        clear hO2 hB2 hl2 c0
        by_cases hkl : k < D
        · have hk0 : (0 : Int) ≤ (k : Int) := by omega
          have hk2 : (k : Int) ≤ 2 := by omega
          have HTk := Lib.hid (longer_take s hkl)
          have HLen := Lib.hid (show l2 = (nextL D (ws.take i) ++ (longer D s).take k).length from by
            rw [HL2.out, List.length_append, nextL_length, List.length_take, List.length_take, longer_length, Nat.min_eq_left (by omega), Nat.min_eq_left hk])
          have hadd : s.size + 1 ≤ 9223372036854775807 := by omega
          have hls := letW_size (k : Int)
          go_wp2_with (first | (go_at_call 89; refine (letterWord_c _ hk0 hk2 _).mono ?_; rintro e w' ⟨rfl, rfl⟩) | (at_builtin; refine wpList_append_strs rfl _ _ rfl w.heap.size (.slice a2 l2 c2) l2 (nextL D (ws.take i) ++ (longer D s).take k) [s ++ letW k] rfl HLen.out (HO2.out.alloc _) _ 1 1 rfl rfl (.inr ⟨_, 0, rfl, strs_one _ _⟩) (by omega) (by simp; omega) ?_))
          intro a3 c3 w3 hO3 hG3 _
          have HO3 := Lib.hid hO3
          have HB3 := Lib.hid (HB2.out.trans (((below1 _ _).mono (by omega)).trans (own_grownS (HO2.out.alloc _) hG3 (by simp; omega))))
          clear hO3 hG3
          go_wp2
          go_roundw
          case rel => exact ⟨k + 1, a3, l2 + 1, c3, by omega, by go_num, rfl, by rw [HL2.out]; omega, by rw [HTk.out]; exact HO3.out, HB3.out⟩
          case measure => simp [intOf]; omega
        · have HTD := Lib.hid (show (longer D s).take D = longer D s from List.take_of_length_le (by rw [longer_length]; exact Nat.le_refl _))
          obtain rfl : k = D := by omega
          have hkk : ¬ (k : Int) < (k : Int) := by omega
          go_wp2
          go_roundw
          case rel => exact ⟨i + 1, a2, l2, c2, by omega, by go_num, rfl, by rw [HL2.out, Nat.add_mul]; omega, by rw [HT.out]; have h := HO2.out; rwa [HTD.out] at h, HB2.out⟩
          case measure => simp [intOf]; omega
    · obtain rfl : i = ws.length := by omega
      go_wp2
      go_ret
      have hO := HO.out
      rw [List.take_length] at hO
      obtain ⟨a', c', he, hle, hN⟩ := hO.newS
      injection he with e1 e2 e3
      subst e1 e3
      exact ⟨av, cv, by first | rfl | (rw [e2]; rfl), HB.out, hN⟩

theorem OwnS.at_ {w : World} {base : Nat} {a : Option Addr} {l c : Nat} {ss : List ByteArray} (h : OwnS w base (.slice a l c) ss) : l = ss.length ∧ NewS base w.heap.size w a ss := by
  obtain ⟨a', c', he, hle, hN⟩ := h.newS
  injection he with e1 e2 e3
  subst e1 e3
  exact ⟨e2, hN⟩

set_option maxRecDepth 100000 in
set_option maxHeartbeats 8000000 in
theorem l01Words_c (D N : Nat) (hD : 1 ≤ D ∧ D ≤ 3) (hN : N ≤ 5) (w : World) :
    Calls Tryd.prog 47 #[.int .i64 D, .int .i64 N] w (WordsPost (wordsL D N) w) := by
  obtain ⟨i0, hi0, hi1, hi2, hi3⟩ := info_parts info_string
  go_enter Tryd.func47, Tryd.ntmps47
  go_wp2_with fail
  go_loopw [1, 5] (fun vn v wr => ∃ (j : Nat) (a : Option Addr) (l c : Nat), j ≤ N ∧ vn = .int .i64 ((N : Int) - j) ∧ v = .slice a l c ∧ l = (wordsL D j).length ∧ NewS w.heap.size wr.heap.size wr a (wordsL D j) ∧ Below w.heap.size w wr) (fun vn _ _ => (intOf vn).toNat)
  case atStart =>
    have h := (OwnS.one w ByteArray.empty).at_
    exact ⟨0, _, 1, 1, Nat.zero_le _, by simp, rfl, rfl, h.2, below1 _ _⟩
  case round =>
    obtain ⟨j, av, lv, cv, hj, rfl, rfl, hlv, hNw, hB⟩ := hrel
    have HB := Lib.hid hB
    have HL := Lib.hid hlv
    have HNw := Lib.hid hNw
    have hz := hB.size
    have hfew := wordsL_few (d := D) (n := j) hD.2 (by omega)
    have HSz := Lib.hid (wordsL_size D j)
    clear hB hlv hNw
    obtain ⟨wo, rfl⟩ : ∃ wo : World, wo = wr := ⟨_, rfl⟩
    by_cases hjn : j < N
    · have hpos : (0 : Int) < (N : Int) - j := by omega
      have hlf : lv ≤ 243 := by have := HL.out; omega
      generalize hws : wordsL D j = ws at HL HNw HSz hfew
      have HWS := Lib.hid hws
      clear hws
      go_wp2_with fail
      go_loopw [6, 7] (fun v vi wr => ∃ (i : Nat) (a : Option Addr) (l c : Nat), i ≤ ws.length ∧ vi = .int .i64 i ∧ v = .slice a l c ∧ l = i * D ∧ OwnS wr wo.heap.size (.slice a l c) (nextL D (ws.take i)) ∧ Below wo.heap.size wo wr) (fun _ vi _ => ws.length - (intOf vi).toNat)
      case atStart => exact ⟨0, _, 0, 0, Nat.zero_le _, rfl, rfl, by simp, OwnS.emptyRow (heap_alloc_new wo _) (Nat.le_refl _), below1 _ _⟩
      case round =>
        obtain ⟨i, a1, l1, c1, hi, rfl, rfl, hl1, hO1, hB1⟩ := hrel
        have HO1 := Lib.hid hO1
        have HB1 := Lib.hid hB1
        have HL1 := Lib.hid hl1
        have hz1 := hB1.size
        clear hO1 hB1 hl1
        obtain ⟨wm, rfl⟩ : ∃ wm : World, wm = wr := ⟨_, rfl⟩
        by_cases hlt : i < ws.length
        · rcases HNw.out with h | ⟨b, rfl, hb1, hb2, hM, ht⟩
          · rw [h] at hlt; simp at hlt
          have HT := Lib.hid (nextL_take (d := D) hlt)
          have hsz : (ws[i]).size ≤ 5 := by have := HSz.out _ (List.getElem_mem hlt); omega
          have c0 := ht i hlt
          rw [Nat.zero_add] at c0
          obtain ⟨s, hse⟩ : ∃ s, ws[i] = s := ⟨_, rfl⟩
          rw [hse] at c0 hsz HT
          have HC0 := Lib.hid c0
          have hlt2 : i < lv := by have := HL.out; omega
          have hlI : (i : Int) < (lv : Int) := by omega
          have hI0 : (0 : Int) ≤ (i : Int) := by omega
          clear hse ht hM c0
          go_wp2_with fail
          go_loopw [6, 8] (fun v vk wr => ∃ (k : Nat) (a : Option Addr) (l c : Nat), k ≤ D ∧ vk = .int .i64 k ∧ v = .slice a l c ∧ l = i * D + k ∧ OwnS wr wo.heap.size (.slice a l c) (nextL D (ws.take i) ++ (longer D s).take k) ∧ Below wo.heap.size wo wr) (fun _ vk _ => D - (intOf vk).toNat)
          case atStart => exact ⟨0, a1, l1, c1, Nat.zero_le _, rfl, rfl, HL1.out, by simpa using HO1.out, HB1.out⟩
          case round =>
            obtain ⟨k, a2, l2, c2, hk, rfl, rfl, hl2, hO2, hB2⟩ := hrel
            have HO2 := Lib.hid hO2
            have HB2 := Lib.hid hB2
            have HL2 := Lib.hid hl2
            have hz2 := hB2.size
            have hfew2 : l2 ≤ 1000 := by
              have h1 : i * D ≤ 243 * 3 := Nat.mul_le_mul (by omega) hD.2
              omega
            have c0 := (hB2.cell (p := ⟨b, i, none⟩) hb2).trans HC0.out
            have hbr : b < wr.heap.size := by omega
            clear hO2 hB2 hl2
            by_cases hkl : k < D
            · have hk0 : (0 : Int) ≤ (k : Int) := by omega
              have hk2 : (k : Int) ≤ 2 := by omega
              have hcv := conv_byte (48 + (k : Int)) (by omega) (by omega)
              have hsum : IntKind.i64.wrap (48 + (k : Int)) = 48 + (k : Int) := IntWalk.i64_in _ (by omega)
              have hu8 : IntKind.u8.wrap (48 + (k : Int)) = 48 + (k : Int) := by
                simp [IntKind.wrap, IntKind.signed, IntKind.bits]
                omega
              have hs63 : ¬ 9223372036854775807 < s.size + 1 := by omega
              have hcs1 := conv_letter (48 + (k : Int)) (wr.alloc (.cells #[.int .u8 (48 + (k : Int))] 5)) wr.heap.size (by go_simp)
              have hcs2 := conv_letter (48 + (k : Int)) (wr.alloc (.cells #[.int .u8 (48 + (k : Int))] 5)).drew wr.heap.size (by go_simp)
              have HTk := Lib.hid (longer_take s hkl)
              have HLen := Lib.hid (show l2 = (nextL D (ws.take i) ++ (longer D s).take k).length from by
                rw [HL2.out, List.length_append, nextL_length, List.length_take, List.length_take, longer_length, Nat.min_eq_left (by omega), Nat.min_eq_left hk])
              go_upto_region 11 with fail
              go_region_law
                ((refine step_append_lies _ (by rfl) _ _ _ (by rfl) wo.heap.size 9 i0 _ 1 16 Tryd.underlying45 hi0 hi1 hi2 hi3 rfl (by omega) (.slice a2 l2 c2) l2 (cellsS (nextL D (ws.take i) ++ (longer D s).take k)) (by rfl) (by have h := HO2.out; unfold OwnS at h; rw [← HLen.out] at h; exact ((h.alloc _).alloc _).drew)
                    ⟨wr.heap.size + 1, 0, none⟩ 1 1 [.string (s ++ ⟨#[UInt8.ofNat (48 + (k : Int)).toNat]⟩)] (by rfl) (by rfl) (World.news_of_block (cs := #[.string (s ++ ⟨#[UInt8.ofNat (48 + (k : Int)).toNat]⟩)]) (t := 9) (fr := (0, 0)) (by have h := heap_alloc_new (wr.alloc (.cells #[.int .u8 (48 + (k : Int))] 5)) (.cells #[.string (s ++ ⟨#[UInt8.ofNat (48 + (k : Int)).toNat]⟩)] 9); rw [World.size_alloc] at h; exact h)) (by simp [Value.oneCell'])
                    (by omega) (by unfold maxLen; omega) (by omega) (by simp; omega) (wr.heap.size + 1 + 1) (by simp) ?_; intro gg cg w2 hown1 hgrow hat hlt2))
              all_goals
                have HB3 := Lib.hid (HB2.out.trans ((Below.drew ((below2 wr (.cells #[.int .u8 (48 + (k : Int))] 5) (.cells #[.string (s ++ ⟨#[UInt8.ofNat (48 + (k : Int)).toNat]⟩)] 9)).mono hz2)).trans (below_of_grown hgrow (fun g h => (HO2.out.lt g h).1) (by simp; omega))))
                have HO3 := Lib.hid (show OwnS w2 wo.heap.size (.slice (some ⟨gg, 0, none⟩) (l2 + 1) cg) (nextL D (ws.take i) ++ (longer D s).take (k + 1)) from by
                  unfold OwnS
                  rw [HTk.out, ← List.append_assoc, List.length_append, ← HLen.out, cellsS_append]
                  exact hown1)
                clear hown1 hgrow hat
                go_wp2
                go_roundw
                case rel => exact ⟨k + 1, some ⟨gg, 0, none⟩, l2 + 1, cg, by omega, by go_num, rfl, by rw [HL2.out]; omega, HO3.out, HB3.out⟩
                case measure => simp [intOf]; omega
            · have HTD := Lib.hid (show (longer D s).take D = longer D s from List.take_of_length_le (by rw [longer_length]; exact Nat.le_refl _))
              obtain rfl : k = D := by omega
              have hkk : ¬ (k : Int) < (k : Int) := by omega
              go_wp2
              go_roundw
              case rel => exact ⟨i + 1, a2, l2, c2, by omega, by go_num, rfl, by rw [HL2.out, Nat.add_mul]; omega, by rw [HT.out]; have h := HO2.out; rwa [HTD.out] at h, HB2.out⟩
              case measure => simp [intOf]; omega
        · obtain rfl : i = ws.length := by omega
          have hge : ¬ (ws.length : Int) < (lv : Int) := by have := HL.out; omega
          have HO := Lib.hid (show OwnS wm wo.heap.size (.slice a1 l1 c1) (wordsL D (j + 1)) from by have h := HO1.out; rw [List.take_length] at h; rw [wordsL, HWS.out]; exact h)
          go_wp2
          go_roundw
          case rel => exact ⟨j + 1, a1, l1, c1, by omega, by first | (congr 1; omega) | go_num, rfl, HO.out.at_.1, HO.out.at_.2.mono hz (Nat.le_refl _), HB.out.trans (HB1.out.mono hz)⟩
          case measure => simp [intOf]; omega
    · obtain rfl : j = N := by omega
      have hnn : ¬ (0 : Int) < (j : Int) - j := by omega
      go_wp2
      go_ret
      exact ⟨av, cv, by first | rfl | (rw [← HL.out]; rfl) | (rw [HL.out]; rfl), HB.out, HNw.out⟩
end Go.Proofs.YtahkahmhagoacaaDoor
