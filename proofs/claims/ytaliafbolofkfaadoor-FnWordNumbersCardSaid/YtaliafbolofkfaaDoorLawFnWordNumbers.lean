/-
  'FnWordNumbers': whatever is drawn, the program and the model say the same, numbers and words undo each other, and the words of a length have consecutive numbers.
-/
import Derived.Test.YtaliafbolofkfaaDoorDrx
import Derived.Test.YtaliafbolofkfaaDoorWnM
namespace Go.Proofs.YtaliafbolofkfaaDoor
open Go.RowKit

theorem BRow.next {w w' : World} {a : Option Addr} {zs : List Int} (h : BRow w.heap.size w a zs) (hb : Below w.heap.size w w') : BRow w'.heap.size w' a zs :=
  (h.same (fun b o hl => hb.cell (p := ⟨b, o, none⟩) hl)).mono hb.size

/-- a pair that a function returns, and leaves alone what was there -/
def Two (v u : Value) (W : World) (e : Ending) (w' : World) : Prop := e = .returned (.tuple #[v, u]) ∧ Below W.heap.size W w'
theorem Two.mk (v u : Value) (W : World) : ∀ e w', (e = .returned (.tuple #[v, u]) ∧ W = w') → Two v u W e w' := by
  rintro e w' ⟨rfl, rfl⟩
  exact ⟨rfl, Below.refl _ _⟩
theorem offs_mono {d : Int} (hd : 1 ≤ d ∧ d ≤ 3) (n : Nat) (hn : n ≤ 5) : offs d (n + 1) ≤ offs d 6 := by
  have hn' : n = 0 ∨ n = 1 ∨ n = 2 ∨ n = 3 ∨ n = 4 ∨ n = 5 := by omega
  have hdd : d = 1 ∨ d = 2 ∨ d = 3 := by omega
  rcases hn' with rfl | rfl | rfl | rfl | rfl | rfl <;> rcases hdd with rfl | rfl | rfl <;> decide

/-- a word of a number: both sides -/
theorem won (d k : Int) (hk : k ≤ 9223372036854775807) : ∃ (s : ByteArray) (c : Int), (c = 2 ∨ (c = 0 ∧ (1 ≤ d ∧ d ≤ 3) ∧ s.size ≤ 5 ∧ wordB d s.data.toList = true ∧ numW d s.data.toList = k)) ∧
    (∀ W : World, Calls Tryd.prog 6 #[.int .i64 d, .int .i64 k] W (Two (.string s) (.int .i64 c) W)) ∧ (∀ W : World, Calls Tryd.prog 7 #[.int .i64 d, .int .i64 k] W (Two (.string s) (.int .i64 c) W)) := by
  cases h1 : inB d 1 3 with
  | false => exact ⟨_, 2, .inl rfl, fun W => (iWoN_1 d k h1 W).mono (Two.mk _ _ W), fun W => (sWoN_1 d k h1 W).mono (Two.mk _ _ W)⟩
  | true =>
    have hd := inB_true h1
    by_cases h0 : k < 0
    · have h2 : inB k 0 (offs d 6 - 1) = false := inB_no (by omega)
      exact ⟨_, 2, .inl rfl, fun W => (iWoN_2 d k h1 h2 W).mono (Two.mk _ _ W), fun W => (sWoN_2 d k h1 h0 W).mono (Two.mk _ _ W)⟩
    · by_cases h6 : k < offs d 6
      · have h2 : inB k 0 (offs d 6 - 1) = true := inB_yes (by omega)
        obtain ⟨n, r, hn, r0, r1, hkr⟩ := offs_split d k (by omega) 6 h6
        have hw := word_same (d := d) hd.1 n 364 r ByteArray.empty (by omega) r0 r1
        rw [← hkr] at hw
        obtain ⟨a, b⟩ := word_num hd n r r0 r1
        have hs := wordS_size d n r ByteArray.empty
        refine ⟨wordI d 364 k ByteArray.empty, 0, .inr ⟨rfl, hd, by rw [hw, hs]; simp; omega, by rw [hw]; exact b, by rw [hw, a, ← hkr]⟩, fun W => (iWoN_3 d k h1 h2 W).mono (Two.mk _ _ W), fun W => (sWoN_3 d k h1 (by omega) hk W).mono ?_⟩
        rintro e w' ⟨hc, hB⟩
        rcases hc with ⟨hge, _⟩ | ⟨n', r', hn', r0', r1', hkr', rfl⟩
        · omega
        · have hw' := word_same (d := d) hd.1 n' 364 r' ByteArray.empty (by omega) r0' r1'
          rw [← hkr'] at hw'
          exact ⟨by rw [hw'], hB⟩
      · have h2 : inB k 0 (offs d 6 - 1) = false := inB_no (by omega)
        refine ⟨{ data := #[] }, 2, .inl rfl, fun W => (iWoN_2 d k h1 h2 W).mono (Two.mk _ _ W), fun W => (sWoN_3 d k h1 (by omega) hk W).mono ?_⟩
        rintro e w' ⟨hc, hB⟩
        rcases hc with ⟨_, rfl⟩ | ⟨n', r', hn', r0', r1', hkr', rfl⟩
        · exact ⟨rfl, hB⟩
        · have hm := offs_mono hd n' hn'
          have e : offs d (n' + 1) = offs d n' + d ^ n' := rfl
          omega

/-- a number of a word: both sides -/
theorem nuw (d : Int) (s : ByteArray) (hs : s.size ≤ maxLen) : ∃ (x c : Int), ((1 ≤ d ∧ d ≤ 3) → s.size ≤ 5 → wordB d s.data.toList = true → c = 0 ∧ x = numW d s.data.toList) ∧
    (∀ W : World, Calls Tryd.prog 8 #[.int .i64 d, .string s] W (Two (.int .i64 x) (.int .i64 c) W)) ∧ (∀ W : World, Calls Tryd.prog 10 #[.int .i64 d, .string s] W (Two (.int .i64 x) (.int .i64 c) W)) := by
  by_cases hb : ¬ (1 ≤ d ∧ d ≤ 3) ∨ ¬ s.size ≤ 5 ∨ wordB d s.data.toList = false
  · exact ⟨0, 2, fun h1 h2 h3 => by rcases hb with h | h | h <;> simp_all, fun W => (iNum_bad d s hs hb W).mono (Two.mk _ _ W), fun W => (sNum_bad d s hs hb W).mono (Two.mk _ _ W)⟩
  · have h1 : 1 ≤ d ∧ d ≤ 3 := Classical.byContradiction fun h => hb (.inl h)
    have h2 : s.size ≤ 5 := Classical.byContradiction fun h => hb (.inr (.inl h))
    have h3 : wordB d s.data.toList = true := by
      cases h : wordB d s.data.toList with
      | true => rfl
      | false => exact absurd (.inr (.inr h)) hb
    exact ⟨numW d s.data.toList, 0, fun _ _ _ => ⟨rfl, rfl⟩, fun W => (iNum_good d s h1 h2 h3 W).mono (Two.mk _ _ W), fun W => (sNum_good d s h1 h2 h3 W).mono (Two.mk _ _ W)⟩

/-- words of a length: both sides -/
theorem wof (d n : Int) : ∃ (ss : List ByteArray) (c : Int), ss.length ≤ 243 ∧ (∃ x, ∀ k (h : k < ss.length), (1 ≤ d ∧ d ≤ 3) ∧ ss[k].size ≤ 5 ∧ wordB d ss[k].data.toList = true ∧ numW d ss[k].data.toList = x + k) ∧
    (∀ W : World, Calls Tryd.prog 12 #[.int .i64 d, .int .i64 n] W (StrPost ss c W)) ∧ (∀ W : World, Calls Tryd.prog 13 #[.int .i64 d, .int .i64 n] W (StrPost ss c W)) := by
  cases h1 : inB d 1 3 with
  | false => exact ⟨[], 2, by simp, ⟨0, fun k h => by simp at h⟩, fun W => iWordsOf_1 d n W h1, fun W => sWordsOf_1 d n W h1⟩
  | true =>
    cases h2 : inB n 0 5 with
    | false => exact ⟨[], 2, by simp, ⟨0, fun k h => by simp at h⟩, fun W => iWordsOf_2 d n W h1 h2, fun W => sWordsOf_2 d n W h1 h2⟩
    | true =>
      have hd := inB_true h1
      have hn := inB_true h2
      obtain ⟨D, rfl⟩ : ∃ D : Nat, d = D := ⟨d.toNat, by omega⟩
      obtain ⟨N, rfl⟩ : ∃ N : Nat, n = N := ⟨n.toNat, by omega⟩
      have hc := chk_words (d := D) (n := N) (by omega) (by omega)
      exact ⟨wordsL D N, 0, wordsL_few (by omega) (by omega), ⟨offs D N, fun k h => ⟨hd, chk_at _ _ _ hc k h⟩⟩, fun W => iWordsOf_3 D N W (by omega) (by omega), fun W => sWordsOf_3 D N W (by omega) (by omega)⟩

set_option maxRecDepth 100000 in
theorem words5_c (a1 a2 : Option Addr) (c1 c2 : Nat) (ss : List ByteArray) (hl : ss.length ≤ 1048576) (w : World) (h1 : SRow w a1 ss) (h2 : SRow w a2 ss) :
    Calls Tryd.prog 14 #[.slice a1 ss.length c1, .slice a2 ss.length c2] w fun e w' => e = .returned (.bool true) ∧ Below w.heap.size w w' := by
  have H1 := Lib.hid h1
  have H2 := Lib.hid h2
  clear h1 h2
  go_enter Tryd.func14, Tryd.ntmps14
  go_wp2
  go_loopw [5] (fun vi wr => ∃ k : Nat, k ≤ ss.length ∧ vi = .int .i64 k ∧ Below w.heap.size w wr) (fun vi _ => ss.length - (intOf vi).toNat)
  case atStart => exact ⟨0, Nat.zero_le _, rfl, Below.refl _ _⟩
  case round =>
    obtain ⟨k, hk, rfl, hB⟩ := hrel
    by_cases hlt : k < ss.length
    · rcases H1.out with h | ⟨b1, o1, rfl, hb1, t1⟩
      · rw [h] at hlt; simp at hlt
      rcases H2.out with h | ⟨b2, o2, rfl, hb2, t2⟩
      · rw [h] at hlt; simp at hlt
      have d1 := t1.below hB hb1 k hlt
      have d2 := t2.below hB hb2 k hlt
      have hE := str_neq_same (ss[k])
      generalize ss[k] = s at d1 d2 hE
      have HB := Lib.hid hB
      clear hB t1 t2
      have e0 : (0 : Int) ≤ (k : Int) := by omega
      have e1 : (k : Int) < (ss.length : Int) := by omega
      go_wp2
      go_quiet (fail)
      go_wp2
      go_roundw
      case rel => exact ⟨k + 1, by omega, by go_num, ⟨HB.out.os, HB.out.tape, HB.out.output, HB.out.size, HB.out.block⟩⟩
      case measure => simp [intOf]; omega
    · go_wp2
      go_ret
      exact ⟨rfl, hB⟩

set_option maxRecDepth 100000 in
set_option maxHeartbeats 16000000 in
theorem law_FnWordNumbers (a : Option Addr) (cap : Nat) (zs : List Int) (w : World) (hr : BRow w.heap.size w a zs) (hz : ∀ z ∈ zs, 0 ≤ z ∧ z ≤ 255) :
    Calls Tryd.prog 3 #[.slice a zs.length cap] w fun e w' => e = .returned (.bool true) ∧ Below w.heap.size w w' := by
  have HR := Lib.hid hr
  have HZ := Lib.hid hz
  clear hr hz
  go_enter Tryd.func3, Tryd.ntmps3
  by_cases hl : zs.length ≤ 4096
  · have HL := Lib.hid hl
    have hlb : decide (4096 < (zs.length : Int)) = false := by simp only [decide_eq_false_iff_not]; omega
    go_wp2_with fail
    refine (big_c a cap zs.length w).mono ?_
    rw [hlb]
    rintro e w0 ⟨rfl, rfl⟩
    clear hlb hl
    go_wp2_with fail
    refine (drawWordOfNumber_c a cap zs w HR.out HZ.out HL.out).mono ?_
    rintro e w1 ⟨v, u, rfl, ⟨d, _, rfl⟩, ⟨k, hk, rfl⟩, hb1⟩
    obtain ⟨s, c, hc, hI, hS⟩ := won d k hk.2
    have B1 := Lib.hid hb1
    have HI := Lib.hid hI
    have HSp := Lib.hid hS
    have HC := Lib.hid hc
    clear hb1 hI hS hc
    go_wp2_with fail
    refine (HI.out _).mono ?_
    rintro e w2 ⟨rfl, hb2⟩
    have B2 := Lib.hid (B1.out.trans (hb2.mono B1.out.size))
    clear hb2
    go_wp2_with fail
    refine (HSp.out _).mono ?_
    rintro e w3 ⟨rfl, hb3⟩
    have B3 := Lib.hid (B2.out.trans (hb3.mono B2.out.size))
    clear hb3
    have hst := str_same s
    have hst2 := str_neq_same s
    rcases HC.out with rfl | ⟨rfl, hd, hs5, hsw, hsn⟩
    · have BX := B3
      have R2 := Lib.hid (HR.out.next BX.out)
      go_wp2_with fail
      refine (drawNumberOfWord_c a cap zs _ R2.out HZ.out HL.out).mono ?_
      rintro e w5 ⟨v, u, rfl, ⟨d2, _, rfl⟩, ⟨s2, hs2, rfl⟩, hb5⟩
      obtain ⟨x2, c2, _, hI2, hS2⟩ := nuw d2 s2 (by unfold maxLen; omega)
      have B5 := Lib.hid (BX.out.trans (hb5.mono BX.out.size))
      have HI2 := Lib.hid hI2
      have HS2 := Lib.hid hS2
      clear hb5 hI2 hS2
      go_wp2_with fail
      refine (HI2.out _).mono ?_
      rintro e w6 ⟨rfl, hb6⟩
      have B6 := Lib.hid (B5.out.trans (hb6.mono B5.out.size))
      clear hb6
      go_wp2_with fail
      refine (HS2.out _).mono ?_
      rintro e w7 ⟨rfl, hb7⟩
      have B7 := Lib.hid (B6.out.trans (hb7.mono B6.out.size))
      have R7 := Lib.hid (HR.out.next B7.out)
      clear hb7
      go_wp2_with fail
      refine (drawWordsOf_c a cap zs _ R7.out HZ.out HL.out).mono ?_
      rintro e w8 ⟨v, u, rfl, ⟨d3, _, rfl⟩, ⟨n3, _, rfl⟩, hb8⟩
      obtain ⟨ss, c3, hl3, ⟨x3, hx3⟩, hI3, hS3⟩ := wof d3 n3
      have B8 := Lib.hid (B7.out.trans (hb8.mono B7.out.size))
      have HI3 := Lib.hid hI3
      have HS3 := Lib.hid hS3
      have HX3 := Lib.hid hx3
      clear hb8 hI3 hS3 hx3
      go_wp2_with fail
      refine (HI3.out _).mono ?_
      rintro e w9 ⟨a9, k9, rfl, hb9, hN9⟩
      have B9 := Lib.hid (B8.out.trans (hb9.mono B8.out.size))
      have K9 := Lib.hid hN9.rowB
      clear hb9 hN9
      go_wp2_with fail
      refine (HS3.out _).mono ?_
      rintro e w10 ⟨a10, k10, rfl, hb10, hN10⟩
      have B10 := Lib.hid (B9.out.trans (hb10.mono B9.out.size))
      have K10 := Lib.hid (K9.out.below hb10 (Nat.le_refl _))
      have hz10 := hb10.size
      have M10 := Lib.hid hN10.row
      clear hb10 hN10
      go_wp2_with fail
      refine (words5_c a9 a10 k9 k10 ss (by omega) _ (K10.out.row hz10) M10.out).mono ?_
      rintro e w11 ⟨rfl, hb11⟩
      have B11 := Lib.hid (B10.out.trans (hb11.mono B10.out.size))
      have K11 := Lib.hid ((K10.out.below hb11 hz10).row (Nat.le_trans hz10 hb11.size))
      clear hb11 hz10
      go_wp2_with fail
      go_loopw [23] (fun vi wr => ∃ k : Nat, 1 ≤ k ∧ vi = .int .i64 k ∧ wr = w11 ∧ k ≤ 244) (fun vi _ => 300 - (intOf vi).toNat)
      case atStart => exact ⟨1, Nat.le_refl _, rfl, rfl, by omega⟩
      case round =>
        obtain ⟨k4, hk4, rfl, rfl, hk5⟩ := hrel
        obtain ⟨j, rfl⟩ : ∃ j, k4 = j + 1 := ⟨k4 - 1, by omega⟩
        by_cases hlt : j + 1 < ss.length
        · rcases K11.out with h | ⟨b, off, rfl, hbs, ht⟩
          · rw [h] at hlt; simp at hlt
          have t1 := ht j (by omega)
          have t2 := ht (j + 1) hlt
          obtain ⟨⟨q1, q2⟩, f1, f2, f3⟩ := HX3.out j (by omega)
          obtain ⟨_, g1, g2, g3⟩ := HX3.out (j + 1) hlt
          have C1 := fun W => iNum_good d3 ss[j] ⟨q1, q2⟩ f1 f2 W
          have C2 := fun W => iNum_good d3 ss[j + 1] ⟨q1, q2⟩ g1 g2 W
          have hy := num_bd d3 ⟨q1, q2⟩ _ f2 ss[j].data.toList.length (Nat.le_refl _) (by simpa using f1)
          rw [List.take_length] at hy
          rw [f3] at C1 hy
          rw [g3] at C2
          generalize ss[j] = s3 at t1 C1
          generalize ss[j + 1] = s4 at t2 C2
          obtain ⟨y, hye⟩ : ∃ y : Int, x3 + (j : Int) = y := ⟨_, rfl⟩
          rw [show x3 + ((j + 1 : Nat) : Int) = y + 1 by omega] at C2
          rw [hye] at C1 hy
          have HC1 := Lib.hid C1
          have HC2 := Lib.hid C2
          obtain ⟨y0, y1⟩ := hy
          clear C1 C2 hye f1 f2 f3 g1 g2 g3 ht
          have eI : ((j + 1 : Nat) : Int) - 1 = (j : Int) := by omega
          have e0 : (0 : Int) ≤ (j : Int) := by omega
          have e1 : (j : Int) < (ss.length : Int) := by omega
          have e2 : (0 : Int) ≤ ((j + 1 : Nat) : Int) := by omega
          have e3 : ((j + 1 : Nat) : Int) < (ss.length : Int) := by omega
          go_wp2_with fail
          refine (HC1.out _).mono ?_
          rintro e w12 ⟨rfl, rfl⟩
          go_wp2_with fail
          refine (HC2.out _).mono ?_
          rintro e w13 ⟨rfl, rfl⟩
          go_wp2
          go_roundw
          case rel => exact ⟨j + 2, by omega, by go_num, trivial, by omega⟩
          case measure => simp [intOf]; omega
        · have e3 : ¬ ((j + 1 : Nat) : Int) < (ss.length : Int) := by omega
          go_wp2
          go_ret
          exact ⟨rfl, B11.out⟩
    · have hN := fun W => iNum_good d s hd hs5 hsw W
      rw [hsn] at hN
      have HN := Lib.hid hN
      clear hN
      go_wp2_with fail
      refine (HN.out _).mono ?_
      rintro e w4 ⟨rfl, rfl⟩
      have BX := B3
      have R2 := Lib.hid (HR.out.next BX.out)
      go_wp2_with fail
      refine (drawNumberOfWord_c a cap zs _ R2.out HZ.out HL.out).mono ?_
      rintro e w5 ⟨v, u, rfl, ⟨d2, _, rfl⟩, ⟨s2, hs2, rfl⟩, hb5⟩
      obtain ⟨x2, c2, _, hI2, hS2⟩ := nuw d2 s2 (by unfold maxLen; omega)
      have B5 := Lib.hid (BX.out.trans (hb5.mono BX.out.size))
      have HI2 := Lib.hid hI2
      have HS2 := Lib.hid hS2
      clear hb5 hI2 hS2
      go_wp2_with fail
      refine (HI2.out _).mono ?_
      rintro e w6 ⟨rfl, hb6⟩
      have B6 := Lib.hid (B5.out.trans (hb6.mono B5.out.size))
      clear hb6
      go_wp2_with fail
      refine (HS2.out _).mono ?_
      rintro e w7 ⟨rfl, hb7⟩
      have B7 := Lib.hid (B6.out.trans (hb7.mono B6.out.size))
      have R7 := Lib.hid (HR.out.next B7.out)
      clear hb7
      go_wp2_with fail
      refine (drawWordsOf_c a cap zs _ R7.out HZ.out HL.out).mono ?_
      rintro e w8 ⟨v, u, rfl, ⟨d3, _, rfl⟩, ⟨n3, _, rfl⟩, hb8⟩
      obtain ⟨ss, c3, hl3, ⟨x3, hx3⟩, hI3, hS3⟩ := wof d3 n3
      have B8 := Lib.hid (B7.out.trans (hb8.mono B7.out.size))
      have HI3 := Lib.hid hI3
      have HS3 := Lib.hid hS3
      have HX3 := Lib.hid hx3
      clear hb8 hI3 hS3 hx3
      go_wp2_with fail
      refine (HI3.out _).mono ?_
      rintro e w9 ⟨a9, k9, rfl, hb9, hN9⟩
      have B9 := Lib.hid (B8.out.trans (hb9.mono B8.out.size))
      have K9 := Lib.hid hN9.rowB
      clear hb9 hN9
      go_wp2_with fail
      refine (HS3.out _).mono ?_
      rintro e w10 ⟨a10, k10, rfl, hb10, hN10⟩
      have B10 := Lib.hid (B9.out.trans (hb10.mono B9.out.size))
      have K10 := Lib.hid (K9.out.below hb10 (Nat.le_refl _))
      have hz10 := hb10.size
      have M10 := Lib.hid hN10.row
      clear hb10 hN10
      go_wp2_with fail
      refine (words5_c a9 a10 k9 k10 ss (by omega) _ (K10.out.row hz10) M10.out).mono ?_
      rintro e w11 ⟨rfl, hb11⟩
      have B11 := Lib.hid (B10.out.trans (hb11.mono B10.out.size))
      have K11 := Lib.hid ((K10.out.below hb11 hz10).row (Nat.le_trans hz10 hb11.size))
      clear hb11 hz10
      go_wp2_with fail
      go_loopw [23] (fun vi wr => ∃ k : Nat, 1 ≤ k ∧ vi = .int .i64 k ∧ wr = w11 ∧ k ≤ 244) (fun vi _ => 300 - (intOf vi).toNat)
      case atStart => exact ⟨1, Nat.le_refl _, rfl, rfl, by omega⟩
      case round =>
        obtain ⟨k4, hk4, rfl, rfl, hk5⟩ := hrel
        obtain ⟨j, rfl⟩ : ∃ j, k4 = j + 1 := ⟨k4 - 1, by omega⟩
        by_cases hlt : j + 1 < ss.length
        · rcases K11.out with h | ⟨b, off, rfl, hbs, ht⟩
          · rw [h] at hlt; simp at hlt
          have t1 := ht j (by omega)
          have t2 := ht (j + 1) hlt
          obtain ⟨⟨q1, q2⟩, f1, f2, f3⟩ := HX3.out j (by omega)
          obtain ⟨_, g1, g2, g3⟩ := HX3.out (j + 1) hlt
          have C1 := fun W => iNum_good d3 ss[j] ⟨q1, q2⟩ f1 f2 W
          have C2 := fun W => iNum_good d3 ss[j + 1] ⟨q1, q2⟩ g1 g2 W
          have hy := num_bd d3 ⟨q1, q2⟩ _ f2 ss[j].data.toList.length (Nat.le_refl _) (by simpa using f1)
          rw [List.take_length] at hy
          rw [f3] at C1 hy
          rw [g3] at C2
          generalize ss[j] = s3 at t1 C1
          generalize ss[j + 1] = s4 at t2 C2
          obtain ⟨y, hye⟩ : ∃ y : Int, x3 + (j : Int) = y := ⟨_, rfl⟩
          rw [show x3 + ((j + 1 : Nat) : Int) = y + 1 by omega] at C2
          rw [hye] at C1 hy
          have HC1 := Lib.hid C1
          have HC2 := Lib.hid C2
          obtain ⟨y0, y1⟩ := hy
          clear C1 C2 hye f1 f2 f3 g1 g2 g3 ht
          have eI : ((j + 1 : Nat) : Int) - 1 = (j : Int) := by omega
          have e0 : (0 : Int) ≤ (j : Int) := by omega
          have e1 : (j : Int) < (ss.length : Int) := by omega
          have e2 : (0 : Int) ≤ ((j + 1 : Nat) : Int) := by omega
          have e3 : ((j + 1 : Nat) : Int) < (ss.length : Int) := by omega
          go_wp2_with fail
          refine (HC1.out _).mono ?_
          rintro e w12 ⟨rfl, rfl⟩
          go_wp2_with fail
          refine (HC2.out _).mono ?_
          rintro e w13 ⟨rfl, rfl⟩
          go_wp2
          go_roundw
          case rel => exact ⟨j + 2, by omega, by go_num, trivial, by omega⟩
          case measure => simp [intOf]; omega
        · have e3 : ¬ ((j + 1 : Nat) : Int) < (ss.length : Int) := by omega
          go_wp2
          go_ret
          exact ⟨rfl, B11.out⟩
  · have hlb : decide (4096 < (zs.length : Int)) = true := by simp only [decide_eq_true_eq]; omega
    go_wp2_with fail
    refine (big_c a cap zs.length w).mono ?_
    rw [hlb]
    rintro e w0 ⟨rfl, rfl⟩
    go_wp2
    go_ret
    exact ⟨rfl, Below.refl _ _⟩
end Go.Proofs.YtaliafbolofkfaaDoor
