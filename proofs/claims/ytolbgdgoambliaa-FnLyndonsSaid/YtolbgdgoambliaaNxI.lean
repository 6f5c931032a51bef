/-
  Contracts of slices.BinarySearch at strings and of the program's NextLyndon.
-/
import Derived.Test.YtolbgdgoambliaaNxS
import Derived.Test.YtolbgdgoambliaaLynU
namespace Go.Proofs.Ytolbgdgoambliaa
open Go.RowKit

theorem cmpIsNaN_c (x : ByteArray) (w : World) : Calls Try.prog 62 #[.string x] w fun e w' => e = .returned (.bool false) ∧ w = w' := by
  go_enter Try.func62, Try.ntmps62
  go_wp2
  go_ret
  exact ⟨by simp, rfl⟩
theorem slicesIsNaN_c (x : ByteArray) (w : World) : Calls Try.prog 58 #[.string x] w fun e w' => e = .returned (.bool false) ∧ w = w' := by
  go_enter Try.func58, Try.ntmps58
  go_wp2
  go_ret
  exact ⟨by simp, rfl⟩
theorem cmpLess_c (x y : ByteArray) (w : World) : Calls Try.prog 57 #[.string x, .string y] w fun e w' => e = .returned (.bool (ltS x y)) ∧ w = w' := by
  have HN := Lib.hid (cmpIsNaN_c x w)
  have HM := Lib.hid (cmpIsNaN_c y w)
  go_enter Try.func57, Try.ntmps57
  go_wp2_with (first | (go_at_call 62; (first | refine HN.out.mono ?_ | refine HM.out.mono ?_); rintro e w' ⟨rfl, rfl⟩))
  go_ret
  exact ⟨by first | rfl | simp [ltS], rfl⟩
set_option maxHeartbeats 1000000 in
theorem binStr_c (b cap : Nat) (ss : List ByteArray) (hl : ss.length ≤ 1048576) (x : ByteArray) (k : Nat) (hk : k ≤ ss.length) (f : Bool) (h1 : ∀ t (h : t < ss.length), t < k → ltS ss[t] x = true) (h2 : ∀ t (h : t < ss.length), k ≤ t → ltS ss[t] x = false)
    (hf1 : f = true → ∃ h : k < ss.length, ss[k] = x) (hf0 : f = false → ∀ h : k < ss.length, ss[k] ≠ x) (w : World) (hb : b < w.heap.size) (ht : StrsIn w b 0 ss) :
    Calls Try.prog 45 #[.slice (some ⟨b, 0, none⟩) ss.length cap, .string x] w fun e w' => e = .returned (.tuple #[.int .i64 k, .bool f]) ∧ Below w.heap.size w w' := by
  have HT := Lib.hid ht
  have H1 := Lib.hid h1
  have H2 := Lib.hid h2
  have HF1 := Lib.hid hf1
  have HF0 := Lib.hid hf0
  clear ht h1 h2 hf1 hf0
  go_enter Try.func45, Try.ntmps45
  go_wp2
  go_loopw [7, 8] (fun v7 v8 wr => ∃ lo hi : Nat, v7 = .int .i64 lo ∧ v8 = .int .i64 hi ∧ lo ≤ k ∧ k ≤ hi ∧ hi ≤ ss.length ∧ Below w.heap.size w wr) (fun v7 v8 _ => (intOf v8).toNat - (intOf v7).toNat)
  case atStart => exact ⟨0, ss.length, rfl, rfl, Nat.zero_le _, hk, Nat.le_refl _, Below.refl _ _⟩
  case round =>
    obtain ⟨lo, hi, rfl, rfl, hlk, hkh, hin, hB⟩ := hrel
    have HB := Lib.hid hB
    have hTr := hB.size
    clear hB
    by_cases hlt : lo < hi
    · have hm : (lo + hi) / 2 < ss.length := by omega
      have c0 := (HT.out.below HB.out hb) ((lo + hi) / 2) hm
      rw [Nat.zero_add] at c0
      have em : ((lo : Int) + (hi : Int)) / 2 = (((lo + hi) / 2 : Nat) : Int) := by omega
      have Em := Lib.hid em
      have HL := Lib.hid (show Calls Try.prog 57 #[.string ss[(lo + hi) / 2], .string x] wr _ from cmpLess_c _ x wr)
      have HL2 := Lib.hid (show Calls Try.prog 57 #[.string ss[(lo + hi) / 2], .string x] wr.drew _ from cmpLess_c _ x wr.drew)
      have hbr : b < wr.heap.size := by omega
      clear em
      by_cases hkm : (lo + hi) / 2 < k
      · have hv := H1.out _ hm hkm
        rw [hv] at HL HL2
        clear hv
        generalize ss[(lo + hi) / 2] = v at c0 HL HL2
        go_wp2_with (first | (go_at_call 57; (first | refine HL.out.mono ?_ | refine HL2.out.mono ?_); rintro e w' ⟨rfl, rfl⟩))
        go_roundw
        case rel => exact ⟨(lo + hi) / 2 + 1, hi, by rw [Em.out]; go_num, rfl, by omega, hkh, hin, by first | exact HB.out | exact HB.out.drew⟩
        case measure => simp [intOf]; omega
      · have hv := H2.out _ hm (by omega)
        rw [hv] at HL HL2
        clear hv
        generalize ss[(lo + hi) / 2] = v at c0 HL HL2
        go_wp2_with (first | (go_at_call 57; (first | refine HL.out.mono ?_ | refine HL2.out.mono ?_); rintro e w' ⟨rfl, rfl⟩))
        go_roundw
        case rel => exact ⟨lo, (lo + hi) / 2, rfl, by rw [Em.out], hlk, by omega, by omega, by first | exact HB.out | exact HB.out.drew⟩
        case measure => simp [intOf]; omega
    · obtain rfl : lo = k := by omega
      obtain rfl : hi = lo := by omega
      by_cases hn : hi < ss.length
      · have c0 := (HT.out.below HB.out hb) hi hn
        rw [Nat.zero_add] at c0
        have hbr : b < wr.heap.size := by omega
        have hnI : (hi : Int) < (ss.length : Int) := by omega
        cases f with
        | true =>
          obtain ⟨_, he⟩ := HF1.out rfl
          rw [he] at c0
          have hxx : (x.toList == x.toList) = true := by simp
          go_wp2_with (first | (go_at_call 58; refine (slicesIsNaN_c _ _).mono ?_; rintro e w' ⟨rfl, rfl⟩))
          go_ret2
          exact ⟨rfl, by first | exact HB.out | exact HB.out.drew⟩
        | false =>
          have hne := HF0.out rfl hn
          generalize ss[hi] = v at c0 hne
          have hne2 : (v.toList == x.toList) = false := by
            rw [beq_eq_false_iff_ne]
            exact fun e => hne (toList_inj e)
          have hne3 : ¬ v.toList = x.toList := fun e => hne (toList_inj e)
          clear hne
          go_wp2_with (first | (go_at_call 58; refine (slicesIsNaN_c _ _).mono ?_; rintro e w' ⟨rfl, rfl⟩))
          go_ret2
          exact ⟨rfl, by first | exact HB.out | exact HB.out.drew⟩
      · obtain rfl : hi = ss.length := by omega
        obtain rfl : f = false := by
          cases f with
          | false => rfl
          | true => obtain ⟨h, _⟩ := HF1.out rfl; exact absurd h hn
        go_wp2
        go_ret2
        exact ⟨rfl, HB.out⟩

theorem iNextLyndon_1 (d n : Int) (x : ByteArray) (hs : x.size ≤ maxLen) (h : shortB d 8 x = false ∨ inB n 1 8 = false) (w : World) :
    Calls Try.prog 20 #[.int .i64 d, .int .i64 n, .string x] w (TxPost { data := #[] } 2 w) := by
  have HWo := Lib.hid (isShortWord_c d x hs w)
  have HIn := Lib.hid (isBetween_c n 1 8 w)
  cases h1 : shortB d 8 x with
  | false =>
    rw [h1] at HWo
    clear h h1
    go_enter Try.func20, Try.ntmps20
    go_wp2_with (first | (go_at_call 26; refine HWo.out.mono ?_; rintro e w' ⟨rfl, rfl⟩))
    go_ret2
    exact ⟨rfl, Below.refl _ _⟩
  | true =>
    have h2 := h.resolve_left (by rw [h1]; simp)
    rw [h1] at HWo
    rw [h2] at HIn
    clear h h1 h2
    go_enter Try.func20, Try.ntmps20
    go_wp2_with (first | (go_at_call 26; refine HWo.out.mono ?_; rintro e w' ⟨rfl, rfl⟩) | (go_at_call 37; refine HIn.out.mono ?_; rintro e w' ⟨rfl, rfl⟩))
    go_ret2
    exact ⟨rfl, Below.refl _ _⟩
set_option maxHeartbeats 1000000 in
theorem iNextLyndon_2 (D N : Nat) (hn : 1 ≤ N ∧ N ≤ 8) (x : ByteArray) (hs : x.size ≤ maxLen) (h1 : shortB (D : Int) 8 x = true) (ss : List ByteArray) (hss : ss ≠ []) (hl : ss.length ≤ 2000)
    (hU : ∀ w : World, Calls Try.prog 39 #[.int .i64 D, .int .i64 N] w fun e w' => ∃ (a : Option Addr) (c : Nat), e = .returned (.slice a ss.length c) ∧ ss.length ≤ c ∧ Below w.heap.size w w' ∧ NewS w.heap.size w'.heap.size w' a ss)
    (k : Nat) (hk : k ≤ ss.length) (f : Bool) (k1 : ∀ t (h : t < ss.length), t < k → ltS ss[t] x = true) (k2 : ∀ t (h : t < ss.length), k ≤ t → ltS ss[t] x = false)
    (hf1 : f = true → ∃ h : k < ss.length, ss[k] = x) (hf0 : f = false → ∀ h : k < ss.length, ss[k] ≠ x) (o : Option ByteArray) (ho : ss[if f = true then k + 1 else k]? = o) (r : ByteArray) (e : Int) (hr : o.getD ByteArray.empty = r) (he : (if o.isSome = true then (0 : Int) else 4) = e) (w : World) :
    Calls Try.prog 20 #[.int .i64 D, .int .i64 N, .string x] w (TxPost r e w) := by
  have HR := Lib.hid hr
  have HE := Lib.hid he
  clear hr he
  have HWo := Lib.hid (isShortWord_c (D : Int) x hs w)
  have HIn := Lib.hid (isBetween_c (N : Int) 1 8 w)
  have HU := Lib.hid (hU w)
  have HBs := Lib.hid (fun b cap W hb ht => binStr_c b cap ss (by omega) x k hk f k1 k2 hf1 hf0 W hb ht)
  have HF1 := Lib.hid hf1
  rw [h1] at HWo
  rw [inB_yes (by omega)] at HIn
  clear h1 hU k1 k2 hf1 hf0
  go_enter Try.func20, Try.ntmps20
  go_wp2_with (first | (go_at_call 26; refine HWo.out.mono ?_; rintro e w' ⟨rfl, rfl⟩) | (go_at_call 37; refine HIn.out.mono ?_; rintro e w' ⟨rfl, rfl⟩) | fail)
  refine HU.out.mono ?_
  rintro e w1 ⟨a, c, rfl, _, hb1, hN⟩
  rcases hN with h | ⟨g, rfl, hg1, hg2, hM, ht⟩
  · exact absurd h hss
  have HB1 := Lib.hid hb1
  have hz1 := hb1.size
  have HT := Lib.hid ht
  clear hb1 hM ht
  go_wp2_with fail
  refine (HBs.out g c _ hg2 HT.out).mono ?_
  rintro e w2 ⟨rfl, hb2⟩
  have HB2 := Lib.hid (HB1.out.trans (hb2.mono hz1))
  have HT2 := Lib.hid (HT.out.below hb2 hg2)
  have hz2 := hb2.size
  have hg3 : g < w2.heap.size := by omega
  clear hb2
  cases f with
  | true =>
    obtain ⟨hkl, _⟩ := HF1.out rfl
    rw [if_pos rfl] at ho
    by_cases hlt : k + 1 < ss.length
    · rw [List.getElem?_eq_getElem hlt] at ho
      have c0 := HT2.out (k + 1) hlt
      rw [Nat.zero_add] at c0
      obtain ⟨v, hv⟩ : ∃ v, ss[k + 1] = v := ⟨_, rfl⟩
      rw [hv] at c0 ho
      subst ho
      clear hv
      have hlI : ¬ (k : Int) + 1 = (ss.length : Int) := by omega
      have hlJ : (k : Int) + 1 < (ss.length : Int) := by omega
      go_wp2
      go_ret2
      rw [← HR.out, ← HE.out]
      exact ⟨rfl, by first | exact HB2.out | exact HB2.out.drew⟩
    · rw [List.getElem?_eq_none (by omega)] at ho
      subst ho
      have hlI : (k : Int) + 1 = (ss.length : Int) := by omega
      go_wp2
      go_ret2
      rw [← HR.out, ← HE.out]
      exact ⟨rfl, HB2.out⟩
  | false =>
    rw [if_neg (by simp)] at ho
    by_cases hlt : k < ss.length
    · rw [List.getElem?_eq_getElem hlt] at ho
      have c0 := HT2.out k hlt
      rw [Nat.zero_add] at c0
      obtain ⟨v, hv⟩ : ∃ v, ss[k] = v := ⟨_, rfl⟩
      rw [hv] at c0 ho
      subst ho
      clear hv
      have hlI : ¬ (k : Int) = (ss.length : Int) := by omega
      have hlJ : (k : Int) < (ss.length : Int) := by omega
      go_wp2
      go_ret2
      rw [← HR.out, ← HE.out]
      exact ⟨rfl, by first | exact HB2.out | exact HB2.out.drew⟩
    · rw [List.getElem?_eq_none (by omega)] at ho
      subst ho
      have hlI : (k : Int) = (ss.length : Int) := by omega
      go_wp2
      go_ret2
      rw [← HR.out, ← HE.out]
      exact ⟨rfl, HB2.out⟩
end Go.Proofs.Ytolbgdgoambliaa
