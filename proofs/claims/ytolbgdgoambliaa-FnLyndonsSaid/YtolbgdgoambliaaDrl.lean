/-
  Draws of chapter 5: a word, or nearly one, and a number of letters.
-/
import Derived.Test.YtolbgdgoambliaaDrx
import Derived.Test.YtolbgdgoambliaaNeck
import Derived.WalkLawsBesides
namespace Go.Proofs.Ytolbgdgoambliaa
open Go.RowKit

def others : List ByteArray := [⟨#[50]⟩, ⟨#[120]⟩, ⟨#[48, 48, 48, 48, 48, 48, 48, 48, 48]⟩, ⟨#[51]⟩]
theorem others_size : ∀ s ∈ others, s.size ≤ 9 := by
  intro s hs
  simp only [others, List.mem_cons, List.not_mem_nil, or_false] at hs
  rcases hs with rfl | rfl | rfl | rfl <;> decide

set_option maxRecDepth 100000 in
set_option maxHeartbeats 4000000 in
theorem l03Other_c (g : Nat) (a : Option Addr) (cap : Nat) (zs : List Int) (w : World) (hs : Src w g a cap zs) :
    Calls Try.prog 59 #[.pointer (some ⟨g, 0, none⟩)] w (DrawPost g a cap zs (Sml 9) w) := by
  have HS := Lib.hid hs
  have hlt := hs.lt
  clear hs
  go_enter Try.func59, Try.ntmps59
  go_wp2_with fail
  have hcell := fun i hi => strs_new w others 9 i hi
  refine (l01Next_c 4 (by omega) (by omega) g a cap zs _ (HS.out.alloc _)).mono ?_
  rintro e w1 ⟨v, rfl, ⟨r, hr1, rfl⟩, hs1, hb1⟩
  have c0 := (hb1.cell (o := r) (x := w.heap.size) (by simp) (by omega)).trans (hcell r hr1)
  have ht := others_size _ (List.getElem_mem (l := others) (n := r) hr1)
  obtain ⟨t, het⟩ : ∃ t, others[r]'hr1 = t := ⟨_, rfl⟩
  rw [het] at c0 ht
  clear het hcell
  have HS1 := Lib.hid hs1
  have HB1 := Lib.hid (((But.refl g w).alloc _).trans hb1)
  have e0 : (0 : Int) ≤ (r : Int) := by omega
  have e1 : (r : Int) < 4 := by omega
  clear hs1 hb1
  go_wp2
  go_ret
  exact ⟨_, rfl, ⟨t, ht, rfl⟩, HS1.out, HB1.out⟩

set_option maxRecDepth 100000 in
set_option maxHeartbeats 8000000 in
theorem l03Small_c (d m : Nat) (hd : 1 ≤ d ∧ d ≤ 3) (hm : m ≤ 16) (g : Nat) (a : Option Addr) (cap : Nat) (zs : List Int) (w : World) (hs : Src w g a cap zs) :
    Calls Try.prog 47 #[.pointer (some ⟨g, 0, none⟩), .int .i64 d, .int .i64 m] w (DrawPost g a cap zs (Sml (m + 9)) w) := by
  have HS := Lib.hid hs
  have hlt := hs.lt
  clear hs
  obtain ⟨hd1, hd2⟩ := hd
  go_enter Try.func47, Try.ntmps47
  go_wp2_with fail
  refine (l01Next_c (m + 1) (by omega) (by omega) g a cap zs _ HS.out).mono ?_
  rintro e w1 ⟨v, rfl, ⟨r, hr1, rfl⟩, hs1, hb1⟩
  have HS1 := Lib.hid hs1
  have HB1 := Lib.hid hb1
  clear hs1 hb1
  go_wp2_with fail
  go_loopw [7, 8] (fun vo vn wr => ∃ (j : Nat) (acc : ByteArray), vn = .int .i64 j ∧ vo = .string acc ∧ j ≤ m ∧ acc.size + j ≤ m ∧ Src wr g a cap zs ∧ But g w wr) (fun _ vn _ => (intOf vn).toNat)
  case atStart => exact ⟨r, ByteArray.empty, rfl, rfl, by omega, by simp; omega, HS1.out, HB1.out⟩
  case round =>
    obtain ⟨j, acc, rfl, rfl, hj, hsz, hs2, hb2⟩ := hrel
    have HS2 := Lib.hid hs2
    have HB2 := Lib.hid hb2
    have hl2 := hs2.lt
    clear hs2 hb2
    by_cases hj0 : 0 < j
    · have e0 : (0 : Int) < (j : Int) := by omega
      go_wp2_with fail
      refine (l01Next_c d (by omega) (by omega) g a cap zs _ HS2.out).mono ?_
      rintro e w3 ⟨v, rfl, ⟨q, hq, rfl⟩, hs3, hb3⟩
      have HS3 := Lib.hid hs3
      have HB3 := Lib.hid (HB2.out.trans hb3)
      clear hs3 hb3
      have hcv := conv_byte (48 + (q : Int)) (by omega) (by omega)
      go_wp2
      go_roundw
      case rel => exact ⟨j - 1, _, by go_num, rfl, by omega, by rw [ByteArray.size_append]; show acc.size + 1 + (j - 1) ≤ m; omega, HS3.out.alloc _, HB3.out.alloc _⟩
      case measure => simp [intOf]; omega
    · obtain rfl : j = 0 := by omega
      go_wp2_with fail
      refine (l01Next_c 40 (by omega) (by omega) g a cap zs _ HS2.out).mono ?_
      rintro e w3 ⟨v, rfl, ⟨q, hq, rfl⟩, hs3, hb3⟩
      have HS3 := Lib.hid hs3
      have HB3 := Lib.hid (HB2.out.trans hb3)
      clear hs3 hb3
      by_cases q0 : q = 0
      · subst q0
        go_wp2_with fail
        refine (l03Other_c g a cap zs _ HS3.out).mono ?_
        rintro e w4 ⟨v, rfl, ⟨s4, hs4, rfl⟩, hs4', hb4⟩
        have HS4 := Lib.hid hs4'
        have HB4 := Lib.hid (HB3.out.trans hb4)
        have hcat : ¬ 9223372036854775807 < acc.size + s4.size := by omega
        clear hs4' hb4
        go_wp2
        go_ret
        exact ⟨_, rfl, ⟨acc ++ s4, by rw [ByteArray.size_append]; omega, rfl⟩, HS4.out, HB4.out⟩
      · have q0' : ((q : Int) == 0) = false := by rw [beq_eq_false_iff_ne]; omega
        go_wp2
        go_ret
        exact ⟨_, rfl, ⟨acc, by omega, rfl⟩, HS3.out, HB3.out⟩

/-- what a draw of two values comes to, the state standing -/
def DrawPair (g : Nat) (a : Option Addr) (cap : Nat) (zs : List Int) (Q R : Value → Prop) (W : World) (e : Ending) (w' : World) : Prop :=
  ∃ v u, e = .returned (.tuple #[v, u]) ∧ Q v ∧ R u ∧ Src w' g a cap zs ∧ But g W w'

set_option maxRecDepth 100000 in
set_option maxHeartbeats 8000000 in
theorem l05Draw_c (g : Nat) (a : Option Addr) (cap : Nat) (zs : List Int) (w : World) (hs : Src w g a cap zs) :
    Calls Try.prog 24 #[.pointer (some ⟨g, 0, none⟩)] w (DrawPair g a cap zs IsZ (Sml 18) w) := by
  have HS := Lib.hid hs
  have hlt := hs.lt
  clear hs
  go_enter Try.func24, Try.ntmps24
  go_wp2_with fail
  have hR := rowP_new (fun z => 1 ≤ z ∧ z ≤ 3) w g [1, 2, 2, 2, 3] 2 (by
    intro z hz
    simp only [List.mem_cons, List.not_mem_nil, or_false] at hz
    omega) hlt
  refine (l01PickP_c _ 5 _ 5 (by omega) (by omega) g a cap zs _ (HS.out.alloc _) hR).mono ?_
  rintro e w1 ⟨v, rfl, ⟨d, ⟨hd1, hd2⟩, rfl⟩, hs1, hb1⟩
  obtain ⟨D, rfl⟩ : ∃ D : Nat, d = D := ⟨d.toNat, by omega⟩
  have hD64 : Z64 (D : Int) := by unfold Z64; omega
  have HS1 := Lib.hid hs1
  have HB1 := Lib.hid (((But.refl g w).alloc _).trans hb1)
  clear hs1 hb1 hR
  go_wp2_with fail
  refine (l03Small_c D 8 (by omega) (by omega) g a cap zs _ HS1.out).mono ?_
  rintro e w2 ⟨v, rfl, ⟨s, hsz, rfl⟩, hs2, hb2⟩
  have HS2 := Lib.hid hs2
  have HB2 := Lib.hid (HB1.out.trans hb2)
  clear hs2 hb2
  by_cases h0 : 0 < s.size
  · have h0' : (0 : Int) < (s.size : Int) := by omega
    go_wp2_with fail
    refine (l01Next_c 2 (by omega) (by omega) g a cap zs _ HS2.out).mono ?_
    rintro e w3 ⟨v, rfl, ⟨r, hr, rfl⟩, hs3, hb3⟩
    have HS3 := Lib.hid hs3
    have HB3 := Lib.hid (HB2.out.trans hb3)
    clear hs3 hb3
    by_cases hr0 : r = 0
    · subst hr0
      go_wp2_with fail
      go_loopw [5, 6] (fun vo vi wr => ∃ (k : Nat) (t : ByteArray), vi = .int .i64 k ∧ vo = .string t ∧ 1 ≤ k ∧ k ≤ t.size ∧ t.size ≤ 17 ∧ Src wr g a cap zs ∧ But g w wr) (fun _ vi _ => 20 - (intOf vi).toNat)
      case atStart => exact ⟨1, s, rfl, rfl, by omega, by omega, by omega, HS3.out, HB3.out⟩
      case round =>
        obtain ⟨k, t, rfl, rfl, hk1, hk2, ht, hs4, hb4⟩ := hrel
        have HS4 := Lib.hid hs4
        have HB4 := Lib.hid hb4
        clear hs4 hb4
        by_cases hk : k < t.size
        · have e0 : (0 : Int) ≤ (k : Int) := by omega
          have e1 : (k : Int) < (t.size : Int) := by omega
          have e2 : (k : Int) ≤ (t.size : Int) := by omega
          go_wp2
          go_quiet (fail)
          cases hL : Op.bytesLess (t.extract k t.size ++ t.extract 0 k).toList t.toList with
          | true =>
            go_wp2
            go_roundw
            case rel => exact ⟨k + 1, _, by go_num, rfl, by omega, by simp only [ByteArray.size_append, ByteArray.size_extract]; omega, by simp only [ByteArray.size_append, ByteArray.size_extract]; omega, HS4.out.drewN _, HB4.out.drewN _⟩
            case measure => simp [intOf]; omega
          | false =>
            go_wp2
            go_roundw
            case rel => exact ⟨k + 1, t, by go_num, rfl, by omega, by omega, by omega, HS4.out.drewN _, HB4.out.drewN _⟩
            case measure => simp [intOf]; omega
        · have e1 : ¬ (k : Int) < (t.size : Int) := by omega
          have HSX := HS4
          have HBX := HB4
          have hl4 := HSX.out.lt
          go_wp2_with fail
          refine (l01Next_c 40 (by omega) (by omega) g a cap zs _ HSX.out).mono ?_
          rintro e w5 ⟨v, rfl, ⟨q, hq, rfl⟩, hs5, hb5⟩
          have hl5 := hs5.lt
          have HS5 := Lib.hid hs5
          have HB5 := Lib.hid (HBX.out.trans hb5)
          clear hs5 hb5
          by_cases q0 : q = 0
          · subst q0
            go_wp2_with fail
            have hR := row64_new w5 g [0, 4] 2 (by
              intro z hz
              simp only [List.mem_cons, List.not_mem_nil, or_false] at hz
              exact z64_of (by omega)) hl5
            refine (l01Pick_c 2 _ 2 (by omega) (by omega) g a cap zs _ (HS5.out.alloc _) hR).mono ?_
            rintro e w6 ⟨v, rfl, hv, hs6, hb6⟩
            have HS6 := Lib.hid hs6
            have HB6 := Lib.hid ((HB5.out.alloc _).trans hb6)
            clear hs6 hb6 hR
            go_wp2
            go_ret2
            exact ⟨_, _, rfl, hv, ⟨t, by omega, rfl⟩, HS6.out, HB6.out⟩
          · have q0' : ((q : Int) == 0) = false := by rw [beq_eq_false_iff_ne]; omega
            by_cases q1 : q = 1
            · subst q1
              go_wp2
              go_ret2
              exact ⟨_, _, rfl, ⟨_, hD64, rfl⟩, ⟨_, by rw [ByteArray.size_append]; show t.size + 1 ≤ _; omega, rfl⟩, HS5.out, HB5.out⟩
            · have q1' : ((q : Int) == 1) = false := by rw [beq_eq_false_iff_ne]; omega
              go_wp2
              go_ret2
              exact ⟨_, _, rfl, ⟨_, hD64, rfl⟩, ⟨t, by omega, rfl⟩, HS5.out, HB5.out⟩
    · have hr0' : ((r : Int) == 0) = false := by rw [beq_eq_false_iff_ne]; omega
      have HSX := HS3
      have HBX := HB3
      have hl4 := HSX.out.lt
      go_wp2_with fail
      refine (l01Next_c 40 (by omega) (by omega) g a cap zs _ HSX.out).mono ?_
      rintro e w5 ⟨v, rfl, ⟨q, hq, rfl⟩, hs5, hb5⟩
      have hl5 := hs5.lt
      have HS5 := Lib.hid hs5
      have HB5 := Lib.hid (HBX.out.trans hb5)
      clear hs5 hb5
      by_cases q0 : q = 0
      · subst q0
        go_wp2_with fail
        have hR := row64_new w5 g [0, 4] 2 (by
          intro z hz
          simp only [List.mem_cons, List.not_mem_nil, or_false] at hz
          exact z64_of (by omega)) hl5
        refine (l01Pick_c 2 _ 2 (by omega) (by omega) g a cap zs _ (HS5.out.alloc _) hR).mono ?_
        rintro e w6 ⟨v, rfl, hv, hs6, hb6⟩
        have HS6 := Lib.hid hs6
        have HB6 := Lib.hid ((HB5.out.alloc _).trans hb6)
        clear hs6 hb6 hR
        go_wp2
        go_ret2
        exact ⟨_, _, rfl, hv, ⟨s, by omega, rfl⟩, HS6.out, HB6.out⟩
      · have q0' : ((q : Int) == 0) = false := by rw [beq_eq_false_iff_ne]; omega
        by_cases q1 : q = 1
        · subst q1
          go_wp2
          go_ret2
          exact ⟨_, _, rfl, ⟨_, hD64, rfl⟩, ⟨_, by rw [ByteArray.size_append]; show s.size + 1 ≤ _; omega, rfl⟩, HS5.out, HB5.out⟩
        · have q1' : ((q : Int) == 1) = false := by rw [beq_eq_false_iff_ne]; omega
          go_wp2
          go_ret2
          exact ⟨_, _, rfl, ⟨_, hD64, rfl⟩, ⟨s, by omega, rfl⟩, HS5.out, HB5.out⟩
  · have h0' : ¬ (0 : Int) < (s.size : Int) := by omega
    have HSX := HS2
    have HBX := HB2
    have hl4 := HSX.out.lt
    go_wp2_with fail
    refine (l01Next_c 40 (by omega) (by omega) g a cap zs _ HSX.out).mono ?_
    rintro e w5 ⟨v, rfl, ⟨q, hq, rfl⟩, hs5, hb5⟩
    have hl5 := hs5.lt
    have HS5 := Lib.hid hs5
    have HB5 := Lib.hid (HBX.out.trans hb5)
    clear hs5 hb5
    by_cases q0 : q = 0
    · subst q0
      go_wp2_with fail
      have hR := row64_new w5 g [0, 4] 2 (by
        intro z hz
        simp only [List.mem_cons, List.not_mem_nil, or_false] at hz
        exact z64_of (by omega)) hl5
      refine (l01Pick_c 2 _ 2 (by omega) (by omega) g a cap zs _ (HS5.out.alloc _) hR).mono ?_
      rintro e w6 ⟨v, rfl, hv, hs6, hb6⟩
      have HS6 := Lib.hid hs6
      have HB6 := Lib.hid ((HB5.out.alloc _).trans hb6)
      clear hs6 hb6 hR
      go_wp2
      go_ret2
      exact ⟨_, _, rfl, hv, ⟨s, by omega, rfl⟩, HS6.out, HB6.out⟩
    · have q0' : ((q : Int) == 0) = false := by rw [beq_eq_false_iff_ne]; omega
      by_cases q1 : q = 1
      · subst q1
        go_wp2
        go_ret2
        exact ⟨_, _, rfl, ⟨_, hD64, rfl⟩, ⟨_, by rw [ByteArray.size_append]; show s.size + 1 ≤ _; omega, rfl⟩, HS5.out, HB5.out⟩
      · have q1' : ((q : Int) == 1) = false := by rw [beq_eq_false_iff_ne]; omega
        go_wp2
        go_ret2
        exact ⟨_, _, rfl, ⟨_, hD64, rfl⟩, ⟨s, by omega, rfl⟩, HS5.out, HB5.out⟩

set_option maxRecDepth 100000 in
theorem drawFactorsOf_c (a : Option Addr) (cap : Nat) (zs : List Int) (w : World) (hr : BRow w.heap.size w a zs) (hz : ∀ z ∈ zs, 0 ≤ z ∧ z ≤ 255) (hl : zs.length ≤ 4096) :
    Calls Try.prog 5 #[.slice a zs.length cap] w (Draw2 IsZ (Sml 18) w) := by
  have HR := Lib.hid hr
  have HZ := Lib.hid hz
  clear hr hz
  go_enter Try.func5, Try.ntmps5
  go_wp2_with fail
  refine (l01From_c a cap zs w HR.out HZ.out hl).mono ?_
  rintro e w1 ⟨rfl, hb1, hs1⟩
  generalize hg : w.heap.size = g at *
  have HS1 := Lib.hid hs1
  have HB1 := Lib.hid hb1
  have HG := Lib.hid hg
  clear hs1 hb1 hg
  go_wp2_with fail
  refine (l05Draw_c g a cap zs _ HS1.out).mono ?_
  rintro e w2 ⟨v, u, rfl, hv, hu, hs2, hb2⟩
  have HB2 := Lib.hid hb2
  clear hs2 hb2
  go_wp2
  go_ret2
  have hB := HB1.out
  have hG := HG.out
  exact ⟨_, _, rfl, hv, hu, by subst hG; exact HB2.out.below hB (Nat.le_refl _)⟩

set_option maxRecDepth 100000 in
theorem drawCutOf_c (a : Option Addr) (cap : Nat) (zs : List Int) (w : World) (hr : BRow w.heap.size w a zs) (hz : ∀ z ∈ zs, 0 ≤ z ∧ z ≤ 255) (hl : zs.length ≤ 4096) :
    Calls Try.prog 10 #[.slice a zs.length cap] w (Draw2 IsZ (Sml 18) w) := by
  have HR := Lib.hid hr
  have HZ := Lib.hid hz
  clear hr hz
  go_enter Try.func10, Try.ntmps10
  go_wp2_with fail
  refine (l01From_c a cap zs w HR.out HZ.out hl).mono ?_
  rintro e w1 ⟨rfl, hb1, hs1⟩
  generalize hg : w.heap.size = g at *
  have HS1 := Lib.hid hs1
  have HB1 := Lib.hid hb1
  have HG := Lib.hid hg
  clear hs1 hb1 hg
  go_wp2_with fail
  refine (l05Draw_c g a cap zs _ HS1.out).mono ?_
  rintro e w2 ⟨v, u, rfl, hv, hu, hs2, hb2⟩
  have HB2 := Lib.hid hb2
  clear hs2 hb2
  go_wp2
  go_ret2
  have hB := HB1.out
  have hG := HG.out
  exact ⟨_, _, rfl, hv, hu, by subst hG; exact HB2.out.below hB (Nat.le_refl _)⟩

set_option maxRecDepth 100000 in
theorem drawIsLyndon_c (a : Option Addr) (cap : Nat) (zs : List Int) (w : World) (hr : BRow w.heap.size w a zs) (hz : ∀ z ∈ zs, 0 ≤ z ∧ z ≤ 255) (hl : zs.length ≤ 4096) :
    Calls Try.prog 22 #[.slice a zs.length cap] w (Draw2 IsZ (Sml 18) w) := by
  have HR := Lib.hid hr
  have HZ := Lib.hid hz
  clear hr hz
  go_enter Try.func22, Try.ntmps22
  go_wp2_with fail
  refine (l01From_c a cap zs w HR.out HZ.out hl).mono ?_
  rintro e w1 ⟨rfl, hb1, hs1⟩
  generalize hg : w.heap.size = g at *
  have HS1 := Lib.hid hs1
  have HB1 := Lib.hid hb1
  have HG := Lib.hid hg
  clear hs1 hb1 hg
  go_wp2_with fail
  refine (l05Draw_c g a cap zs _ HS1.out).mono ?_
  rintro e w2 ⟨v, u, rfl, hv, hu, hs2, hb2⟩
  have HB2 := Lib.hid hb2
  clear hs2 hb2
  go_wp2
  go_ret2
  have hB := HB1.out
  have hG := HG.out
  exact ⟨_, _, rfl, hv, hu, by subst hG; exact HB2.out.below hB (Nat.le_refl _)⟩

set_option maxRecDepth 100000 in
set_option maxHeartbeats 4000000 in
theorem drawLyndonWords_c (a : Option Addr) (cap : Nat) (zs : List Int) (w : World) (hr : BRow w.heap.size w a zs) (hz : ∀ z ∈ zs, 0 ≤ z ∧ z ≤ 255) (hl : zs.length ≤ 4096) :
    Calls Try.prog 13 #[.slice a zs.length cap] w (Draw2 IsZ IsZ w) := by
  have HR := Lib.hid hr
  have HZ := Lib.hid hz
  clear hr hz
  go_enter Try.func13, Try.ntmps13
  go_wp2_with fail
  refine (l01From_c a cap zs w HR.out HZ.out hl).mono ?_
  rintro e w1 ⟨rfl, hb1, hs1⟩
  generalize hg : w.heap.size = g at *
  have hl1 := hs1.lt
  have HS1 := Lib.hid hs1
  have HB1 := Lib.hid hb1
  have HG := Lib.hid hg
  clear hs1 hb1 hg
  go_wp2_with fail
  have hR := row64_new w1 g [1, 2, 2, 3, 3, 4] 2 (by
    intro z hz
    simp only [List.mem_cons, List.not_mem_nil, or_false] at hz
    exact z64_of (by omega)) hl1
  refine (l01Pick_c 6 _ 6 (by omega) (by omega) g a cap zs _ (HS1.out.alloc _) hR).mono ?_
  rintro e w2 ⟨v, rfl, ⟨d, hd, rfl⟩, hs2, hb2⟩
  have HS2 := Lib.hid hs2
  have HB2 := Lib.hid (((But.refl g w1).alloc _).trans hb2)
  clear hs2 hb2 hR
  go_wp2_with fail
  refine (l01Near_c 7 (by omega) g a cap zs _ HS2.out).mono ?_
  rintro e w3 ⟨v, rfl, ⟨z, hz3, rfl⟩, hs3, hb3⟩
  have hl3 := hs3.lt
  have HS3 := Lib.hid hs3
  have HB3 := Lib.hid (HB2.out.trans hb3)
  clear hs3 hb3
  go_wp2_with fail
  have hR := row64_new w3 g [1, 2, 3, 4, 5, wrap64 (1 + z)] 2 (by
    intro y hy
    simp only [List.mem_cons, List.not_mem_nil, or_false] at hy
    unfold Z64
    rcases hy with rfl | rfl | rfl | rfl | rfl | rfl
    all_goals first | omega | (unfold wrap64; omega)) hl3
  refine (l01Pick_c 6 _ 6 (by omega) (by omega) g a cap zs _ (HS3.out.alloc _) hR).mono ?_
  rintro e w4 ⟨v, rfl, ⟨k, hk, rfl⟩, hs4, hb4⟩
  have HB4 := Lib.hid ((HB3.out.alloc _).trans hb4)
  clear hs4 hb4 hR
  go_wp2
  go_ret2
  have hB := HB1.out
  have hG := HG.out
  exact ⟨_, _, rfl, ⟨d, hd, rfl⟩, ⟨k, hk, rfl⟩, by subst hG; exact HB4.out.below hB (Nat.le_refl _)⟩

set_option maxRecDepth 100000 in
set_option maxHeartbeats 4000000 in
theorem drawCountLyndon_c (a : Option Addr) (cap : Nat) (zs : List Int) (w : World) (hr : BRow w.heap.size w a zs) (hz : ∀ z ∈ zs, 0 ≤ z ∧ z ≤ 255) (hl : zs.length ≤ 4096) :
    Calls Try.prog 17 #[.slice a zs.length cap] w (Draw2 IsZ IsZ w) := by
  have HR := Lib.hid hr
  have HZ := Lib.hid hz
  clear hr hz
  go_enter Try.func17, Try.ntmps17
  go_wp2_with fail
  refine (l01From_c a cap zs w HR.out HZ.out hl).mono ?_
  rintro e w1 ⟨rfl, hb1, hs1⟩
  generalize hg : w.heap.size = g at *
  have hl1 := hs1.lt
  have HS1 := Lib.hid hs1
  have HB1 := Lib.hid hb1
  have HG := Lib.hid hg
  clear hs1 hb1 hg
  go_wp2_with fail
  have hR := row64_new w1 g [1, 2, 3, 0] 2 (by
    intro z hz
    simp only [List.mem_cons, List.not_mem_nil, or_false] at hz
    exact z64_of (by omega)) hl1
  refine (l01Pick_c 4 _ 4 (by omega) (by omega) g a cap zs _ (HS1.out.alloc _) hR).mono ?_
  rintro e w2 ⟨v, rfl, ⟨d, hd, rfl⟩, hs2, hb2⟩
  have HS2 := Lib.hid hs2
  have HB2 := Lib.hid (((But.refl g w1).alloc _).trans hb2)
  clear hs2 hb2 hR
  go_wp2_with fail
  refine (l01Near_c 19 (by omega) g a cap zs _ HS2.out).mono ?_
  rintro e w3 ⟨v, rfl, ⟨z, hz3, rfl⟩, hs3, hb3⟩
  have HB3 := Lib.hid (HB2.out.trans hb3)
  clear hs3 hb3
  go_wp2
  go_ret2
  have hB := HB1.out
  have hG := HG.out
  have h1 : Z64 (wrap64 (1 + z)) := by unfold Z64 wrap64; omega
  exact ⟨_, _, rfl, ⟨d, hd, rfl⟩, ⟨_, h1, rfl⟩, by subst hG; exact HB3.out.below hB (Nat.le_refl _)⟩

/-- what a draw of three values comes to -/
def Draw3 (Q R S : Value → Prop) (W : World) (e : Ending) (w' : World) : Prop := ∃ v u x, e = .returned (.tuple #[v, u, x]) ∧ Q v ∧ R u ∧ S x ∧ Below W.heap.size W w'

set_option maxRecDepth 100000 in
set_option maxHeartbeats 4000000 in
theorem drawNextLyndon_c (a : Option Addr) (cap : Nat) (zs : List Int) (w : World) (hr : BRow w.heap.size w a zs) (hz : ∀ z ∈ zs, 0 ≤ z ∧ z ≤ 255) (hl : zs.length ≤ 4096) :
    Calls Try.prog 19 #[.slice a zs.length cap] w (Draw3 IsZ IsZ (Sml 18) w) := by
  have HR := Lib.hid hr
  have HZ := Lib.hid hz
  clear hr hz
  go_enter Try.func19, Try.ntmps19
  go_wp2_with fail
  refine (l01From_c a cap zs w HR.out HZ.out hl).mono ?_
  rintro e w1 ⟨rfl, hb1, hs1⟩
  generalize hg : w.heap.size = g at *
  have hl1 := hs1.lt
  have HS1 := Lib.hid hs1
  have HB1 := Lib.hid hb1
  have HG := Lib.hid hg
  clear hs1 hb1 hg
  go_wp2_with fail
  refine (l05Draw_c g a cap zs _ HS1.out).mono ?_
  rintro e w2 ⟨v, u, rfl, hv, ⟨s, hs, rfl⟩, hs2, hb2⟩
  have HS2 := Lib.hid hs2
  have HB2 := Lib.hid hb2
  clear hs2 hb2
  go_wp2_with fail
  refine (l01Near_c 6 (by omega) g a cap zs _ HS2.out).mono ?_
  rintro e w3 ⟨_, rfl, ⟨z, hz3, rfl⟩, hs3, hb3⟩
  have hl3 := hs3.lt
  have HS3 := Lib.hid hs3
  have HB3 := Lib.hid (HB2.out.trans hb3)
  clear hs3 hb3
  go_wp2_with fail
  have hR := row64_new w3 g [1, 2, 3, 4, 5, z] 2 (by
    intro y hy
    simp only [List.mem_cons, List.not_mem_nil, or_false] at hy
    rcases hy with rfl | rfl | rfl | rfl | rfl | rfl
    all_goals first | exact hz3 | (unfold Z64; omega)) hl3
  refine (l01Pick_c 6 _ 6 (by omega) (by omega) g a cap zs _ (HS3.out.alloc _) hR).mono ?_
  rintro e w4 ⟨_, rfl, ⟨k, hk, rfl⟩, hs4, hb4⟩
  have HB4 := Lib.hid ((HB3.out.alloc _).trans hb4)
  clear hs4 hb4 hR
  go_wp2
  go_ret3
  have hB := HB1.out
  have hG := HG.out
  exact ⟨_, _, _, rfl, hv, ⟨k, hk, rfl⟩, ⟨s, hs, rfl⟩, by subst hG; exact HB4.out.below hB (Nat.le_refl _)⟩
end Go.Proofs.Ytolbgdgoambliaa
