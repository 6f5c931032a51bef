/-
  Draws of words: a damaged text, a word or nearly one.
-/
import Derived.Test.YtaliafbolofkfaaDoorDrw
import Derived.Test.YtaliafbolofkfaaDoorMapV
namespace Go.Proofs.YtaliafbolofkfaaDoor
open Go.RowKit

theorem strs_new (w : World) (ss : List ByteArray) (t : TypeId) (i : Nat) (hi : i < ss.length) : (w.alloc (.cells (ss.map Value.string).toArray t)).cell? ⟨w.heap.size, i, none⟩ = some (.string ss[i]) := by
  rw [World.cell?_alloc_new]
  simp [hi]
def chars : List ByteArray := [⟨#[48]⟩, ⟨#[49]⟩, ⟨#[50]⟩, ⟨#[57]⟩, ⟨#[47]⟩, ⟨#[42]⟩, ⟨#[43]⟩, ⟨#[45]⟩, ⟨#[32]⟩, ⟨#[44]⟩, ⟨#[91]⟩, ⟨#[10]⟩]
theorem chars_size : ∀ s ∈ chars, s.size = 1 := by
  intro s hs
  simp only [chars, List.mem_cons, List.not_mem_nil, or_false] at hs
  rcases hs with rfl | rfl | rfl | rfl | rfl | rfl | rfl | rfl | rfl | rfl | rfl | rfl <;> rfl

set_option maxRecDepth 100000 in
set_option maxHeartbeats 4000000 in
theorem l01Damage_c (s : ByteArray) (n : Nat) (hn : s.size ≤ n) (hn2 : n ≤ 4096) (g : Nat) (a : Option Addr) (cap : Nat) (zs : List Int) (w : World) (hs : Src w g a cap zs) :
    Calls Tryd.prog 31 #[.pointer (some ⟨g, 0, none⟩), .string s] w (DrawPost g a cap zs (Sml (n + 1)) w) := by
  have HS := Lib.hid hs
  have hlt := hs.lt
  clear hs
  go_enter Tryd.func31, Tryd.ntmps31
  go_wp2_with fail
  have hcell := fun i hi => strs_new w chars 9 i hi
  refine (l01Next_c 12 (by omega) (by omega) g a cap zs _ (HS.out.alloc _)).mono ?_
  rintro e w1 ⟨v, rfl, ⟨r, hr1, rfl⟩, hs1, hb1⟩
  have c0 := (hb1.cell (o := r) (x := w.heap.size) (by simp) (by omega)).trans (hcell r hr1)
  have ht := chars_size _ (List.getElem_mem (l := chars) (n := r) hr1)
  obtain ⟨t, het⟩ : ∃ t, chars[r]'hr1 = t := ⟨_, rfl⟩
  rw [het] at c0 ht
  clear het hcell
  have hl1 := hs1.lt
  have HS1 := Lib.hid hs1
  have HB1 := Lib.hid (((But.refl g w).alloc _).trans hb1)
  have e0 : (0 : Int) ≤ (r : Int) := by omega
  have e1 : (r : Int) < 12 := by omega
  clear hs1 hb1
  by_cases hz : s.size = 0
  · have hz' : ((s.size : Int) == 0) = true := by rw [hz]; rfl
    go_wp2
    go_ret
    exact ⟨_, rfl, ⟨t, by omega, rfl⟩, HS1.out, HB1.out⟩
  · have hz' : ((s.size : Int) == 0) = false := by rw [beq_eq_false_iff_ne]; omega
    go_wp2_with fail
    refine (l01Next_c s.size (by omega) (by omega) g a cap zs _ HS1.out).mono ?_
    rintro e w2 ⟨v, rfl, ⟨p, hp, rfl⟩, hs2, hb2⟩
    have HS2 := Lib.hid hs2
    have HB2 := Lib.hid (HB1.out.trans hb2)
    clear hs2 hb2
    go_wp2_with fail
    refine (l01Next_c 3 (by omega) (by omega) g a cap zs _ HS2.out).mono ?_
    rintro e w3 ⟨v, rfl, ⟨q, hq, rfl⟩, hs3, hb3⟩
    have HS3 := Lib.hid hs3
    have HB3 := Lib.hid (HB2.out.trans hb3)
    clear hs3 hb3
    have p0 : (0 : Int) ≤ (p : Int) := by omega
    have p1 : (p : Int) ≤ (s.size : Int) := by omega
    have p2 : (0 : Int) ≤ (p : Int) + 1 := by omega
    have p3 : (p : Int) + 1 ≤ (s.size : Int) := by omega
    have hq' : q = 0 ∨ q = 1 ∨ q = 2 := by omega
    rcases hq' with rfl | rfl | rfl
    · go_wp2
      go_quiet (fail)
      go_wp2
      go_ret
      exact ⟨_, rfl, ⟨_, by simp only [ByteArray.size_append, ByteArray.size_extract]; omega, rfl⟩, HS3.out.drewN _, HB3.out.drewN _⟩
    · go_wp2
      go_quiet (fail)
      go_wp2
      go_ret
      exact ⟨_, rfl, ⟨_, by simp only [ByteArray.size_append, ByteArray.size_extract]; omega, rfl⟩, HS3.out.drewN _, HB3.out.drewN _⟩
    · go_wp2
      go_quiet (fail)
      go_wp2
      go_ret
      exact ⟨_, rfl, ⟨_, by simp only [ByteArray.size_append, ByteArray.size_extract]; omega, rfl⟩, HS3.out.drewN _, HB3.out.drewN _⟩

set_option maxRecDepth 100000 in
set_option maxHeartbeats 8000000 in
theorem l01Wordy_c (d m : Nat) (hd : 1 ≤ d ∧ d ≤ 3) (hm : m ≤ 16) (g : Nat) (a : Option Addr) (cap : Nat) (zs : List Int) (w : World) (hs : Src w g a cap zs) :
    Calls Tryd.prog 25 #[.pointer (some ⟨g, 0, none⟩), .int .i64 d, .int .i64 m] w (DrawPost g a cap zs (Sml (m + 4)) w) := by
  have HS := Lib.hid hs
  have hlt := hs.lt
  clear hs
  obtain ⟨hd1, hd2⟩ := hd
  go_enter Tryd.func25, Tryd.ntmps25
  go_wp2_with fail
  refine (l01Next_c (m + 1) (by omega) (by omega) g a cap zs _ HS.out).mono ?_
  rintro e w1 ⟨v, rfl, ⟨r, hr1, rfl⟩, hs1, hb1⟩
  have HS1 := Lib.hid hs1
  have HB1 := Lib.hid hb1
  clear hs1 hb1
  go_wp2_with fail
  go_loopw [7, 8] (fun vo vn wr => ∃ (j : Nat) (acc : ByteArray), vn = .int .i64 j ∧ vo = .string acc ∧ j ≤ m ∧ acc.size + j ≤ m ∧ Src wr g a cap zs ∧ But g w wr) (fun _ vn _ => (intOf vn).toNat)
  case atStart => exact ⟨r, ByteArray.empty, rfl, rfl, by omega, by simp; omega, HS1.out, HB1.out⟩
  case round =>
    obtain ⟨j, acc, rfl, rfl, hj, hsz, hs2, hb2⟩ := hrel
    have HS2 := Lib.hid hs2
    have HB2 := Lib.hid hb2
    have hl2 := hs2.lt
    clear hs2 hb2
    by_cases hj0 : 0 < j
    · have e0 : (0 : Int) < (j : Int) := by omega
      go_wp2_with fail
      refine (l01Next_c d (by omega) (by omega) g a cap zs _ HS2.out).mono ?_
      rintro e w3 ⟨v, rfl, ⟨q, hq, rfl⟩, hs3, hb3⟩
      have HS3 := Lib.hid hs3
      have HB3 := Lib.hid (HB2.out.trans hb3)
      clear hs3 hb3
      have hcv := conv_byte (48 + (q : Int)) (by omega) (by omega)
      go_wp2
      go_roundw
      case rel => exact ⟨j - 1, _, by go_num, rfl, by omega, by rw [ByteArray.size_append]; show acc.size + 1 + (j - 1) ≤ m; omega, HS3.out.alloc _, HB3.out.alloc _⟩
      case measure => simp [intOf]; omega
    · obtain rfl : j = 0 := by omega
      go_wp2_with fail
      refine (l01Next_c 20 (by omega) (by omega) g a cap zs _ HS2.out).mono ?_
      rintro e w3 ⟨v, rfl, ⟨q, hq, rfl⟩, hs3, hb3⟩
      have HS3 := Lib.hid hs3
      have HB3 := Lib.hid (HB2.out.trans hb3)
      clear hs3 hb3
      by_cases q0 : q = 0
      · subst q0
        go_wp2_with fail
        refine (l01Damage_c acc m (by omega) (by omega) g a cap zs _ HS3.out).mono ?_
        rintro e w4 ⟨v, rfl, ⟨s4, hs4, rfl⟩, hs4', hb4⟩
        have HS4 := Lib.hid hs4'
        have HB4 := Lib.hid (HB3.out.trans hb4)
        clear hs4' hb4
        go_wp2
        go_ret
        exact ⟨_, rfl, ⟨s4, by omega, rfl⟩, HS4.out, HB4.out⟩
      · have q0' : ((q : Int) == 0) = false := by rw [beq_eq_false_iff_ne]; omega
        by_cases q1 : q = 1
        · subst q1
          go_wp2
          go_ret
          exact ⟨_, rfl, ⟨_, by rw [ByteArray.size_append]; show acc.size + 3 ≤ _; omega, rfl⟩, HS3.out, HB3.out⟩
        · have q1' : ((q : Int) == 1) = false := by rw [beq_eq_false_iff_ne]; omega
          go_wp2
          go_ret
          exact ⟨_, rfl, ⟨acc, by omega, rfl⟩, HS3.out, HB3.out⟩

/-- what a draw of two values comes to -/
def Draw2 (Q R : Value → Prop) (W : World) (e : Ending) (w' : World) : Prop := ∃ v u, e = .returned (.tuple #[v, u]) ∧ Q v ∧ R u ∧ Below W.heap.size W w'
def IsZ (v : Value) : Prop := ∃ z, Z64 z ∧ v = .int .i64 z
theorem z64_of {z : Int} (h : z = 0 ∨ z = 1 ∨ z = 2 ∨ z = 3 ∨ z = 4) : Z64 z := by unfold Z64; omega
theorem digits7 : ∀ z ∈ ([1, 2, 2, 3, 3, 4, 0] : List Int), Z64 z := by
  intro z hz
  simp only [List.mem_cons, List.not_mem_nil, or_false] at hz
  exact z64_of (by omega)

set_option maxRecDepth 100000 in
set_option maxHeartbeats 8000000 in
theorem drawWordOfNumber_c (a : Option Addr) (cap : Nat) (zs : List Int) (w : World) (hr : BRow w.heap.size w a zs) (hz : ∀ z ∈ zs, 0 ≤ z ∧ z ≤ 255) (hl : zs.length ≤ 4096) :
    Calls Tryd.prog 5 #[.slice a zs.length cap] w (Draw2 IsZ IsZ w) := by
  have HR := Lib.hid hr
  have HZ := Lib.hid hz
  clear hr hz
  go_enter Tryd.func5, Tryd.ntmps5
  go_wp2_with fail
  refine (l01From_c a cap zs w HR.out HZ.out hl).mono ?_
  rintro e w1 ⟨rfl, hb1, hs1⟩
  generalize hg : w.heap.size = g at *
  have hl1 := hs1.lt
  have HS1 := Lib.hid hs1
  have HB1 := Lib.hid hb1
  have HG := Lib.hid hg
  clear hs1 hb1 hg
  go_wp2_with fail
  have hR := row64_new w1 g [1, 2, 2, 3, 3, 4, 0] 2 digits7 hl1
  refine (l01Pick_c 7 _ 7 (by omega) (by omega) g a cap zs _ (HS1.out.alloc _) hR).mono ?_
  rintro e w2 ⟨v, rfl, ⟨d, hd, rfl⟩, hs2, hb2⟩
  have HS2 := Lib.hid hs2
  have HB2 := Lib.hid (((But.refl g w1).alloc _).trans hb2)
  clear hs2 hb2 hR
  go_wp2_with fail
  refine (l01Next_c 8 (by omega) (by omega) g a cap zs _ HS2.out).mono ?_
  rintro e w3 ⟨v, rfl, ⟨r3, hr3, rfl⟩, hs3, hb3⟩
  have HS3 := Lib.hid hs3
  have HB3 := Lib.hid (HB2.out.trans hb3)
  clear hs3 hb3
  go_wp2_with fail
  refine (l01Next_c 64 (by omega) (by omega) g a cap zs _ HS3.out).mono ?_
  rintro e w4 ⟨v, rfl, ⟨r4, hr4, rfl⟩, hs4, hb4⟩
  have HS4 := Lib.hid hs4
  have HB4 := Lib.hid (HB3.out.trans hb4)
  clear hs4 hb4
  go_wp2_with fail
  refine (l01Near_c 364 (by omega) g a cap zs _ HS4.out).mono ?_
  rintro e w5 ⟨v, rfl, ⟨z5, hz5, rfl⟩, hs5, hb5⟩
  have hl5 := hs5.lt
  have HS5 := Lib.hid hs5
  have HB5 := Lib.hid (HB4.out.trans hb5)
  clear hs5 hb5
  go_wp2_with fail
  have hR := row64_new w5 g [(r3 : Int), (r4 : Int), z5] 2 (by
    intro z hz
    simp only [List.mem_cons, List.not_mem_nil, or_false] at hz
    rcases hz with rfl | rfl | rfl
    · unfold Z64; omega
    · unfold Z64; omega
    · exact hz5) hl5
  refine (l01Pick_c 3 _ 3 (by omega) (by omega) g a cap zs _ (HS5.out.alloc _) hR).mono ?_
  rintro e w6 ⟨v, rfl, ⟨k, hk, rfl⟩, hs6, hb6⟩
  have HB6 := Lib.hid ((HB5.out.alloc _).trans hb6)
  clear hs6 hb6 hR
  go_wp2
  go_ret2
  have hB := HB1.out
  have hG := HG.out
  exact ⟨_, _, rfl, ⟨d, hd, rfl⟩, ⟨k, hk, rfl⟩, by subst hG; exact HB6.out.below hB (Nat.le_refl _)⟩

set_option maxRecDepth 100000 in
set_option maxHeartbeats 8000000 in
theorem drawWordsOf_c (a : Option Addr) (cap : Nat) (zs : List Int) (w : World) (hr : BRow w.heap.size w a zs) (hz : ∀ z ∈ zs, 0 ≤ z ∧ z ≤ 255) (hl : zs.length ≤ 4096) :
    Calls Tryd.prog 11 #[.slice a zs.length cap] w (Draw2 IsZ IsZ w) := by
  have HR := Lib.hid hr
  have HZ := Lib.hid hz
  clear hr hz
  go_enter Tryd.func11, Tryd.ntmps11
  go_wp2_with fail
  refine (l01From_c a cap zs w HR.out HZ.out hl).mono ?_
  rintro e w1 ⟨rfl, hb1, hs1⟩
  generalize hg : w.heap.size = g at *
  have HS1 := Lib.hid hs1
  have HB1 := Lib.hid hb1
  have HG := Lib.hid hg
  clear hs1 hb1 hg
  go_wp2_with fail
  refine (l01Near_c 2 (by omega) g a cap zs _ HS1.out).mono ?_
  rintro e w2 ⟨v, rfl, ⟨d, hd, rfl⟩, hs2, hb2⟩
  have HS2 := Lib.hid hs2
  have HB2 := Lib.hid hb2
  clear hs2 hb2
  go_wp2_with fail
  refine (l01Near_c 5 (by omega) g a cap zs _ HS2.out).mono ?_
  rintro e w3 ⟨v, rfl, ⟨k, hk, rfl⟩, hs3, hb3⟩
  have HB3 := Lib.hid (HB2.out.trans hb3)
  clear hs3 hb3
  go_wp2
  go_ret2
  have hB := HB1.out
  have hG := HG.out
  have h1 : Z64 (wrap64 (1 + d)) := by unfold Z64 wrap64; omega
  exact ⟨_, _, rfl, ⟨_, h1, rfl⟩, ⟨k, hk, rfl⟩, by subst hG; exact HB3.out.below hB (Nat.le_refl _)⟩

set_option maxRecDepth 100000 in
set_option maxHeartbeats 8000000 in
theorem drawNumberOfWord_c (a : Option Addr) (cap : Nat) (zs : List Int) (w : World) (hr : BRow w.heap.size w a zs) (hz : ∀ z ∈ zs, 0 ≤ z ∧ z ≤ 255) (hl : zs.length ≤ 4096) :
    Calls Tryd.prog 9 #[.slice a zs.length cap] w (Draw2 IsZ (Sml 9) w) := by
  have HR := Lib.hid hr
  have HZ := Lib.hid hz
  clear hr hz
  go_enter Tryd.func9, Tryd.ntmps9
  go_wp2_with fail
  refine (l01From_c a cap zs w HR.out HZ.out hl).mono ?_
  rintro e w1 ⟨rfl, hb1, hs1⟩
  generalize hg : w.heap.size = g at *
  have hl1 := hs1.lt
  have HS1 := Lib.hid hs1
  have HB1 := Lib.hid hb1
  have HG := Lib.hid hg
  clear hs1 hb1 hg
  go_wp2_with fail
  have hR := row64_new w1 g [1, 2, 2, 3, 3, 4, 0] 2 digits7 hl1
  refine (l01Pick_c 7 _ 7 (by omega) (by omega) g a cap zs _ (HS1.out.alloc _) hR).mono ?_
  rintro e w2 ⟨v, rfl, ⟨d, hd, rfl⟩, hs2, hb2⟩
  have HS2 := Lib.hid hs2
  have HB2 := Lib.hid (((But.refl g w1).alloc _).trans hb2)
  clear hs2 hb2 hR
  obtain ⟨D, hD, hD1, hD2⟩ : ∃ D : Nat, min (max d 1) 3 = (D : Int) ∧ 1 ≤ D ∧ D ≤ 3 := ⟨(min (max d 1) 3).toNat, by omega, by omega, by omega⟩
  have HD := Lib.hid hD
  clear hD
  go_wp2_with fail
  rw [HD.out]
  refine (l01Wordy_c D 5 ⟨hD1, hD2⟩ (by omega) g a cap zs _ HS2.out).mono ?_
  rintro e w3 ⟨v, rfl, hv, hs3, hb3⟩
  have HB3 := Lib.hid (HB2.out.trans hb3)
  clear hs3 hb3
  go_wp2
  go_ret2
  have hB := HB1.out
  have hG := HG.out
  exact ⟨_, _, rfl, ⟨d, hd, rfl⟩, hv, by subst hG; exact HB3.out.below hB (Nat.le_refl _)⟩

theorem big_c (a : Option Addr) (cap n : Nat) (w : World) :
    Calls Tryd.prog 4 #[.slice a n cap] w fun e w' => e = .returned (.bool (decide (4096 < (n : Int)))) ∧ w = w' := by
  go_enter Tryd.func4, Tryd.ntmps4
  go_wp2
  go_ret
  exact ⟨rfl, rfl⟩
end Go.Proofs.YtaliafbolofkfaaDoor
