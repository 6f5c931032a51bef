/-
  The lists of all words of a length, of the program and of its model.
-/
import Derived.Test.YtllggcbogmooeaaDoorStrA
import Derived.Test.YtllggcbogmooeaaDoorWdL
import Derived.Test.YtllggcbogmooeaaDoorWoN
import Derived.Test.YtllggcbogmooeaaDoorLawWordsOf
namespace Go.Proofs.YtllggcbogmooeaaDoor
open Go.RowKit

/-- what a function that returns words alone comes to -/
def WordsPost (ss : List ByteArray) (W : World) (e : Ending) (w' : World) : Prop :=
  ∃ (a : Option Addr) (cap : Nat), e = .returned (.slice a ss.length cap) ∧ Below W.heap.size W w' ∧ NewS W.heap.size w'.heap.size w' a ss

/-- where an outer loop over words stands: so many are done -/
def NextRel (D : Nat) (ws : List ByteArray) (B : Nat) (W : World) (i k : Nat) (v : Value) (wr : World) : Prop :=
  ∃ (a : Option Addr) (l c : Nat), i ≤ ws.length ∧ v = .slice a l c ∧ l = i * D + k ∧ OwnS wr B (.slice a l c) (nextL D (ws.take i) ++ (match ws[i]? with | some s => (longer D s).take k | none => [])) ∧ Below B W wr

theorem next_len {D i k : Nat} {ws : List ByteArray} (hi : i < ws.length) (hk : k ≤ D) : (nextL D (ws.take i) ++ (longer D ws[i]).take k).length = i * D + k := by
  rw [List.length_append, nextL_length, List.length_take, List.length_take, longer_length]
  rw [Nat.min_eq_left (by omega), Nat.min_eq_left hk]

set_option maxRecDepth 100000 in
set_option maxHeartbeats 4000000 in
theorem withNextLetter_c (D : Nat) (hD : 1 ≤ D ∧ D ≤ 3) (a : Option Addr) (cap : Nat) (ws : List ByteArray) (hl : ws.length ≤ 1048576) (hs : ∀ s ∈ ws, s.size ≤ 1048576) (w : World) (hr : SRow w a ws) :
    Calls Tryd.prog 54 #[.int .i64 D, .slice a ws.length cap] w (WordsPost (nextL D ws) w) := by
  have HR := Lib.hid hr
  have HS := Lib.hid hs
  clear hr hs
  go_enter Tryd.func54, Tryd.ntmps54
  go_wp2_with fail
  go_loopw [5, 11] (fun v vi wr => ∃ (i : Nat) (a : Option Addr) (l c : Nat), i ≤ ws.length ∧ vi = .int .i64 i ∧ v = .slice a l c ∧ l = i * D ∧ OwnS wr w.heap.size (.slice a l c) (nextL D (ws.take i)) ∧ Below w.heap.size w wr) (fun _ vi _ => ws.length - (intOf vi).toNat)
  case atStart => exact ⟨0, none, 0, 0, Nat.zero_le _, rfl, rfl, by simp, OwnS.nil _ _, Below.refl _ _⟩
  case round =>
    obtain ⟨i, av, lv, cv, hi, rfl, rfl, hlv, hO, hB⟩ := hrel
    have HO := Lib.hid hO
    have HB := Lib.hid hB
    have HL := Lib.hid hlv
    have hz := hB.size
    clear hO hB hlv
    by_cases hlt : i < ws.length
    · rcases HR.out with h | ⟨b, off, rfl, hb, ht⟩
      · rw [h] at hlt; simp at hlt
      have c0 := ht.below HB.out hb i hlt
      have hsz := HS.out _ (List.getElem_mem hlt)
      have HT := Lib.hid (nextL_take (d := D) hlt)
      obtain ⟨s, hse⟩ : ∃ s, ws[i] = s := ⟨_, rfl⟩
      rw [hse] at c0 hsz HT
      clear hse ht
      obtain ⟨wo, rfl⟩ : ∃ wo : World, wo = wr := ⟨_, rfl⟩
      go_wp2_with fail
      go_loopw [5, 16] (fun v vk wr => ∃ (k : Nat) (a : Option Addr) (l c : Nat), k ≤ D ∧ vk = .int .i64 k ∧ v = .slice a l c ∧ l = i * D + k ∧ OwnS wr w.heap.size (.slice a l c) (nextL D (ws.take i) ++ (longer D s).take k) ∧ Below w.heap.size w wr) (fun _ vk _ => D - (intOf vk).toNat)
      case atStart => exact ⟨0, av, lv, cv, Nat.zero_le _, rfl, rfl, HL.out, by simpa using HO.out, HB.out⟩
      case round =>
        obtain ⟨k, a2, l2, c2, hk, rfl, rfl, hl2, hO2, hB2⟩ := hrel
        have HO2 := Lib.hid hO2
        have HB2 := Lib.hid hB2
        have HL2 := Lib.hid hl2
        have hz2 := hB2.size
        have hfew : l2 ≤ 3145728 := by
          have h1 : i * D ≤ 1048576 * 3 - 3 := by
            have : i * D ≤ 1048575 * 3 := Nat.mul_le_mul (by omega) hD.2
            omega
          omega
        clear hO2 hB2 hl2 c0
        by_cases hkl : k < D
        · have hk0 : (0 : Int) ≤ (k : Int) := by omega
          have hk2 : (k : Int) ≤ 2 := by omega
          have HTk := Lib.hid (longer_take s hkl)
          have HLen := Lib.hid (show l2 = (nextL D (ws.take i) ++ (longer D s).take k).length from by
            rw [HL2.out, List.length_append, nextL_length, List.length_take, List.length_take, longer_length, Nat.min_eq_left (by omega), Nat.min_eq_left hk])
          have hadd : s.size + 1 ≤ 9223372036854775807 := by omega
          have hls := letW_size (k : Int)
          go_wp2_with (first | (go_at_call 60; refine (letterWord_c _ hk0 hk2 _).mono ?_; rintro e w' ⟨rfl, rfl⟩) | (at_builtin; refine wpList_append_strs rfl _ _ rfl w.heap.size (.slice a2 l2 c2) l2 (nextL D (ws.take i) ++ (longer D s).take k) [s ++ letW k] rfl HLen.out (HO2.out.alloc _) _ 1 1 rfl rfl (.inr ⟨_, 0, rfl, strs_one _ _⟩) (by omega) (by simp; omega) ?_))
          intro a3 c3 w3 hO3 hG3 _
          have HO3 := Lib.hid hO3
          have HB3 := Lib.hid (HB2.out.trans (((below1 _ _).mono (by omega)).trans (own_grownS (HO2.out.alloc _) hG3 (by simp; omega))))
          clear hO3 hG3
          go_wp2
          go_roundw
          case rel => exact ⟨k + 1, a3, l2 + 1, c3, by omega, by go_num, rfl, by rw [HL2.out]; omega, by rw [HTk.out]; exact HO3.out, HB3.out⟩
          case measure => simp [intOf]; omega
        · have HTD := Lib.hid (show (longer D s).take D = longer D s from List.take_of_length_le (by rw [longer_length]; exact Nat.le_refl _))
          obtain rfl : k = D := by omega
          have hkk : ¬ (k : Int) < (k : Int) := by omega
          go_wp2
          go_roundw
          case rel => exact ⟨i + 1, a2, l2, c2, by omega, by go_num, rfl, by rw [HL2.out, Nat.add_mul]; omega, by rw [HT.out]; have h := HO2.out; rwa [HTD.out] at h, HB2.out⟩
          case measure => simp [intOf]; omega
    · obtain rfl : i = ws.length := by omega
      go_wp2
      go_ret
      have hO := HO.out
      rw [List.take_length] at hO
      obtain ⟨a', c', he, hle, hN⟩ := hO.newS
      injection he with e1 e2 e3
      subst e1 e3
      exact ⟨av, cv, by first | rfl | (rw [e2]; rfl), HB.out, hN⟩

theorem OwnS.at_ {w : World} {base : Nat} {a : Option Addr} {l c : Nat} {ss : List ByteArray} (h : OwnS w base (.slice a l c) ss) : l = ss.length ∧ NewS base w.heap.size w a ss := by
  obtain ⟨a', c', he, hle, hN⟩ := h.newS
  injection he with e1 e2 e3
  subst e1 e3
  exact ⟨e2, hN⟩

end Go.Proofs.YtllggcbogmooeaaDoor
