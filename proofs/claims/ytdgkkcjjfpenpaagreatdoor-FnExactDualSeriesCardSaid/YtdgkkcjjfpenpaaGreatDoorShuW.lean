/-
  The model's words of a shuffle: those of the letters whose number is not 0.
-/
import Derived.Test.YtdgkkcjjfpenpaaGreatDoorShuN
import Derived.Test.YtdgkkcjjfpenpaaGreatDoorMapV
namespace Go.Proofs.YtdgkkcjjfpenpaaGreatDoor
open Go.RowKit
set_option linter.unusedVariables false

theorem filter_take_next {α : Type} (p : α → Bool) (l : List α) (i : Nat) (h : i < l.length) : (l.take (i + 1)).filter p = (l.take i).filter p ++ (if p l[i] then [l[i]] else []) := by
  rw [List.take_succ_eq_append_getElem h, List.filter_append]
  by_cases hp : p l[i] <;> simp [hp]
def shP (v w : ByteArray) (s : ByteArray) : Bool := decide (shN v.data.toList w.data.toList s.data.toList ≠ 0)
set_option maxRecDepth 100000 in
set_option maxHeartbeats 4000000 in
theorem l03Words_c (D : Nat) (hd : 1 ≤ D ∧ D ≤ 3) (v w : ByteArray) (hvw : v.size + w.size ≤ 5) (W : World) :
    Calls Tryz.prog 35 #[.int .i64 D, .string v, .string w] W fun e w' => ∃ a c, e = .returned (.slice a ((wordsL D (v.size + w.size)).filter (shP v w)).length c) ∧ Below W.heap.size W w' ∧ NewS W.heap.size w'.heap.size w' a ((wordsL D (v.size + w.size)).filter (shP v w)) := by
  have hfew := wordsL_few (d := D) (n := v.size + w.size) hd.2 hvw
  have HSz := Lib.hid (wordsL_size D (v.size + w.size))
  have HW := Lib.hid (l01Words_c D (v.size + w.size) hd hvw)
  have hcast : ((v.size : Int) + (w.size : Int)) = ((v.size + w.size : Nat) : Int) := by omega
  have HNum := Lib.hid (fun (s : ByteArray) (hs : s.size ≤ 8) W => num_all s.size v w s rfl hs (by omega) (by omega) W)
  generalize wordsL D (v.size + w.size) = ws at hfew HSz HW ⊢
  rw [← hcast] at HW
  clear hcast
  go_enter Tryz.func35, Tryz.ntmps35
  go_wp2_with fail
  refine (HW.out _).mono ?_
  rintro e w2 ⟨aw, cw, rfl, hb, hN⟩
  have HB2 := Lib.hid hb
  have hz2 := HB2.out.size
  have HNw := Lib.hid hN
  clear hb hN
  go_wp2_with fail
  go_loopw [8, 9] (fun vo vi wr => ∃ (i : Nat) (a : Option Addr) (l c : Nat), i ≤ ws.length ∧ vi = .int .i64 i ∧ vo = .slice a l c ∧ l = ((ws.take i).filter (shP v w)).length ∧ OwnS wr w2.heap.size (.slice a l c) ((ws.take i).filter (shP v w)) ∧ Below w2.heap.size w2 wr) (fun _ vi _ => ws.length - (intOf vi).toNat)
  case atStart => exact ⟨0, _, 0, 0, Nat.zero_le _, rfl, rfl, by simp, OwnS.emptyRow (heap_alloc_new w2 _) (Nat.le_refl _), below1 _ _⟩
  case round =>
    obtain ⟨i, a, l, c, hi, rfl, rfl, hl, hO, hB⟩ := hrel
    have hl2 : l ≤ ws.length := by rw [hl]; exact Nat.le_trans (List.length_filter_le _ _) (by rw [List.length_take]; omega)
    have HO := Lib.hid hO
    have HB := Lib.hid hB
    have HL := Lib.hid hl
    have hz := hB.size
    clear hO hB hl
    by_cases hlt : i < ws.length
    · rcases HNw.out with h | ⟨b, rfl, hb1, hb2, hM, ht⟩
      · rw [h] at hlt; simp at hlt
      have c0 := ht i hlt
      rw [Nat.zero_add] at c0
      have hsz8 : (ws[i]).size ≤ 8 := by have := HSz.out _ (List.getElem_mem hlt); omega
      have c1 := (HB.out.cell (p := ⟨b, i, none⟩) hb2).trans c0
      have hbr : b < wr.heap.size := by omega
      have HT := Lib.hid (filter_take_next (shP v w) ws i hlt)
      clear c0 ht
      generalize ws[i] = s at hsz8 c1 HT
      have HN := Lib.hid (fun W => HNum.out s hsz8 W)
      obtain ⟨x, hx⟩ : ∃ x, shN v.data.toList w.data.toList s.data.toList = x := ⟨_, rfl⟩
      have hp : shP v w s = decide (x ≠ 0) := by unfold shP; rw [hx]
      rw [hp] at HT
      rw [hx] at HN
      clear hx hp
      by_cases h0 : x = 0
      · subst h0
        simp only [ne_eq, not_true_eq_false, decide_false] at HT
        go_wp2_with (go_at_call 36; refine (HN.out _).mono ?_; rintro e w' ⟨rfl, m, rfl⟩)
        go_roundw
        case rel => exact ⟨i + 1, a, l, c, by omega, by congr 1, rfl, by rw [HT.out, HL.out]; simp, by rw [HT.out]; simpa using HO.out.below (below_drewN m) (fun g hg => (HO.out.lt g hg).2), HB.out.trans ((below_drewN m).mono hz)⟩
        case measure => simp [intOf]; omega
      · have hx0 : (0 : Int) < (x : Int) := by omega
        have hdec : decide (x ≠ 0) = true := by simpa using h0
        rw [hdec] at HT
        clear hdec h0
        go_wp2_with (first
          | (go_at_call 36; refine (HN.out _).mono ?_; rintro e w' ⟨rfl, m, rfl⟩; have HOm := Lib.hid (HO.out.below (below_drewN m) (fun g hg => (HO.out.lt g hg).2)); have HBm := Lib.hid (HB.out.trans ((below_drewN (W := wr) m).mono hz)))
          | (at_builtin; refine wpList_append_strs rfl _ _ rfl w2.heap.size (.slice a l c) l ((ws.take i).filter (shP v w)) [s] rfl HL.out (HOm.out.alloc _) _ 1 1 rfl rfl (.inr ⟨_, 0, rfl, strs_one _ _⟩) (by omega) (by simp; omega) ?_))
        intro a3 c3 w3 hO3 hG3 _
        have HO3 := Lib.hid hO3
        have HB3 := Lib.hid (HBm.out.trans (((below1 _ _).mono HBm.out.size).trans (own_grownS (HOm.out.alloc _) hG3 (by simp; omega))))
        clear hO3 hG3
        go_wp2
        go_roundw
        case rel => exact ⟨i + 1, a3, l + 1, c3, by omega, by congr 1, rfl, by rw [HT.out, HL.out]; simp, by rw [HT.out]; simpa using HO3.out, HB3.out⟩
        case measure => simp [intOf]; omega
    · have he : ws.take i = ws := List.take_of_length_le (by omega)
      rw [he] at HO HL
      go_wp2
      go_ret
      obtain ⟨a', c', he, hle, hN⟩ := HO.out.newS
      injection he with e1 e2 e3
      subst e1 e3
      exact ⟨a, c, by first | rfl | (rw [e2]; rfl), HB2.out.trans (HB.out.mono hz2), hN.mono hz2 (Nat.le_refl _)⟩
end Go.Proofs.YtdgkkcjjfpenpaaGreatDoor
