/-
  Contracts of LyndonWords' model.
-/
import Derived.Test.YtolbgdgoambliaaWds8
import Derived.Test.YtolbgdgoambliaaFacS
import Derived.Test.YtolbgdgoambliaaCnt
namespace Go.Proofs.Ytolbgdgoambliaa
open Go.RowKit

theorem sLyndonWords_1 (d n : Int) (h : inB d 1 3 = false ∨ inB n 1 8 = false) (w : World) : Calls Try.prog 15 #[.int .i64 d, .int .i64 n] w (StrPost [] 2 w) := by
  cases h1 : inB d 1 3 with
  | false =>
    have H1 := Lib.hid h1
    clear h h1
    go_enter Try.func15, Try.ntmps15
    go_wp2_with (first | (go_at_call 41; refine (l01In_c _ _ _ _).mono ?_; rw [H1.out]; rintro e w' ⟨rfl, rfl⟩))
    go_ret2
    exact ⟨none, 0, rfl, Below.refl _ _, .inl rfl⟩
  | true =>
    have H1 := Lib.hid h1
    have H2 := Lib.hid (h.resolve_left (by rw [h1]; simp))
    clear h h1
    go_enter Try.func15, Try.ntmps15
    go_wp2_with (first | (go_at_call 41; refine (l01In_c _ _ _ _).mono ?_; (first | rw [H1.out] | rw [H2.out]); rintro e w' ⟨rfl, rfl⟩))
    go_ret2
    exact ⟨none, 0, rfl, Below.refl _ _, .inl rfl⟩
theorem sLyndonWords_2 (d : Int) (n : Nat) (hd : 1 ≤ d ∧ d ≤ 3) (h1 : 1 ≤ n) (hn : n ≤ 8) (hc : ap d 20 n / n > 400) (w : World) : Calls Try.prog 15 #[.int .i64 d, .int .i64 n] w (StrPost [] 3 w) := by
  have H1 := Lib.hid (inB_yes (n := d) (lo := 1) (hi := 3) hd)
  have H2 := Lib.hid (inB_yes (n := (n : Int)) (lo := 1) (hi := 8) (by omega))
  have HC := Lib.hid (l05Count_c d n hd h1 (by omega))
  obtain ⟨x, hx⟩ : ∃ x, ap d 20 n / n = x := ⟨_, rfl⟩
  rw [hx] at hc HC
  clear hx
  go_enter Try.func15, Try.ntmps15
  go_wp2_with (first | (go_at_call 41; refine (l01In_c _ _ _ _).mono ?_; (first | rw [H1.out] | rw [H2.out]); rintro e w' ⟨rfl, rfl⟩) | fail)
  refine (HC.out _).mono ?_
  rintro e w1 ⟨rfl, hb⟩
  go_wp2
  go_ret2
  exact ⟨none, 0, rfl, hb, .inl rfl⟩
theorem filter_take_succ {α : Type} (p : α → Bool) (l : List α) (i : Nat) (h : i < l.length) : (l.take (i + 1)).filter p = (l.take i).filter p ++ (if p l[i] then [l[i]] else []) := by
  rw [List.take_succ_eq_append_getElem h, List.filter_append]
  by_cases hp : p l[i] <;> simp [hp]
set_option maxRecDepth 100000 in
set_option maxHeartbeats 4000000 in
theorem sLyndonWords_3 (D N : Nat) (hd : 1 ≤ D ∧ D ≤ 3) (h1 : 1 ≤ N) (hn : N ≤ 8) (hc : ¬ ap (D : Int) 20 N / N > 400) (w : World) : Calls Try.prog 15 #[.int .i64 D, .int .i64 N] w (StrPost ((wordsL D N).filter lynB) 0 w) := by
  have H1 := Lib.hid (inB_yes (n := (D : Int)) (lo := 1) (hi := 3) (by omega))
  have H2 := Lib.hid (inB_yes (n := (N : Int)) (lo := 1) (hi := 8) (by omega))
  have HC := Lib.hid (l05Count_c (D : Int) N (by omega) h1 (by omega))
  obtain ⟨x, hx⟩ : ∃ x, ap (D : Int) 20 N / N = x := ⟨_, rfl⟩
  rw [hx] at hc HC
  clear hx
  have hfew := wordsL_few8 (d := D) (n := N) hd.2 hn
  have HSz := Lib.hid (wordsL_size D N)
  have HW := Lib.hid (l01Words8_c D N hd hn)
  generalize wordsL D N = ws at hfew HSz HW ⊢
  go_enter Try.func15, Try.ntmps15
  go_wp2_with (first | (go_at_call 41; refine (l01In_c _ _ _ _).mono ?_; (first | rw [H1.out] | rw [H2.out]); rintro e w' ⟨rfl, rfl⟩) | fail)
  refine (HC.out _).mono ?_
  rintro e w1 ⟨rfl, hb⟩
  have HB1 := Lib.hid hb
  have hz1 := hb.size
  clear hb
  go_wp2_with fail
  refine (HW.out _).mono ?_
  rintro e w2 ⟨aw, cw, rfl, hb, hN⟩
  have HB2 := Lib.hid (HB1.out.trans (hb.mono hz1))
  have hz2 := HB2.out.size
  have HNw := Lib.hid hN
  clear hb hN
  go_wp2_with fail
  go_loopw [7, 8] (fun vo vi wr => ∃ (i : Nat) (a : Option Addr) (l c : Nat), i ≤ ws.length ∧ vi = .int .i64 i ∧ vo = .slice a l c ∧ l = ((ws.take i).filter lynB).length ∧ OwnS wr w2.heap.size (.slice a l c) ((ws.take i).filter lynB) ∧ Below w2.heap.size w2 wr) (fun _ vi _ => ws.length - (intOf vi).toNat)
  case atStart => exact ⟨0, _, 0, 0, Nat.zero_le _, rfl, rfl, by simp, OwnS.emptyRow (heap_alloc_new w2 _) (Nat.le_refl _), below1 _ _⟩
  case round =>
    obtain ⟨i, a, l, c, hi, rfl, rfl, hl, hO, hB⟩ := hrel
    have hl2 : l ≤ ws.length := by rw [hl]; exact Nat.le_trans (List.length_filter_le _ _) (by rw [List.length_take]; omega)
    have HO := Lib.hid hO
    have HB := Lib.hid hB
    have HL := Lib.hid hl
    have hz := hB.size
    clear hO hB hl
    by_cases hlt : i < ws.length
    · rcases HNw.out with h | ⟨b, rfl, hb1, hb2, hM, ht⟩
      · rw [h] at hlt; simp at hlt
      have c0 := ht i hlt
      rw [Nat.zero_add] at c0
      have hsz : (ws[i]).size ≤ maxLen := by have := HSz.out _ (List.getElem_mem hlt); unfold maxLen; omega
      have c1 := (HB.out.cell (p := ⟨b, i, none⟩) hb2).trans c0
      have hbr : b < wr.heap.size := by omega
      have HT := Lib.hid (filter_take_succ lynB ws i hlt)
      have HI := Lib.hid (List.getElem?_eq_getElem hlt)
      clear c0 ht
      generalize ws[i] = s at hsz c1 HT HI
      cases hly : lynB s with
      | false =>
        have HLy := Lib.hid hly
        rw [hly] at HT
        clear hly
        go_wp2_with (go_at_call 33; refine (l05Lyndon_c _ hsz _).mono ?_; rw [HLy.out]; rintro e w' ⟨rfl, rfl⟩)
        go_roundw
        case rel => exact ⟨i + 1, a, l, c, by omega, by congr 1, rfl, by rw [HT.out, HL.out]; simp, by rw [HT.out]; simpa using HO.out, HB.out⟩
        case measure => simp [intOf]; omega
      | true =>
        have HLy := Lib.hid hly
        rw [hly] at HT
        clear hly
        go_wp2_with (first | (go_at_call 33; refine (l05Lyndon_c _ hsz _).mono ?_; rw [HLy.out]; rintro e w' ⟨rfl, rfl⟩) | (at_builtin; refine wpList_append_strs rfl _ _ rfl w2.heap.size (.slice a l c) l ((ws.take i).filter lynB) [s] rfl HL.out (HO.out.alloc _) _ 1 1 rfl rfl (.inr ⟨_, 0, rfl, strs_one _ _⟩) (by omega) (by simp; omega) ?_))
        intro a3 c3 w3 hO3 hG3 _
        have HO3 := Lib.hid hO3
        have HB3 := Lib.hid (HB.out.trans (((below1 _ _).mono hz).trans (own_grownS (HO.out.alloc _) hG3 (by simp; omega))))
        clear hO3 hG3
        go_wp2
        go_roundw
        case rel => exact ⟨i + 1, a3, l + 1, c3, by omega, by congr 1, rfl, by rw [HT.out, HL.out]; simp, by rw [HT.out]; simpa using HO3.out, HB3.out⟩
        case measure => simp [intOf]; omega
    · have he : ws.take i = ws := List.take_of_length_le (by omega)
      rw [he] at HO HL
      go_wp2
      go_ret2
      obtain ⟨a', c', he, hle, hN⟩ := HO.out.newS
      injection he with e1 e2 e3
      subst e1 e3
      exact ⟨a, c, by first | rfl | (rw [e2]; rfl), HB2.out.trans (HB.out.mono hz2), hN.mono hz2 (Nat.le_refl _)⟩
end Go.Proofs.Ytolbgdgoambliaa
