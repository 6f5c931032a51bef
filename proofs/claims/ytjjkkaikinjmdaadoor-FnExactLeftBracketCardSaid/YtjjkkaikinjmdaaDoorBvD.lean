/-
  Contracts of BracketOf and LeftBracket, of the program and of its model: both return the same series and code.
-/
import Derived.Test.YtjjkkaikinjmdaaDoorBvS
import Derived.Test.YtjjkkaikinjmdaaDoorBvI
import Derived.Test.YtjjkkaikinjmdaaDoorNew4
namespace Go.Proofs.YtjjkkaikinjmdaaDoor
open Go.RowKit

/-- what letters, a text and a limit of letters come to -/
def codeM (L : Int) (s : ByteArray) (m : Int) : Int := if inB L 1 3 = true then (if wordB L s.data.toList = true then (if (s.size : Int) ≤ m then 0 else 2) else 1) else 2
theorem checkSpelledM_c (L m : Int) (s : ByteArray) (hs : s.size ≤ maxLen) (c : Int) (hc : codeM L s m = c) (w : World) :
    Calls Tryd.prog 34 #[.int .i64 L, .string s, .int .i64 m] w fun e w' => e = .returned (.int .i64 c) ∧ w = w' := by
  have HL := Lib.hid (areLetters_c L s hs w)
  unfold maxLen at hs
  unfold codeM at hc
  cases h1 : inB L 1 3 with
  | false =>
    rw [h1, if_neg (by simp)] at hc
    subst hc
    go_enter Tryd.func34, Tryd.ntmps34
    go_wp2_with (first | (go_at_call 50; refine (isBetween_c _ _ _ _).mono ?_; rw [h1]; rintro e w' ⟨rfl, rfl⟩) | fail)
    go_ret
    exact ⟨rfl, rfl⟩
  | true =>
    rw [h1, if_pos rfl] at hc
    cases h2 : wordB L s.data.toList with
    | false =>
      rw [h2, if_neg (by simp)] at hc
      rw [h2] at HL
      subst hc
      clear h2
      go_enter Tryd.func34, Tryd.ntmps34
      go_wp2_with (first | (go_at_call 50; refine (isBetween_c _ _ _ _).mono ?_; rw [h1]; rintro e w' ⟨rfl, rfl⟩) | (go_at_call 51; refine HL.out.mono ?_; rintro e w' ⟨rfl, rfl⟩) | fail)
      go_ret
      exact ⟨rfl, rfl⟩
    | true =>
      rw [h2, if_pos rfl] at hc
      rw [h2] at HL
      clear h2
      by_cases h3 : (s.size : Int) ≤ m
      · rw [if_pos h3] at hc
        subst hc
        go_enter Tryd.func34, Tryd.ntmps34
        go_wp2_with (first | (go_at_call 50; refine (isBetween_c _ _ _ _).mono ?_; rw [h1]; rintro e w' ⟨rfl, rfl⟩) | (go_at_call 51; refine HL.out.mono ?_; rintro e w' ⟨rfl, rfl⟩) | fail)
        go_ret
        exact ⟨rfl, rfl⟩
      · rw [if_neg h3] at hc
        subst hc
        have h3' : m < (s.size : Int) := by omega
        go_enter Tryd.func34, Tryd.ntmps34
        go_wp2_with (first | (go_at_call 50; refine (isBetween_c _ _ _ _).mono ?_; rw [h1]; rintro e w' ⟨rfl, rfl⟩) | (go_at_call 51; refine HL.out.mono ?_; rintro e w' ⟨rfl, rfl⟩) | fail)
        go_ret
        exact ⟨rfl, rfl⟩
theorem codeM_W {L V : Int} {s : ByteArray} : codeW L V s = if codeM L s V = 0 then (if shapeB L V = true then 0 else 2) else codeM L s V := by
  unfold codeW codeM
  split
  · split
    · by_cases h : (s.size : Int) ≤ V
      · by_cases h2 : shapeB L V = true
        · simp [h, h2]
        · simp [h, h2]
      · simp [h]
    · simp
  · simp
theorem checkBracketed_c (L V : Int) (s : ByteArray) (hs : s.size ≤ maxLen) (c : Int) (hc : codeW L V s = c) (w : World) :
    Calls Tryd.prog 15 #[.int .i64 L, .int .i64 V, .string s] w fun e w' => e = .returned (.int .i64 c) ∧ w = w' := by
  rw [codeM_W] at hc
  obtain ⟨k, hk⟩ : ∃ k, codeM L s V = k := ⟨_, rfl⟩
  have HK := Lib.hid (checkSpelledM_c L V s hs k hk w)
  rw [hk] at hc
  clear hk
  by_cases h0 : k = 0
  · rw [if_pos h0] at hc
    subst h0
    cases h3 : shapeB L V with
    | false =>
      rw [h3, if_neg (by simp)] at hc
      subst hc
      go_enter Tryd.func15, Tryd.ntmps15
      go_wp2_with (first | (go_at_call 34; refine HK.out.mono ?_; rintro e w' ⟨rfl, rfl⟩) | (go_at_call 35; refine (isShape_c _ _ _).mono ?_; rw [h3]; rintro e w' ⟨rfl, rfl⟩) | fail)
      go_ret
      exact ⟨rfl, rfl⟩
    | true =>
      rw [h3, if_pos rfl] at hc
      subst hc
      go_enter Tryd.func15, Tryd.ntmps15
      go_wp2_with (first | (go_at_call 34; refine HK.out.mono ?_; rintro e w' ⟨rfl, rfl⟩) | (go_at_call 35; refine (isShape_c _ _ _).mono ?_; rw [h3]; rintro e w' ⟨rfl, rfl⟩) | fail)
      go_ret
      exact ⟨rfl, rfl⟩
  · rw [if_neg h0] at hc
    subst hc
    have hcn : (k != 0) = true := by simpa using h0
    go_enter Tryd.func15, Tryd.ntmps15
    go_wp2_with (first | (go_at_call 34; refine HK.out.mono ?_; rintro e w' ⟨rfl, rfl⟩) | fail)
    go_ret
    exact ⟨rfl, rfl⟩

set_option maxHeartbeats 1000000 in
theorem sBracketOf_1 (L V : Int) (s : ByteArray) (hs : s.size ≤ maxLen) (c : Int) (hc : codeW L V s = c) (hc0 : c ≠ 0) (w : World) :
    Calls Tryd.prog 5 #[.int .i64 L, .int .i64 V, .string s] w (SerPost 0 0 [] c w) := by
  have HC := Lib.hid hc
  have hcn : (c != 0) = true := by simpa using hc0
  clear hc hc0
  go_enter Tryd.func5, Tryd.ntmps5
  go_wp2_with (first | (go_at_call 12; refine (l06Word_c _ _ _ hs c HC.out _).mono ?_; rintro e w' ⟨rfl, rfl⟩) | fail)
  exact bodyPost_ret (v := .tuple #[.agg #[.int .i64 0, .int .i64 0, .slice none 0 0], .int .i64 c]) (by simp [results, Tryd.results5, go_sem]) rfl (SerPost.err c rfl (by go_grown))

set_option maxHeartbeats 1000000 in
theorem sLeftBracket_1 (L V : Int) (s : ByteArray) (hs : s.size ≤ maxLen) (c : Int) (hc : codeW L V s = c) (hc0 : c ≠ 0) (w : World) :
    Calls Tryd.prog 10 #[.int .i64 L, .int .i64 V, .string s] w (SerPost 0 0 [] c w) := by
  have HC := Lib.hid hc
  have hcn : (c != 0) = true := by simpa using hc0
  clear hc hc0
  go_enter Tryd.func10, Tryd.ntmps10
  go_wp2_with (first | (go_at_call 12; refine (l06Word_c _ _ _ hs c HC.out _).mono ?_; rintro e w' ⟨rfl, rfl⟩) | fail)
  exact bodyPost_ret (v := .tuple #[.agg #[.int .i64 0, .int .i64 0, .slice none 0 0], .int .i64 c]) (by simp [results, Tryd.results10, go_sem]) rfl (SerPost.err c rfl (by go_grown))

set_option maxHeartbeats 1000000 in
theorem iBracketOf_1 (L V : Int) (s : ByteArray) (hs : s.size ≤ maxLen) (c : Int) (hc : codeW L V s = c) (hc0 : c ≠ 0) (w : World) :
    Calls Tryd.prog 6 #[.int .i64 L, .int .i64 V, .string s] w (SerPost 0 0 [] c w) := by
  have HC := Lib.hid hc
  have hcn : (c != 0) = true := by simpa using hc0
  clear hc hc0
  go_enter Tryd.func6, Tryd.ntmps6
  go_wp2_with (first | (go_at_call 15; refine (checkBracketed_c _ _ _ hs c HC.out _).mono ?_; rintro e w' ⟨rfl, rfl⟩) | fail)
  exact bodyPost_ret (v := .tuple #[.agg #[.int .i64 0, .int .i64 0, .slice none 0 0], .int .i64 c]) (by simp [results, Tryd.results6, go_sem]) rfl (SerPost.err c rfl (by go_grown))

set_option maxHeartbeats 1000000 in
theorem iLeftBracket_1 (L V : Int) (s : ByteArray) (hs : s.size ≤ maxLen) (c : Int) (hc : codeW L V s = c) (hc0 : c ≠ 0) (w : World) :
    Calls Tryd.prog 11 #[.int .i64 L, .int .i64 V, .string s] w (SerPost 0 0 [] c w) := by
  have HC := Lib.hid hc
  have hcn : (c != 0) = true := by simpa using hc0
  clear hc hc0
  go_enter Tryd.func11, Tryd.ntmps11
  go_wp2_with (first | (go_at_call 15; refine (checkBracketed_c _ _ _ hs c HC.out _).mono ?_; rintro e w' ⟨rfl, rfl⟩) | fail)
  exact bodyPost_ret (v := .tuple #[.agg #[.int .i64 0, .int .i64 0, .slice none 0 0], .int .i64 c]) (by simp [results, Tryd.results11, go_sem]) rfl (SerPost.err c rfl (by go_grown))

set_option maxHeartbeats 1000000 in
theorem sBracketOf_2 (L V : Int) (s : ByteArray) (hs : s.size ≤ maxLen) (hc : codeW L V s = 0) (hy : lynB s = false) (w : World) :
    Calls Tryd.prog 5 #[.int .i64 L, .int .i64 V, .string s] w (SerPost 0 0 [] 5 w) := by
  have HC := Lib.hid hc
  have HY := Lib.hid hy
  clear hc hy
  go_enter Tryd.func5, Tryd.ntmps5
  go_wp2_with (first | (go_at_call 12; refine (l06Word_c _ _ _ hs 0 HC.out _).mono ?_; rintro e w' ⟨rfl, rfl⟩) | (go_at_call 13; refine (l06Lyndon_c _ hs _).mono ?_; rw [HY.out]; rintro e w' ⟨rfl, rfl⟩) | fail)
  exact bodyPost_ret (v := .tuple #[.agg #[.int .i64 0, .int .i64 0, .slice none 0 0], .int .i64 5]) (by simp [results, Tryd.results5, go_sem]) rfl (SerPost.err 5 rfl (by go_grown))

set_option maxHeartbeats 1000000 in
theorem iBracketOf_2 (L V : Int) (s : ByteArray) (hs : s.size ≤ maxLen) (hc : codeW L V s = 0) (hy : lynB s = false) (w : World) :
    Calls Tryd.prog 6 #[.int .i64 L, .int .i64 V, .string s] w (SerPost 0 0 [] 5 w) := by
  have HC := Lib.hid hc
  have HY := Lib.hid hy
  clear hc hy
  go_enter Tryd.func6, Tryd.ntmps6
  go_wp2_with (first | (go_at_call 15; refine (checkBracketed_c _ _ _ hs 0 HC.out _).mono ?_; rintro e w' ⟨rfl, rfl⟩) | (go_at_call 16; refine (isLyndon_c _ hs _).mono ?_; rw [HY.out]; rintro e w' ⟨rfl, rfl⟩) | fail)
  exact bodyPost_ret (v := .tuple #[.agg #[.int .i64 0, .int .i64 0, .slice none 0 0], .int .i64 5]) (by simp [results, Tryd.results6, go_sem]) rfl (SerPost.err 5 rfl (by go_grown))

set_option maxRecDepth 100000 in
set_option maxHeartbeats 4000000 in
theorem sBracketOf_3 (D N : Nat) (s : ByteArray) (hc : codeW (D : Int) (N : Int) s = 0) (b : Brk) (hb : BrkOf s b) (hy : lynB s = true) (w : World) :
    Calls Tryd.prog 5 #[.int .i64 D, .int .i64 N, .string s] w (FitB D N (brkV (allW D N) b) w) := by
  have h0 := codeW_0 hc
  have hDN := shape_out h0.2.1
  have hz5 : s.size ≤ 1000 := by omega
  have hs : s.size ≤ maxLen := by unfold maxLen; omega
  have HC := Lib.hid hc
  have HY := Lib.hid hy
  have HP := Lib.hid (fun W => l06Bracket_c D N (by omega) (by omega) hb hz5 (brk_in (by omega) (by omega) hb h0.1) none 0 0 W)
  clear hy hb
  obtain ⟨o, ho⟩ : ∃ o, brkV (allW D N) b = o := ⟨_, rfl⟩
  rw [ho] at HP ⊢
  clear hc h0 ho
  go_enter Tryd.func5, Tryd.ntmps5
  go_wp2_with (first | (go_at_call 12; refine (l06Word_c _ _ _ hs 0 HC.out _).mono ?_; rintro e w' ⟨rfl, rfl⟩) | (go_at_call 13; refine (l06Lyndon_c _ hs _).mono ?_; rw [HY.out]; rintro e w' ⟨rfl, rfl⟩) | fail)
  refine (HP.out _).mono ?_
  cases o with
  | none =>
    rintro e w1 ⟨rfl, hb1⟩
    have hz1 : w.heap.size < w1.heap.size := by have := hb1.size; simp at this; omega
    have HB1 := Lib.hid (show Below (w.heap.size + 1) _ w1 from by simpa using hb1)
    have bc := bcellB HB1.out
    have r0 : w1.cell? ⟨w.heap.size, 0, none⟩ = some (.int .i64 0) := (bc.1 _ _ (by omega)).trans (by go_simp)
    have r1 : w1.cell? ⟨w.heap.size, 1, none⟩ = some (.int .i64 0) := (bc.1 _ _ (by omega)).trans (by go_simp)
    have r2 : w1.cell? ⟨w.heap.size, 2, none⟩ = some (.slice none 0 0) := (bc.1 _ _ (by omega)).trans (by go_simp)
    have z0 : w1.frozen? ⟨w.heap.size, 0, none⟩ = false := (bc.2 _ _ (by omega)).trans (by go_simp)
    have z1 : w1.frozen? ⟨w.heap.size, 1, none⟩ = false := (bc.2 _ _ (by omega)).trans (by go_simp)
    have z2 : w1.frozen? ⟨w.heap.size, 2, none⟩ = false := (bc.2 _ _ (by omega)).trans (by go_simp)
    have HW := Lib.hid ((below1 w (.cells #[.int .i64 0, .int .i64 0, .slice none 0 0] 24)).trans (HB1.out.mono (by omega)))
    clear bc hb1
    go_wp2
    refine bodyPost_ret (v := .tuple #[.agg #[.int .i64 0, .int .i64 0, .slice none 0 0], .int .i64 3]) (by simp [results, Tryd.results5, go_sem, r0, r1, r2, hz1]) rfl (SerPost.err 3 rfl ?_)
    have hW := HW.out
    go_grown
  | some h =>
    rintro e w1 ⟨a1, c1, rfl, hb1, hN1⟩
    have hz1 : w.heap.size < w1.heap.size := by have := hb1.size; simp at this; omega
    have HB1 := Lib.hid (show Below (w.heap.size + 1) _ w1 from by simpa using hb1)
    have HN1 := Lib.hid (hN1.mono (show w.heap.size + 1 ≤ _ by simp) (Nat.le_refl _))
    have bc := bcellB HB1.out
    have r0 : w1.cell? ⟨w.heap.size, 0, none⟩ = some (.int .i64 0) := (bc.1 _ _ (by omega)).trans (by go_simp)
    have r1 : w1.cell? ⟨w.heap.size, 1, none⟩ = some (.int .i64 0) := (bc.1 _ _ (by omega)).trans (by go_simp)
    have r2 : w1.cell? ⟨w.heap.size, 2, none⟩ = some (.slice none 0 0) := (bc.1 _ _ (by omega)).trans (by go_simp)
    have z0 : w1.frozen? ⟨w.heap.size, 0, none⟩ = false := (bc.2 _ _ (by omega)).trans (by go_simp)
    have z1 : w1.frozen? ⟨w.heap.size, 1, none⟩ = false := (bc.2 _ _ (by omega)).trans (by go_simp)
    have z2 : w1.frozen? ⟨w.heap.size, 2, none⟩ = false := (bc.2 _ _ (by omega)).trans (by go_simp)
    have HW := Lib.hid ((below1 w (.cells #[.int .i64 0, .int .i64 0, .slice none 0 0] 24)).trans (HB1.out.mono (by omega)))
    clear bc hb1 hN1
    go_wp2
    refine bodyPost_ret (v := .tuple #[.agg #[.int .i64 D, .int .i64 N, .slice a1 (termsOf h (allW D N)).length c1], .int .i64 0]) (by simp [results, Tryd.results5, go_sem, r0, r1, r2, hz1]) rfl ⟨a1, c1, rfl, ?_, ?_⟩
    · have hW := HW.out
      go_grown
    · exact (((HN1.out.far3u (n := w.heap.size) (by omega)).below (below1 _ _) (by simp)).mono (by omega) (by simp))

set_option maxRecDepth 100000 in
set_option maxHeartbeats 4000000 in
theorem sLeftBracket_3 (D N : Nat) (s : ByteArray) (hc : codeW (D : Int) (N : Int) s = 0)  (w : World) :
    Calls Tryd.prog 10 #[.int .i64 D, .int .i64 N, .string s] w (FitB D N (leftW (allW D N) s) w) := by
  have h0 := codeW_0 hc
  have hDN := shape_out h0.2.1
  have hz5 : s.size ≤ 1000 := by omega
  have hs : s.size ≤ maxLen := by unfold maxLen; omega
  have HC := Lib.hid hc
  have HP := Lib.hid (fun W => l06Left_c D N (by omega) (by omega) (by omega) s hz5 h0.1 none 0 0 W)
  obtain ⟨o, ho⟩ : ∃ o, leftW (allW D N) s = o := ⟨_, rfl⟩
  rw [ho] at HP ⊢
  clear hc h0 ho
  go_enter Tryd.func10, Tryd.ntmps10
  go_wp2_with (first | (go_at_call 12; refine (l06Word_c _ _ _ hs 0 HC.out _).mono ?_; rintro e w' ⟨rfl, rfl⟩) | fail)
  refine (HP.out _).mono ?_
  cases o with
  | none =>
    rintro e w1 ⟨rfl, hb1⟩
    have hz1 : w.heap.size < w1.heap.size := by have := hb1.size; simp at this; omega
    have HB1 := Lib.hid (show Below (w.heap.size + 1) _ w1 from by simpa using hb1)
    have bc := bcellB HB1.out
    have r0 : w1.cell? ⟨w.heap.size, 0, none⟩ = some (.int .i64 0) := (bc.1 _ _ (by omega)).trans (by go_simp)
    have r1 : w1.cell? ⟨w.heap.size, 1, none⟩ = some (.int .i64 0) := (bc.1 _ _ (by omega)).trans (by go_simp)
    have r2 : w1.cell? ⟨w.heap.size, 2, none⟩ = some (.slice none 0 0) := (bc.1 _ _ (by omega)).trans (by go_simp)
    have z0 : w1.frozen? ⟨w.heap.size, 0, none⟩ = false := (bc.2 _ _ (by omega)).trans (by go_simp)
    have z1 : w1.frozen? ⟨w.heap.size, 1, none⟩ = false := (bc.2 _ _ (by omega)).trans (by go_simp)
    have z2 : w1.frozen? ⟨w.heap.size, 2, none⟩ = false := (bc.2 _ _ (by omega)).trans (by go_simp)
    have HW := Lib.hid ((below1 w (.cells #[.int .i64 0, .int .i64 0, .slice none 0 0] 24)).trans (HB1.out.mono (by omega)))
    clear bc hb1
    go_wp2
    refine bodyPost_ret (v := .tuple #[.agg #[.int .i64 0, .int .i64 0, .slice none 0 0], .int .i64 3]) (by simp [results, Tryd.results10, go_sem, r0, r1, r2, hz1]) rfl (SerPost.err 3 rfl ?_)
    have hW := HW.out
    go_grown
  | some h =>
    rintro e w1 ⟨a1, c1, rfl, hb1, hN1⟩
    have hz1 : w.heap.size < w1.heap.size := by have := hb1.size; simp at this; omega
    have HB1 := Lib.hid (show Below (w.heap.size + 1) _ w1 from by simpa using hb1)
    have HN1 := Lib.hid (hN1.mono (show w.heap.size + 1 ≤ _ by simp) (Nat.le_refl _))
    have bc := bcellB HB1.out
    have r0 : w1.cell? ⟨w.heap.size, 0, none⟩ = some (.int .i64 0) := (bc.1 _ _ (by omega)).trans (by go_simp)
    have r1 : w1.cell? ⟨w.heap.size, 1, none⟩ = some (.int .i64 0) := (bc.1 _ _ (by omega)).trans (by go_simp)
    have r2 : w1.cell? ⟨w.heap.size, 2, none⟩ = some (.slice none 0 0) := (bc.1 _ _ (by omega)).trans (by go_simp)
    have z0 : w1.frozen? ⟨w.heap.size, 0, none⟩ = false := (bc.2 _ _ (by omega)).trans (by go_simp)
    have z1 : w1.frozen? ⟨w.heap.size, 1, none⟩ = false := (bc.2 _ _ (by omega)).trans (by go_simp)
    have z2 : w1.frozen? ⟨w.heap.size, 2, none⟩ = false := (bc.2 _ _ (by omega)).trans (by go_simp)
    have HW := Lib.hid ((below1 w (.cells #[.int .i64 0, .int .i64 0, .slice none 0 0] 24)).trans (HB1.out.mono (by omega)))
    clear bc hb1 hN1
    go_wp2
    refine bodyPost_ret (v := .tuple #[.agg #[.int .i64 D, .int .i64 N, .slice a1 (termsOf h (allW D N)).length c1], .int .i64 0]) (by simp [results, Tryd.results10, go_sem, r0, r1, r2, hz1]) rfl ⟨a1, c1, rfl, ?_, ?_⟩
    · have hW := HW.out
      go_grown
    · exact (((HN1.out.far3u (n := w.heap.size) (by omega)).below (below1 _ _) (by simp)).mono (by omega) (by simp))

set_option maxRecDepth 100000 in
set_option maxHeartbeats 4000000 in
theorem bracketWork (D N : Nat) (hD : 1 ≤ D ∧ D ≤ 3) (hN : N ≤ 5) (hN1 : 1 ≤ N) (s : ByteArray) (b : Brk) (hb : BrkOf s b) (hz : s.size ≤ 1000) (hw : wordB (D : Int) s.data.toList = true) (p px : Nat) (aS : Option Addr) (cS : Nat) (w : World) (hp : p < w.heap.size) (hpx : px < w.heap.size) (s0 : w.cell? ⟨p, 0, none⟩ = some (.int .i64 D)) (s1 : w.cell? ⟨p, 1, none⟩ = some (.int .i64 N)) (s2 : w.cell? ⟨p, 2, none⟩ = some (.slice aS (allW D N).length cS)) (x0 : w.cell? ⟨px, 0, none⟩ = some (.string s)) (hrs : SRow w aS (allW D N)) :
    Calls Tryd.prog 19 #[.pointer (some ⟨px, 0, none⟩), .pointer (some ⟨p, 0, none⟩)] w (WorkPost (brkV (allW D N) b) w) := by
  have hfew := allW_few (D := D) hD.2 (n := N) hN
  have HA := Lib.hid (hA_of hrs)
  have HBo := Lib.hid (fun W => bracketOf_c hb hz W)
  have hin : b.inW (allW D N) := brk_in hD.2 hN1 hb hw
  have HR := Lib.hid hrs
  have HVi := Lib.hid (fun q W h1 h2 h3 h4 => valuesIn_c (D : Int) (N : Int) aS cS (allW D N) (by omega) (fun s hs => by have := allW_size D N s hs; omega) b q hin W h1 h2 h3 h4)
  obtain ⟨o, ho⟩ : ∃ o, brkV (allW D N) b = o := ⟨_, rfl⟩
  rw [ho] at HVi ⊢
  have KS := Lib.hid (show ∀ w', Below w.heap.size w w' → (w'.cell? ⟨p, 0, none⟩ = some (.int .i64 D) ∧ w'.cell? ⟨p, 1, none⟩ = some (.int .i64 N) ∧ w'.cell? ⟨p, 2, none⟩ = some (.slice aS (allW D N).length cS) ∧ w'.cell? ⟨px, 0, none⟩ = some (.string s)) from fun w' hb => ⟨(hb.cell (p := ⟨p, 0, none⟩) hp).trans s0, (hb.cell (p := ⟨p, 1, none⟩) hp).trans s1, (hb.cell (p := ⟨p, 2, none⟩) hp).trans s2, (hb.cell (p := ⟨px, 0, none⟩) hpx).trans x0⟩)
  clear hrs hw hz hin ho hb hfew
  go_enter Tryd.func19, Tryd.ntmps19
  go_wp2_with fail
  have HBw := Lib.hid (fun W (_ : Below w.heap.size w W) => HBo.out W)
  have HVw := Lib.hid (fun q W (hW : Below w.heap.size w W) (hT : InT W b q) => HVi.out q W hT.lt hT (HR.out.below hW (Nat.le_refl _)) (fun r e => by have := HA.out r e; have := hW.size; omega))
  go_region_held2 (fun w' => w'.cell? ⟨p, 0, none⟩ = some (.int .i64 D) ∧ w'.cell? ⟨p, 1, none⟩ = some (.int .i64 N) ∧ w'.cell? ⟨p, 2, none⟩ = some (.slice aS (allW D N).length cS) ∧ w'.cell? ⟨px, 0, none⟩ = some (.string s))
    ((refine KS.out _ ?_; repeat' (first | with_reducible assumption | with_reducible exact Below.refl _ _ | (with_reducible refine Below.drew ?_) | (with_reducible refine Below.setCell ?_ (by (try dsimp only); omega) _) | (with_reducible refine Below.alloc ?_ (by (try simp only [World.size_setCell]); (try simp only [World.size_drew]); (try simp only [World.size_alloc]); (try simp only [World.size_setCell]); (try simp only [World.size_alloc]); omega) _))))
    (first
      | (go_at_call 20; (with_reducible refine (HBw.out _ ?_).mono ?_); (focus repeat' (first | with_reducible assumption | with_reducible exact Below.refl _ _ | (with_reducible refine Below.drew ?_) | (with_reducible refine Below.setCell ?_ (by (try dsimp only); omega) _) | (with_reducible refine Below.alloc ?_ (by (try simp only [World.size_setCell]); (try simp only [World.size_drew]); (try simp only [World.size_alloc]); (try simp only [World.size_setCell]); (try simp only [World.size_alloc]); omega) _))); rintro e w2 ⟨⟨q, rfl, hT⟩, hb0⟩; have hbl : Below w.heap.size w w2 := below_step (by repeat' (first | with_reducible assumption | with_reducible exact Below.refl _ _ | (with_reducible refine Below.drew ?_) | (with_reducible refine Below.setCell ?_ (by (try dsimp only); omega) _) | (with_reducible refine Below.alloc ?_ (by (try simp only [World.size_setCell]); (try simp only [World.size_drew]); (try simp only [World.size_alloc]); (try simp only [World.size_setCell]); (try simp only [World.size_alloc]); omega) _))) hb0 (Nat.le_refl _))
      | (go_at_call 22; (with_reducible refine work_or (HVw.out q _ ?_ ?_) ?_ ?_); (focus repeat' (first | with_reducible assumption | with_reducible exact Below.refl _ _ | (with_reducible refine Below.drew ?_) | (with_reducible refine Below.setCell ?_ (by (try dsimp only); omega) _) | (with_reducible refine Below.alloc ?_ (by (try simp only [World.size_setCell]); (try simp only [World.size_drew]); (try simp only [World.size_alloc]); (try simp only [World.size_setCell]); (try simp only [World.size_alloc]); omega) _))); (focus (with_reducible exact hT)); (focus (intro e w' hb'; refine ⟨rfl, ?_⟩; rw [e]; exact ⟨rfl, below_step (by repeat' (first | with_reducible assumption | with_reducible exact Below.refl _ _ | (with_reducible refine Below.drew ?_) | (with_reducible refine Below.setCell ?_ (by (try dsimp only); omega) _) | (with_reducible refine Below.alloc ?_ (by (try simp only [World.size_setCell]); (try simp only [World.size_drew]); (try simp only [World.size_alloc]); (try simp only [World.size_setCell]); (try simp only [World.size_alloc]); omega) _))) hb' (Nat.le_refl _)⟩)); intro bc nc fc wc eC hlc hb0 hnc hMc; have hlz := hbl.size; have hbc : Below w.heap.size w wc := below_step (by repeat' (first | with_reducible assumption | with_reducible exact Below.refl _ _ | (with_reducible refine Below.drew ?_) | (with_reducible refine Below.setCell ?_ (by (try dsimp only); omega) _) | (with_reducible refine Below.alloc ?_ (by (try simp only [World.size_setCell]); (try simp only [World.size_drew]); (try simp only [World.size_alloc]); (try simp only [World.size_setCell]); (try simp only [World.size_alloc]); omega) _))) hb0 (Nat.le_refl _))
      | fail)
  have HM9 := Lib.hid hMc
  have HB9 := Lib.hid hbc
  have HO9 := Lib.hid eC
  clear hMc hbc hbl
  go_wp2
  rw [HO9.out]
  go_ret
  exact ⟨bc, nc, rfl, by omega, HB9.out, hnc, HM9.out⟩

set_option maxRecDepth 100000 in
set_option maxHeartbeats 4000000 in
theorem leftWork (D N : Nat) (hD : 1 ≤ D ∧ D ≤ 3) (hN : N ≤ 5) (hN1 : 1 ≤ N) (s : ByteArray) (hz : s.size ≤ 1000) (hw : wordB (D : Int) s.data.toList = true) (p px : Nat) (aS : Option Addr) (cS : Nat) (w : World) (_hp : p < w.heap.size) (_hpx : px < w.heap.size) (s0 : w.cell? ⟨p, 0, none⟩ = some (.int .i64 D)) (s1 : w.cell? ⟨p, 1, none⟩ = some (.int .i64 N)) (s2 : w.cell? ⟨p, 2, none⟩ = some (.slice aS (allW D N).length cS)) (x0 : w.cell? ⟨px, 0, none⟩ = some (.string s)) (hrs : SRow w aS (allW D N)) :
    Calls Tryd.prog 27 #[.pointer (some ⟨p, 0, none⟩), .pointer (some ⟨px, 0, none⟩)] w (WorkPost (leftW (allW D N) s) w) := by
  have hfew := allW_few (D := D) hD.2 (n := N) hN
  have HLb := Lib.hid (fun W (hW : Below w.heap.size w W) => leftBracket_c D N hD.2 hN1 aS cS (allW D N) rfl (by omega) (fun s hs => by have := allW_size D N s hs; omega) s hz hw W (hrs.below hW (Nat.le_refl _)) (fun r e => by have := hA_of hrs r e; have := hW.size; omega))
  obtain ⟨o, ho⟩ : ∃ o, leftW (allW D N) s = o := ⟨_, rfl⟩
  rw [ho] at HLb ⊢
  clear hrs hw hz ho hfew
  go_enter Tryd.func27, Tryd.ntmps27
  go_wp2_with fail
  refine (HLb.out _ (Below.refl _ _)).mono ?_
  cases o with
  | none =>
    rintro e w1 ⟨rfl, hb⟩
    go_wp2
    exact ⟨rfl, rfl, hb⟩
  | some h =>
    rintro e w1 ⟨m, n, rfl, hm, hb, hn, hM⟩
    go_wp2
    go_ret
    exact ⟨m, n, rfl, hm, hb, hn, hM⟩

set_option maxRecDepth 100000 in
set_option maxHeartbeats 8000000 in
theorem iBracketOf_3 (D N : Nat) (s : ByteArray) (hc : codeW (D : Int) (N : Int) s = 0) (b : Brk) (hb : BrkOf s b) (hy : lynB s = true) (w : World) :
    Calls Tryd.prog 6 #[.int .i64 D, .int .i64 N, .string s] w (FitB D N (brkV (allW D N) b) w) := by
  have h0 := codeW_0 hc
  have hDN := shape_out h0.2.1
  have hz5 : s.size ≤ 1000 := by omega
  have hs : s.size ≤ maxLen := by unfold maxLen; omega
  have hmf : ∀ (fn : Fn) (first cap : Array Value) (w : World), (Instr.makeFunc fn first cap).run Tryd.prog w = .ok (.func fn first cap) w := fun _ _ _ _ => rfl
  have hfew := allW_few (D := D) (by omega) (n := N) (by omega)
  have HWl := Lib.hid (show (allW D N).length ≤ 1048576 by omega)
  have HWs := Lib.hid (show ∀ s ∈ allW D N, s.size ≤ 1048576 from fun s hs => by have := allW_size D N s hs; omega)
  have HC := Lib.hid hc
  have HY := Lib.hid hy
  have HBb := Lib.hid hb
  have HWd := Lib.hid h0.1
  clear hy hb h0
  clear hc
  go_enter Tryd.func6, Tryd.ntmps6
  go_wp2_with (first | (go_at_call 15; refine (checkBracketed_c _ _ _ hs 0 HC.out _).mono ?_; rintro e w' ⟨rfl, rfl⟩) | (go_at_call 16; refine (isLyndon_c _ hs _).mono ?_; rw [HY.out]; rintro e w' ⟨rfl, rfl⟩) | fail)
  refine (spaceOf_c D N (by omega) (by omega) _).mono ?_
  rintro e w2 ⟨aS, cS, rfl, hb2', hN2⟩
  have HB2 := Lib.hid (show Below (w.heap.size + 2) ((w.alloc (.cells #[.int .i64 0, .int .i64 0, .slice none 0 0] 24)).alloc (.cells #[.string s] 34)) w2 from by simpa using hb2')
  have hz2 : w.heap.size + 2 ≤ w2.heap.size := by have := HB2.out.size; simpa using this
  have HB3 := Lib.hid (HB2.out.alloc (by omega) (.cells #[.int .i64 D, .int .i64 N, .slice aS (allW D N).length cS] 38))
  have HW3 := Lib.hid ((below2 w (.cells #[.int .i64 0, .int .i64 0, .slice none 0 0] 24) (.cells #[.string s] 34)).trans (HB3.out.mono (by omega)))
  have bc := bcellB HB3.out
  have Kx0 : (w2.alloc (.cells #[.int .i64 D, .int .i64 N, .slice aS (allW D N).length cS] 38)).cell? ⟨w.heap.size + 1, 0, none⟩ = some (.string s) := (bc.1 _ _ (by omega)).trans (by go_simp)
  have Ks0 : (w2.alloc (.cells #[.int .i64 D, .int .i64 N, .slice aS (allW D N).length cS] 38)).cell? ⟨w2.heap.size, 0, none⟩ = some (.int .i64 D) := by go_simp
  have Ks1 : (w2.alloc (.cells #[.int .i64 D, .int .i64 N, .slice aS (allW D N).length cS] 38)).cell? ⟨w2.heap.size, 1, none⟩ = some (.int .i64 N) := by go_simp
  have Ks2 : (w2.alloc (.cells #[.int .i64 D, .int .i64 N, .slice aS (allW D N).length cS] 38)).cell? ⟨w2.heap.size, 2, none⟩ = some (.slice aS (allW D N).length cS) := by go_simp
  have HNs := Lib.hid (hN2.row.below (below1 w2 (.cells #[.int .i64 D, .int .i64 N, .slice aS (allW D N).length cS] 38)) (Nat.le_refl _))
  have hzz : (w2.alloc (.cells #[.int .i64 D, .int .i64 N, .slice aS (allW D N).length cS] 38)).heap.size = w2.heap.size + 1 := by simp
  have HR := Lib.hid (show Z3 w2 (w.heap.size) from by
    have bc := bcellB HB2.out
    exact ⟨by omega, (bc.1 _ _ (by omega)).trans (by go_simp), (bc.1 _ _ (by omega)).trans (by go_simp), (bc.1 _ _ (by omega)).trans (by go_simp), (bc.2 _ _ (by omega)).trans (by go_simp), (bc.2 _ _ (by omega)).trans (by go_simp), (bc.2 _ _ (by omega)).trans (by go_simp)⟩)
  have HWork := Lib.hid (fun W (hW : Below (w2.alloc (.cells #[.int .i64 D, .int .i64 N, .slice aS (allW D N).length cS] 38)).heap.size (w2.alloc (.cells #[.int .i64 D, .int .i64 N, .slice aS (allW D N).length cS] 38)) W) => bracketWork D N (by omega) (by omega) (by omega) s b HBb.out hz5 HWd.out w2.heap.size (w.heap.size + 1) aS cS W (by have := hW.size; omega) (by have := hW.size; omega) ((hW.cell (p := ⟨w2.heap.size, 0, none⟩) (by show w2.heap.size < _; omega)).trans Ks0) ((hW.cell (p := ⟨w2.heap.size, 1, none⟩) (by show w2.heap.size < _; omega)).trans Ks1) ((hW.cell (p := ⟨w2.heap.size, 2, none⟩) (by show w2.heap.size < _; omega)).trans Ks2) ((hW.cell (p := ⟨w.heap.size + 1, 0, none⟩) (by show w.heap.size + 1 < _; omega)).trans Kx0) (HNs.out.below hW (Nat.le_refl _)))
  clear bc hb2' hN2
  cases hv : brkV (allW D N) b with
  | none =>
    have HVv := Lib.hid hv
    have HDoor := Lib.hid (door_no D N aS (allW D N).length cS 19 #[.pointer (some ⟨w.heap.size + 1, 0, none⟩), .pointer (some ⟨w2.heap.size, 0, none⟩)] (fun _ => by kernel_rfl) (w2.alloc (.cells #[.int .i64 D, .int .i64 N, .slice aS (allW D N).length cS] 38)) (fun W hW => by have hk := HWork.out W hW; rw [hv] at hk; exact hk))
    clear Kx0 Ks0 Ks1 Ks2 hv
    go_wp2_with fail
    refine HDoor.out.mono ?_
    rintro e w4 ⟨rfl, hb4⟩
    have HZ := Lib.hid ((HR.out.below (below1 w2 (.cells #[.int .i64 D, .int .i64 N, .slice aS (allW D N).length cS] 38)) HR.out.1).below hb4 (by omega))
    have r0 := HZ.out.2.1
    have r1 := HZ.out.2.2.1
    have r2 := HZ.out.2.2.2.1
    have z0 := HZ.out.2.2.2.2.1
    have z1 := HZ.out.2.2.2.2.2.1
    have z2 := HZ.out.2.2.2.2.2.2
    have HW4 := Lib.hid (HW3.out.trans (hb4.mono (by omega)))
    clear hb4
    go_wp2
    try rw [HVv.out]
    refine bodyPost_ret (v := .tuple #[.agg #[.int .i64 0, .int .i64 0, .slice none 0 0], .int .i64 3]) (by simp [results, Tryd.results6, go_sem, r0, r1, r2]) rfl (SerPost.err 3 rfl ?_)
    have hW := HW4.out
    go_grown
  | some h =>
    have HVv := Lib.hid hv
    have HDoor := Lib.hid (door_yes D N aS cS (allW D N) HWl.out HWs.out h 19 #[.pointer (some ⟨w.heap.size + 1, 0, none⟩), .pointer (some ⟨w2.heap.size, 0, none⟩)] (fun _ => by kernel_rfl) (w2.alloc (.cells #[.int .i64 D, .int .i64 N, .slice aS (allW D N).length cS] 38)) (fun W hW => by have hk := HWork.out W hW; rw [hv] at hk; exact hk) HNs.out)
    clear Kx0 Ks0 Ks1 Ks2 hv
    go_wp2_with fail
    refine HDoor.out.mono ?_
    rintro e w4 ⟨a4, c4, rfl, hb4, hN4⟩
    have HZ := Lib.hid ((HR.out.below (below1 w2 (.cells #[.int .i64 D, .int .i64 N, .slice aS (allW D N).length cS] 38)) HR.out.1).below hb4 (by omega))
    have r0 := HZ.out.2.1
    have r1 := HZ.out.2.2.1
    have r2 := HZ.out.2.2.2.1
    have z0 := HZ.out.2.2.2.2.1
    have z1 := HZ.out.2.2.2.2.2.1
    have z2 := HZ.out.2.2.2.2.2.2
    have HW4 := Lib.hid (HW3.out.trans (hb4.mono (by omega)))
    have HN4 := Lib.hid hN4
    clear hb4 hN4
    go_wp2
    try rw [HVv.out]
    refine bodyPost_ret (v := .tuple #[.agg #[.int .i64 D, .int .i64 N, .slice a4 (termsOf h (allW D N)).length c4], .int .i64 0]) (by simp [results, Tryd.results6, go_sem, r0, r1, r2]) rfl ⟨a4, c4, rfl, ?_, ?_⟩
    · have hW := HW4.out
      go_grown
    · exact (((HN4.out.far1s (n := w.heap.size) (i := 0) (x := .int .i64 D) (by omega)).far1s (n := w.heap.size) (i := 1) (x := .int .i64 N) (by omega)).far1s (n := w.heap.size) (i := 2) (x := .slice a4 (termsOf h (allW D N)).length c4) (by omega)).mono (by omega) (by simp)

set_option maxRecDepth 100000 in
set_option maxHeartbeats 8000000 in
theorem iLeftBracket_3 (D N : Nat) (s : ByteArray) (hc : codeW (D : Int) (N : Int) s = 0)  (w : World) :
    Calls Tryd.prog 11 #[.int .i64 D, .int .i64 N, .string s] w (FitB D N (leftW (allW D N) s) w) := by
  have h0 := codeW_0 hc
  have hDN := shape_out h0.2.1
  have hz5 : s.size ≤ 1000 := by omega
  have hs : s.size ≤ maxLen := by unfold maxLen; omega
  have hmf : ∀ (fn : Fn) (first cap : Array Value) (w : World), (Instr.makeFunc fn first cap).run Tryd.prog w = .ok (.func fn first cap) w := fun _ _ _ _ => rfl
  have hfew := allW_few (D := D) (by omega) (n := N) (by omega)
  have HWl := Lib.hid (show (allW D N).length ≤ 1048576 by omega)
  have HWs := Lib.hid (show ∀ s ∈ allW D N, s.size ≤ 1048576 from fun s hs => by have := allW_size D N s hs; omega)
  have HC := Lib.hid hc
  have HWd := Lib.hid h0.1
  clear h0
  clear hc
  go_enter Tryd.func11, Tryd.ntmps11
  go_wp2_with (first | (go_at_call 15; refine (checkBracketed_c _ _ _ hs 0 HC.out _).mono ?_; rintro e w' ⟨rfl, rfl⟩) | fail)
  refine (spaceOf_c D N (by omega) (by omega) _).mono ?_
  rintro e w2 ⟨aS, cS, rfl, hb2', hN2⟩
  have HB2 := Lib.hid (show Below (w.heap.size + 2) ((w.alloc (.cells #[.string s] 9)).alloc (.cells #[.int .i64 0, .int .i64 0, .slice none 0 0] 24)) w2 from by simpa using hb2')
  have hz2 : w.heap.size + 2 ≤ w2.heap.size := by have := HB2.out.size; simpa using this
  have HB3 := Lib.hid (HB2.out.alloc (by omega) (.cells #[.int .i64 D, .int .i64 N, .slice aS (allW D N).length cS] 38))
  have HW3 := Lib.hid ((below2 w (.cells #[.string s] 9) (.cells #[.int .i64 0, .int .i64 0, .slice none 0 0] 24)).trans (HB3.out.mono (by omega)))
  have bc := bcellB HB3.out
  have Kx0 : (w2.alloc (.cells #[.int .i64 D, .int .i64 N, .slice aS (allW D N).length cS] 38)).cell? ⟨w.heap.size, 0, none⟩ = some (.string s) := (bc.1 _ _ (by omega)).trans (by go_simp)
  have Ks0 : (w2.alloc (.cells #[.int .i64 D, .int .i64 N, .slice aS (allW D N).length cS] 38)).cell? ⟨w2.heap.size, 0, none⟩ = some (.int .i64 D) := by go_simp
  have Ks1 : (w2.alloc (.cells #[.int .i64 D, .int .i64 N, .slice aS (allW D N).length cS] 38)).cell? ⟨w2.heap.size, 1, none⟩ = some (.int .i64 N) := by go_simp
  have Ks2 : (w2.alloc (.cells #[.int .i64 D, .int .i64 N, .slice aS (allW D N).length cS] 38)).cell? ⟨w2.heap.size, 2, none⟩ = some (.slice aS (allW D N).length cS) := by go_simp
  have HNs := Lib.hid (hN2.row.below (below1 w2 (.cells #[.int .i64 D, .int .i64 N, .slice aS (allW D N).length cS] 38)) (Nat.le_refl _))
  have hzz : (w2.alloc (.cells #[.int .i64 D, .int .i64 N, .slice aS (allW D N).length cS] 38)).heap.size = w2.heap.size + 1 := by simp
  have HR := Lib.hid (show Z3 w2 (w.heap.size + 1) from by
    have bc := bcellB HB2.out
    exact ⟨by omega, (bc.1 _ _ (by omega)).trans (by go_simp), (bc.1 _ _ (by omega)).trans (by go_simp), (bc.1 _ _ (by omega)).trans (by go_simp), (bc.2 _ _ (by omega)).trans (by go_simp), (bc.2 _ _ (by omega)).trans (by go_simp), (bc.2 _ _ (by omega)).trans (by go_simp)⟩)
  have HWork := Lib.hid (fun W (hW : Below (w2.alloc (.cells #[.int .i64 D, .int .i64 N, .slice aS (allW D N).length cS] 38)).heap.size (w2.alloc (.cells #[.int .i64 D, .int .i64 N, .slice aS (allW D N).length cS] 38)) W) => leftWork D N (by omega) (by omega) (by omega) s hz5 HWd.out w2.heap.size (w.heap.size) aS cS W (by have := hW.size; omega) (by have := hW.size; omega) ((hW.cell (p := ⟨w2.heap.size, 0, none⟩) (by show w2.heap.size < _; omega)).trans Ks0) ((hW.cell (p := ⟨w2.heap.size, 1, none⟩) (by show w2.heap.size < _; omega)).trans Ks1) ((hW.cell (p := ⟨w2.heap.size, 2, none⟩) (by show w2.heap.size < _; omega)).trans Ks2) ((hW.cell (p := ⟨w.heap.size, 0, none⟩) (by show w.heap.size < _; omega)).trans Kx0) (HNs.out.below hW (Nat.le_refl _)))
  clear bc hb2' hN2
  cases hv : leftW (allW D N) s with
  | none =>
    have HVv := Lib.hid hv
    have HDoor := Lib.hid (door_no D N aS (allW D N).length cS 27 #[.pointer (some ⟨w2.heap.size, 0, none⟩), .pointer (some ⟨w.heap.size, 0, none⟩)] (fun _ => by kernel_rfl) (w2.alloc (.cells #[.int .i64 D, .int .i64 N, .slice aS (allW D N).length cS] 38)) (fun W hW => by have hk := HWork.out W hW; rw [hv] at hk; exact hk))
    clear Kx0 Ks0 Ks1 Ks2 hv
    go_wp2_with fail
    refine HDoor.out.mono ?_
    rintro e w4 ⟨rfl, hb4⟩
    have HZ := Lib.hid ((HR.out.below (below1 w2 (.cells #[.int .i64 D, .int .i64 N, .slice aS (allW D N).length cS] 38)) HR.out.1).below hb4 (by omega))
    have r0 := HZ.out.2.1
    have r1 := HZ.out.2.2.1
    have r2 := HZ.out.2.2.2.1
    have z0 := HZ.out.2.2.2.2.1
    have z1 := HZ.out.2.2.2.2.2.1
    have z2 := HZ.out.2.2.2.2.2.2
    have HW4 := Lib.hid (HW3.out.trans (hb4.mono (by omega)))
    clear hb4
    go_wp2
    try rw [HVv.out]
    refine bodyPost_ret (v := .tuple #[.agg #[.int .i64 0, .int .i64 0, .slice none 0 0], .int .i64 3]) (by simp [results, Tryd.results11, go_sem, r0, r1, r2]) rfl (SerPost.err 3 rfl ?_)
    have hW := HW4.out
    go_grown
  | some h =>
    have HVv := Lib.hid hv
    have HDoor := Lib.hid (door_yes D N aS cS (allW D N) HWl.out HWs.out h 27 #[.pointer (some ⟨w2.heap.size, 0, none⟩), .pointer (some ⟨w.heap.size, 0, none⟩)] (fun _ => by kernel_rfl) (w2.alloc (.cells #[.int .i64 D, .int .i64 N, .slice aS (allW D N).length cS] 38)) (fun W hW => by have hk := HWork.out W hW; rw [hv] at hk; exact hk) HNs.out)
    clear Kx0 Ks0 Ks1 Ks2 hv
    go_wp2_with fail
    refine HDoor.out.mono ?_
    rintro e w4 ⟨a4, c4, rfl, hb4, hN4⟩
    have HZ := Lib.hid ((HR.out.below (below1 w2 (.cells #[.int .i64 D, .int .i64 N, .slice aS (allW D N).length cS] 38)) HR.out.1).below hb4 (by omega))
    have r0 := HZ.out.2.1
    have r1 := HZ.out.2.2.1
    have r2 := HZ.out.2.2.2.1
    have z0 := HZ.out.2.2.2.2.1
    have z1 := HZ.out.2.2.2.2.2.1
    have z2 := HZ.out.2.2.2.2.2.2
    have HW4 := Lib.hid (HW3.out.trans (hb4.mono (by omega)))
    have HN4 := Lib.hid hN4
    clear hb4 hN4
    go_wp2
    try rw [HVv.out]
    refine bodyPost_ret (v := .tuple #[.agg #[.int .i64 D, .int .i64 N, .slice a4 (termsOf h (allW D N)).length c4], .int .i64 0]) (by simp [results, Tryd.results11, go_sem, r0, r1, r2]) rfl ⟨a4, c4, rfl, ?_, ?_⟩
    · have hW := HW4.out
      go_grown
    · exact (((HN4.out.far1s (n := w.heap.size + 1) (i := 0) (x := .int .i64 D) (by omega)).far1s (n := w.heap.size + 1) (i := 1) (x := .int .i64 N) (by omega)).far1s (n := w.heap.size + 1) (i := 2) (x := .slice a4 (termsOf h (allW D N)).length c4) (by omega)).mono (by omega) (by simp)
end Go.Proofs.YtjjkkaikinjmdaaDoor
