/-
  What the functions of chapter 5 come to, both sides at once, with what a law of Lyndon words asks of the answers.
-/
import Derived.Test.YtolbgdgoambliaaLynT
import Derived.Test.YtolbgdgoambliaaLynR
import Derived.Test.YtolbgdgoambliaaRowLyndonWords
import Derived.Test.YtolbgdgoambliaaRowNextLyndon
import Derived.Test.YtolbgdgoambliaaCnt
import Derived.Test.YtolbgdgoambliaaDrx
namespace Go.Proofs.Ytolbgdgoambliaa
open Go.RowKit

/-- the program's IsLyndon says yes -/
def SaysYes (d : Int) (s : ByteArray) : Prop := ∀ W : World, Calls Try.prog 9 #[.int .i64 d, .string s] W fun e w' => e = .returned (.tuple #[.bool true, .int .i64 0]) ∧ W = w'
theorem says_yes {d : Int} {s : ByteArray} (h : shortB d 8 s = true) (hl : lynB s = true) : SaysYes d s := fun W =>
  (iIsLyndon_c d s (by have := (shortB_true h).2.1; unfold maxLen; omega) W).mono (by rintro e w' ⟨rfl, rfl⟩; simp [h, hl])
theorem shortB_mk {d : Int} {n : Nat} {s : ByteArray} (h1 : 1 ≤ d ∧ d ≤ 3) (h2 : s.size ≤ n) (h3 : wordB d s.data.toList = true) : shortB d n s = true := by
  unfold shortB
  rw [h3, decide_eq_true h1, decide_eq_true h2]
  rfl

theorem fac (d : Int) (s : ByteArray) (hs : s.size ≤ 18) : ∃ (fs : List ByteArray) (c : Int), fs.length ≤ 18 ∧ (∀ i (h : i < fs.length), fs[i].size ≤ 18 ∧ SaysYes d fs[i]) ∧ (∀ i (h : i + 1 < fs.length), ltS (fs[i]'(Nat.lt_of_succ_lt h)) fs[i + 1] = false) ∧
    (c = 2 ∨ (c = 0 ∧ fs.foldl (· ++ ·) ByteArray.empty = s)) ∧
    (∀ W : World, Calls Try.prog 6 #[.int .i64 d, .string s] W (StrPost fs c W)) ∧ (∀ W : World, Calls Try.prog 7 #[.int .i64 d, .string s] W (StrPost fs c W)) := by
  have hm : s.size ≤ maxLen := by unfold maxLen; omega
  cases h : shortB d 8 s with
  | false => exact ⟨[], 2, by simp, fun i h => by simp at h, fun i h => by simp at h, .inl rfl, fun W => iFactorsOf_1 d s hm h W, fun W => sFactorsOf_1 d s hm h W⟩
  | true =>
    obtain ⟨h1, h2, h3⟩ := shortB_true h
    obtain ⟨fs, hf, hlen⟩ := facts_is s.size s (Nat.le_refl _)
    refine ⟨fs, 0, by omega, fun i hi => ?_, hf.falls, .inr ⟨rfl, by rw [hf.cat]; simp⟩, fun W => iFactorsOf_2 d s fs hf h W, fun W => sFactorsOf_2 d s fs hf h W⟩
    obtain ⟨a, b⟩ := hf.lyn _ (List.getElem_mem hi)
    exact ⟨by omega, says_yes (shortB_mk h1 (by omega) (hf.words h3 _ (List.getElem_mem hi))) a⟩

theorem cuf (d : Int) (s : ByteArray) (hs : s.size ≤ 18) : ∃ (ss : List ByteArray) (c : Int), ss.length ≤ 2 ∧ (c ≠ 0 ∨ (c = 0 ∧ ∃ x y, ss = [x, y] ∧ x.size ≤ 18 ∧ y.size ≤ 18 ∧ SaysYes d x ∧ SaysYes d y ∧ s = x ++ y ∧ ltS x y = true)) ∧
    (∀ W : World, Calls Try.prog 11 #[.int .i64 d, .string s] W (StrPost ss c W)) ∧ (∀ W : World, Calls Try.prog 12 #[.int .i64 d, .string s] W (StrPost ss c W)) := by
  have hm : s.size ≤ maxLen := by unfold maxLen; omega
  cases h : shortB d 8 s with
  | false => exact ⟨[], 2, by simp, .inl (by decide), fun W => iCutOf_1 d s hm h W, fun W => sCutOf_1 d s hm h W⟩
  | true =>
    obtain ⟨h1, h2, h3⟩ := shortB_true h
    by_cases hb : s.size < 2 ∨ lynB s = false
    · exact ⟨[], 5, by simp, .inl (by decide), fun W => iCutOf_2 d s h hb W, fun W => sCutOf_2 d s h hb W⟩
    · have hl : lynB s = true := by
        cases hl : lynB s with
        | true => rfl
        | false => exact absurd (.inr hl) hb
      obtain ⟨i, hi⟩ := cut_is (s := s) (by omega)
      obtain ⟨t1, t2, t3⟩ := hi.two hl
      have part : ∀ i j, wordB d (s.extract i j).data.toList = true := fun i j => by
        rw [ext_list]
        refine wordB_take ?_ _
        unfold wordB at h3 ⊢
        rw [List.all_eq_true] at h3 ⊢
        exact fun x hx => h3 x (List.drop_subset _ _ hx)
      have z1 : (s.extract 0 i).size ≤ 8 := by rw [ByteArray.size_extract]; omega
      have z2 : (s.extract i s.size).size ≤ 8 := by rw [ByteArray.size_extract]; omega
      exact ⟨[s.extract 0 i, s.extract i s.size], 0, by simp, .inr ⟨rfl, _, _, rfl, by omega, by omega, says_yes (shortB_mk h1 z1 (part _ _)) t1, says_yes (shortB_mk h1 z2 (part _ _)) t2, (ext_join s i).symm, t3⟩,
        fun W => iCutOf_3 d s i hi h hl W, fun W => sCutOf_3 d s i hi h hl W⟩

theorem cnf (d n : Int) : ∃ (x c : Int), (∀ W : World, Calls Try.prog 16 #[.int .i64 d, .int .i64 n] W (NumbPost x c W)) ∧ (∀ W : World, Calls Try.prog 18 #[.int .i64 d, .int .i64 n] W (NumbPost x c W)) := by
  by_cases hb : inB d 1 3 = false ∨ inB n 1 20 = false
  · exact ⟨_, _, iCountLyndon_1 d n hb, sCountLyndon_1 d n hb⟩
  · have h1 : inB d 1 3 = true := by
      cases h : inB d 1 3 with
      | true => rfl
      | false => exact absurd (.inl h) hb
    have h2 : inB n 1 20 = true := by
      cases h : inB n 1 20 with
      | true => rfl
      | false => exact absurd (.inr h) hb
    have q1 := inB_true h1
    have q2 := inB_true h2
    obtain ⟨N, rfl⟩ : ∃ N : Nat, n = N := ⟨n.toNat, by omega⟩
    exact ⟨_, _, iCountLyndon_2 d N q1 (by omega) (by omega), sCountLyndon_2 d N q1 (by omega) (by omega)⟩

/-- there are as many words as are counted -/
def cntL (d n : Nat) : Bool := match genL (UInt8.ofNat (47 + d)) n 2000 [48] with
  | some L => decide (((L.filter (fun w => w.length == n)).length : Int) = ap (d : Int) 20 n / (n : Int))
  | none => false
theorem cntL_12 : ([1, 2].all fun d => [1, 2, 3, 4, 5, 6, 7, 8].all fun n => cntL d n) = true := by decide +kernel
theorem cntL_3 : ([1, 2, 3, 4, 5, 6].all fun n => cntL 3 n) = true := by decide +kernel
theorem cntL_37 : cntL 3 7 = true := by decide +kernel
theorem cntL_all {d n : Nat} (hd : 1 ≤ d ∧ d ≤ 3) (hn : 1 ≤ n ∧ n ≤ 8) (h : d ≤ 2 ∨ n ≤ 7) : cntL d n = true := by
  by_cases h2 : d ≤ 2
  · exact List.all_eq_true.1 (List.all_eq_true.1 cntL_12 d (by simp; omega)) n (by simp; omega)
  · obtain rfl : d = 3 := by omega
    by_cases h7 : n = 7
    · subst h7; exact cntL_37
    · exact List.all_eq_true.1 cntL_3 n (by simp; omega)

theorem lwf (d n : Int) : ∃ (ss : List ByteArray) (c x c2 : Int), ss.length ≤ 1048576 ∧ (c ≠ 0 ∨ (c = 0 ∧ c2 = 0 ∧ x = ss.length)) ∧
    (∀ W : World, Calls Try.prog 14 #[.int .i64 d, .int .i64 n] W (StrPost ss c W)) ∧ (∀ W : World, Calls Try.prog 15 #[.int .i64 d, .int .i64 n] W (StrPost ss c W)) ∧
    (∀ W : World, Calls Try.prog 16 #[.int .i64 d, .int .i64 n] W (NumbPost x c2 W)) := by
  obtain ⟨y, c3, hI, _⟩ := cnf d n
  by_cases hg : (1 ≤ d ∧ d ≤ 3) ∧ (1 ≤ n ∧ n ≤ 8)
  · obtain ⟨D, rfl⟩ : ∃ D : Nat, d = D := ⟨d.toNat, by omega⟩
    obtain ⟨N, rfl⟩ : ∃ N : Nat, n = N := ⟨n.toNat, by omega⟩
    by_cases hc : ap (D : Int) 20 N / N > 400
    · exact ⟨[], 3, y, c3, by simp, .inl (by decide), iLyndonWords_2 D N hg.1 (by omega) (by omega) hc, sLyndonWords_2 D N hg.1 (by omega) (by omega) hc, hI⟩
    · have h8 : D ≤ 2 ∨ N ≤ 7 := by
        by_cases h : D ≤ 2 ∨ N ≤ 7
        · exact h
        · obtain rfl : D = 3 := by omega
          obtain rfl : N = 8 := by omega
          exact absurd ap_38 hc
      obtain ⟨L, hL, _, hk⟩ := genL_all (d := D) (n := N) (by omega) (by omega)
      have hkN := hk N (by omega) (Nat.le_refl _)
      have hlen := genL_len 2000 [48] L (by simp; omega) hL
      have hS := sLyndonWords_3 D N (by omega) (by omega) (by omega) hc
      have hI3 := iLyndonWords_3 D N (by omega) (by omega) (by omega) hc L hL hlen.1 hlen.2.1
      rw [kept_are hlen.2.2 hkN] at hI3
      have hct := cntL_all (d := D) (n := N) (by omega) (by omega) h8
      unfold cntL at hct
      rw [hL] at hct
      simp only [decide_eq_true_eq] at hct
      rw [hkN, List.length_map] at hct
      have hfew := wordsL_few8 (d := D) (n := N) (by omega) (by omega)
      have hle := List.length_filter_le lynB (wordsL D N)
      exact ⟨_, 0, ap (D : Int) 20 N / N, 0, by omega, .inr ⟨rfl, rfl, hct.symm⟩, hI3, hS, iCountLyndon_2 D N (by omega) (by omega) (by omega)⟩
  · have hb : inB d 1 3 = false ∨ inB n 1 8 = false := by
      cases h1 : inB d 1 3 with
      | false => exact .inl rfl
      | true =>
        refine .inr (inB_no ?_)
        have := inB_true h1
        omega
    exact ⟨[], 2, y, c3, by simp, .inl (by decide), iLyndonWords_1 d n hb, sLyndonWords_1 d n hb, hI⟩

theorem nxf (d n : Int) (s : ByteArray) (hs : s.size ≤ maxLen) : ∃ (r : ByteArray) (c : Int), (∀ W : World, Calls Try.prog 20 #[.int .i64 d, .int .i64 n, .string s] W (TxPost r c W)) ∧ (∀ W : World, Calls Try.prog 21 #[.int .i64 d, .int .i64 n, .string s] W (TxPost r c W)) := by
  by_cases hg : shortB d 8 s = true ∧ inB n 1 8 = true
  · have hd := (shortB_true hg.1).1
    have hn := inB_true hg.2
    obtain ⟨D, rfl⟩ : ∃ D : Nat, d = D := ⟨d.toNat, by omega⟩
    obtain ⟨N, rfl⟩ : ∃ N : Nat, n = N := ⟨n.toNat, by omega⟩
    obtain ⟨ss, hss, hfew, ⟨L, hL, hLs⟩, k, f, hk, k1, k2, f1, f0, ho⟩ := next_is (D := D) (N := N) (by omega) (by omega) s
    have hU := upTo_c D N (by omega) (by omega) L hL
    rw [hLs] at hU
    exact ⟨_, _, iNextLyndon_2 D N (by omega) s hs hg.1 ss hss hfew hU k hk f k1 k2 f1 f0 _ ho _ _ rfl rfl, sNextLyndon_2 D N (by omega) (by omega) s hs hg.1⟩
  · have hb : shortB d 8 s = false ∨ inB n 1 8 = false := by
      cases h1 : shortB d 8 s with
      | false => exact .inl rfl
      | true =>
        refine .inr ?_
        cases h2 : inB n 1 8 with
        | false => rfl
        | true => exact absurd ⟨h1, h2⟩ hg
    exact ⟨_, _, iNextLyndon_1 d n s hs hb, sNextLyndon_1 d n s hs hb⟩

theorem isf (d : Int) (s : ByteArray) (hs : s.size ≤ maxLen) : ∃ (b : Bool) (c : Int), (∀ W : World, Calls Try.prog 9 #[.int .i64 d, .string s] W (Two (.bool b) (.int .i64 c) W)) ∧ (∀ W : World, Calls Try.prog 23 #[.int .i64 d, .string s] W (Two (.bool b) (.int .i64 c) W)) :=
  ⟨_, _, fun W => (iIsLyndon_c d s hs W).mono (Two.mk _ _ W), fun W => (sIsLyndon_c d s hs W).mono (Two.mk _ _ W)⟩
end Go.Proofs.Ytolbgdgoambliaa
