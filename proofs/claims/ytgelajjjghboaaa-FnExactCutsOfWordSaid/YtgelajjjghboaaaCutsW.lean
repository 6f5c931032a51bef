/-
  Contracts of CutsOfWord, of the program and of its model.
-/
import Derived.Test.YtgelajjjghboaaaSHds
import Derived.Test.YtgelajjjghboaaaCutS
import Derived.Deep.RegionHeld3
import Derived.Calls
namespace Go.Proofs.Ytgelajjjghboaaa
open Go.RowKit

/-- the first k cuts of a word -/
def cutsL (s : ByteArray) (k : Nat) : List (List ByteArray) := (List.range k).map fun i => [s.extract 0 i, s.extract i s.size]
theorem cutsL_succ (s : ByteArray) (k : Nat) : cutsL s (k + 1) = cutsL s k ++ [[s.extract 0 k, s.extract k s.size]] := by
  unfold cutsL
  rw [List.range_succ, List.map_append]
  rfl
theorem cutsL_length (s : ByteArray) (k : Nat) : (cutsL s k).length = k := by simp [cutsL]
theorem cutsL_flat (s : ByteArray) : ∀ k, flatS (cutsL s k) = 2 * k
  | 0 => rfl
  | k + 1 => by rw [cutsL_succ, flatS_append, cutsL_flat s k]; simp [flatS]; omega
/-- what a function that returns rows of words and a code comes to -/
def CutsPost (ps : List (List ByteArray)) (c : Int) (W : World) (e : Ending) (w' : World) : Prop :=
  ∃ (a : Option Addr) (cap : Nat), e = .returned (.tuple #[.slice a ps.length cap, .int .i64 c]) ∧ Below W.heap.size W w' ∧ NewSP W.heap.size w'.heap.size w' a ps
/-- a pair of words is appended -/
theorem snoc_pair {base : Nat} {w0 wa wb w' : World} {b : Option Addr} {l c gg cg : Nat} {s : ByteArray} {k : Nat} {a1 a2 : ByteArray} {t2 : TypeId} {hs : List Hq}
    (h1 : OwnHq w0 base (.slice b l c) hs) (h2 : hs.length = (cutsL s k).length)
    (h3 : ∀ i (h : i < (cutsL s k).length) (h' : i < hs.length), (hs[i]).n = ((cutsL s k)[i]).length ∧ NewS base w0.heap.size w0 (hs[i]).a (cutsL s k)[i] ∧ ((cutsL s k)[i] ≠ [] → ∀ g, (Value.slice b l c).ownBlock = some g → (hs[i]).a ≠ some ⟨g, 0, none⟩))
    (h4 : ∀ i j (hi : i < (cutsL s k).length) (hj : j < (cutsL s k).length) (hi' : i < hs.length) (hj' : j < hs.length), i ≠ j → (cutsL s k)[i] ≠ [] → (cutsL s k)[j] ≠ [] → (hs[i]).a ≠ (hs[j]).a)
    (hk : cutsL s (k + 1) = cutsL s k ++ [[a1, a2]])
    (hb : Below w0.heap.size w0 wa) (hwb : wb = ((wa.alloc (.cells #[.string a1, .string a2] 9)).alloc (.cells #[.slice (some ⟨wa.heap.size, 0, none⟩) 2 2] t2)) ∨ wb = ((wa.alloc (.cells #[.string a1, .string a2] 9)).alloc (.cells #[.slice (some ⟨wa.heap.size, 0, none⟩) 2 2] t2)).drew) (hbase : base ≤ w0.heap.size)
    (hOO : OwnHq w' base (.slice (some ⟨gg, 0, none⟩) (l + 1) cg) (hs ++ [⟨some ⟨wa.heap.size, 0, none⟩, 2, 2⟩]))
    (hg : wb.grownBy w' (Value.slice b l c).ownBlock) (hv : (Value.slice b l c).ownBlock = some gg ∨ gg = wa.heap.size + 1 + 1) : OwnSP w' base (.slice (some ⟨gg, 0, none⟩) (l + 1) cg) (cutsL s (k + 1)) := by
  have hbw : Below w0.heap.size w0 wb := by
    rcases hwb with rfl | rfl
    · exact (hb.alloc hb.size _).alloc (by simp; have := hb.size; omega) _
    · exact ((hb.alloc hb.size _).alloc (by simp; have := hb.size; omega) _).drew
  have hsz : wb.heap.size = wa.heap.size + 1 + 1 := by rcases hwb with rfl | rfl <;> simp
  have hnew : NewS w0.heap.size wb.heap.size wb (some ⟨wa.heap.size, 0, none⟩) [a1, a2] := by
    have h := two_new wa a1 a2 w0.heap.size hb.size
    have h' := h.below (below1 _ (.cells #[.slice (some ⟨wa.heap.size, 0, none⟩) 2 2] t2)) (by simp)
    rw [hsz]
    have h'' := h'.mono (Nat.le_refl _) (show (wa.alloc (.cells #[.string a1, .string a2] 9)).heap.size ≤ wa.heap.size + 1 + 1 by simp)
    rcases hwb with rfl | rfl
    · exact h''
    · exact h''
  rw [hk]
  refine OwnSP.snoc (B := wb.heap.size) h1 h2 h3 h4 hbw hnew (Nat.le_refl _) hbase hOO hg ?_
  rcases hv with e | e
  · exact .inl (by rw [e]; rfl)
  · exact .inr (by rw [hsz, ← e]; rfl)

theorem sCuts_1 (d : Int) (s : ByteArray) (hs : s.size ≤ maxLen) (h : shortB d 8 s = false) (w : World) :
    Calls Try.prog 28 #[.int .i64 d, .string s] w (CutsPost [] 2 w) := by
  by_cases h1 : 1 ≤ d ∧ d ≤ 3
  · have e1 := inB_yes h1
    by_cases h2 : wordB d s.data.toList = true
    · have h3 : ¬ (s.size : Int) ≤ 8 := by
        intro h3
        have h3' : s.size ≤ 8 := by omega
        simp [shortB, h1, h2, h3'] at h
      have H2 := Lib.hid h2
      have h4 : (8 : Int) < (s.size : Int) := by omega
      clear h h2 h3
      go_enter Try.func28, Try.ntmps28
      go_wp2_with (first | (go_at_call 34; refine (l01In_c _ _ _ _).mono ?_; rintro e w' ⟨rfl, rfl⟩) | (go_at_call 50; refine (l01Word_c _ _ hs _).mono ?_; rw [H2.out]; rintro e w' ⟨rfl, rfl⟩))
      go_ret2
      exact ⟨none, 0, rfl, Below.refl _ _, .inl rfl⟩
    · have H2 := Lib.hid (Bool.eq_false_iff.2 h2)
      clear h h2
      go_enter Try.func28, Try.ntmps28
      go_wp2_with (first | (go_at_call 34; refine (l01In_c _ _ _ _).mono ?_; rintro e w' ⟨rfl, rfl⟩) | (go_at_call 50; refine (l01Word_c _ _ hs _).mono ?_; rw [H2.out]; rintro e w' ⟨rfl, rfl⟩))
      go_ret2
      exact ⟨none, 0, rfl, Below.refl _ _, .inl rfl⟩
  · have e1 := inB_no h1
    clear h h1
    go_enter Try.func28, Try.ntmps28
    go_wp2_with (first | (go_at_call 34; refine (l01In_c _ _ _ _).mono ?_; rintro e w' ⟨rfl, rfl⟩))
    go_ret2
    exact ⟨none, 0, rfl, Below.refl _ _, .inl rfl⟩
theorem iCuts_1 (d : Int) (s : ByteArray) (hs : s.size ≤ maxLen) (h : shortB d 8 s = false) (w : World) :
    Calls Try.prog 29 #[.int .i64 d, .string s] w (CutsPost [] 2 w) := by
  by_cases h1 : 1 ≤ d ∧ d ≤ 3
  · have e1 := inB_yes h1
    have H2 := Lib.hid (show (decide ((s.size : Int) ≤ 8) && wordB d s.data.toList) = false by
      have e : decide ((s.size : Int) ≤ 8) = decide (s.size ≤ 8) := by apply decide_eq_decide.2; omega
      simp only [shortB, h1, and_self, decide_true, Bool.true_and] at h
      rw [e]; exact h)
    clear h
    go_enter Try.func29, Try.ntmps29
    go_wp2_with (first | (go_at_call 37; refine (isBetween_c _ _ _ _).mono ?_; rintro e w' ⟨rfl, rfl⟩) | (go_at_call 52; refine (isWord_c _ _ _ hs _).mono ?_; rw [H2.out]; rintro e w' ⟨rfl, rfl⟩))
    go_ret2
    exact ⟨none, 0, rfl, Below.refl _ _, .inl rfl⟩
  · have e1 := inB_no h1
    clear h h1
    go_enter Try.func29, Try.ntmps29
    go_wp2_with (first | (go_at_call 37; refine (isBetween_c _ _ _ _).mono ?_; rintro e w' ⟨rfl, rfl⟩))
    go_ret2
    exact ⟨none, 0, rfl, Below.refl _ _, .inl rfl⟩

set_option maxRecDepth 100000 in
set_option maxHeartbeats 4000000 in
theorem sCuts_2 (d : Int) (s : ByteArray) (h : shortB d 8 s = true) (w : World) :
    Calls Try.prog 28 #[.int .i64 d, .string s] w (CutsPost (cutsL s (s.size + 1)) 0 w) := by
  obtain ⟨i0, hi0, hi1, hi2, hi3⟩ := info_parts info_rowS
  obtain ⟨h1, hs, h2⟩ := shortB_true h
  have hs2 : s.size ≤ maxLen := by unfold maxLen; omega
  have e1 := inB_yes h1
  have H2 := Lib.hid h2
  have h4 : ¬ (8 : Int) < (s.size : Int) := by omega
  clear h h2
  go_enter Try.func28, Try.ntmps28
  go_wp2_with (first | (go_at_call 34; refine (l01In_c _ _ _ _).mono ?_; rintro e w' ⟨rfl, rfl⟩) | (go_at_call 50; refine (l01Word_c _ _ hs2 _).mono ?_; rw [H2.out]; rintro e w' ⟨rfl, rfl⟩) | fail)
  go_loopw [6, 7] (fun vs vi wr => ∃ (k : Nat) (b : Option Addr) (l c : Nat), k ≤ s.size + 1 ∧ vi = .int .i64 k ∧ vs = .slice b l c ∧ l = k ∧ OwnSP wr w.heap.size (.slice b l c) (cutsL s k) ∧ Below w.heap.size w wr) (fun _ vi _ => s.size + 1 - (intOf vi).toNat)
  case atStart => exact ⟨0, _, 0, 0, Nat.zero_le _, rfl, rfl, rfl, OwnSP.emptyRow (heap_alloc_new w _) (Nat.le_refl _), below1 _ _⟩
  case round =>
    obtain ⟨k, b, l, c, hk, rfl, rfl, hlk, hO, hB⟩ := hrel
    have HO := Lib.hid hO
    have HB := Lib.hid hB
    have HL := Lib.hid hlk
    have hz := hB.size
    have hl9 : l ≤ 9 := by omega
    clear hO hB hlk
    by_cases hlt : k ≤ s.size
    · have HK := Lib.hid (cutsL_succ s k)
      obtain ⟨hs0, q1, q2, q3, q4⟩ := HO.out
      have HQ1 := Lib.hid q1
      have HQ2 := Lib.hid q2
      have HQ3 := Lib.hid q3
      have HQ4 := Lib.hid q4
      have HQL := Lib.hid (show l = hs0.length by rw [q2, cutsL_length]; exact HL.out)
      have b1 : (0 : Int) ≤ (k : Int) := by omega
      have b2 : (k : Int) ≤ (s.size : Int) := by omega
      clear q1 q2 q3 q4
      go_upto_region 7 with fail
      go_region_law
        ((refine step_append_lies _ (by rfl) _ _ _ (by rfl) w.heap.size 31 i0 _ 1 24 Try.underlying38 hi0 hi1 hi2 hi3 rfl (by omega) (.slice b l c) l (cellsHq hs0) (by rfl) (by have h := HQ1.out; unfold OwnHq at h; rw [← HQL.out] at h; exact ((h.alloc _).alloc _).drew)
            ⟨wr.heap.size + 1, 0, none⟩ 1 1 [.slice (some ⟨wr.heap.size, 0, none⟩) 2 2] (by rfl) (by rfl) (World.news_of_block (cs := #[.slice (some ⟨wr.heap.size, 0, none⟩) 2 2]) (t := 31) (fr := (0, 0)) (by have h := heap_alloc_new (wr.alloc (.cells #[.string (s.extract 0 k), .string (s.extract k s.size)] 9)) (.cells #[.slice (some ⟨wr.heap.size, 0, none⟩) 2 2] 31); rw [World.size_alloc] at h; exact h)) (by simp [Value.oneCell'])
            (by omega) (by unfold maxLen; omega) (by omega) (by simp; omega) (wr.heap.size + 1 + 1) (by simp) ?_; intro gg cg w2 hown1 hgrow hat hlt2))
      all_goals
        have HB3 := Lib.hid (HB.out.trans ((Below.drew ((below2 wr (.cells #[.string (s.extract 0 k), .string (s.extract k s.size)] 9) (.cells #[.slice (some ⟨wr.heap.size, 0, none⟩) 2 2] 31)).mono hz)).trans (below_of_grown hgrow (fun g h => (HO.out.lt g h).1) (by simp; omega))))
        have HO3 := Lib.hid (snoc_pair (wb := _) HQ1.out HQ2.out HQ3.out HQ4.out HK.out (Below.refl _ _) (.inr rfl) hz (by unfold OwnHq; rw [List.length_append, ← HQL.out, cellsHq_append]; exact hown1) hgrow hat)
        clear hown1 hgrow hat
        go_wp2
        go_roundw
        case rel => exact ⟨k + 1, some ⟨gg, 0, none⟩, l + 1, cg, by omega, by go_num, rfl, by rw [HL.out], HO3.out, HB3.out⟩
        case measure => simp [intOf]; omega
    · obtain rfl : k = s.size + 1 := by omega
      have hkk : ¬ ((s.size + 1 : Nat) : Int) ≤ (s.size : Int) := by omega
      go_wp2
      go_ret2
      obtain ⟨e, hN⟩ := HO.out.at_
      exact ⟨b, c, by rw [← e]; rfl, HB.out, hN⟩

theorem below_two {w u v : World} (h1 : Below w.drew.heap.size w.drew u) (h2 : Below u.heap.size u v) : Below w.heap.size w v := by
  have h : Below w.heap.size w u := ⟨h1.os, h1.tape, h1.output, h1.size, h1.block⟩
  exact h.trans (h2.mono h.size)
/-- a copy, as one step of a region that draws -/
theorem step_clone {ops : Array Oper} {o : Oper} {a : Act} {w : World} {K : Act → World → Prop} {Q : Exit → Act → World → Prop} {E : Prop} (hg : o.guard = none) (x : Operand)
    (ho : o.op = .call { callee := .value (.func 42), args := #[x], argTypes := #[9] }) (s : ByteArray) (hx : a.eval x = .string s) (hs : s.size ≤ 1048576)
    (h : ∀ w', Below w.heap.size w w' → K (a.put o.dst (.string s)) w') : if Region.wanted o (yielded ops a.tmps) = true then Oper.wp Try.prog o a w K Q else E := by
  have hw : Region.wanted o (yielded ops a.tmps) = true := by simp [Region.wanted, hg]
  rw [if_pos hw]
  unfold Oper.wp
  have hrun : (execOp a.eval o).run Try.prog w = .ok (.enter 42 #[.string s]) w := by
    simpa [execOp, ho, resolve, invoke, Deferred.ofValue, go_sem] using hx
  rw [hrun, Oper.upon_enter]
  refine (cloneS_c s hs w).mono ?_
  rintro e w' ⟨rfl, hb⟩
  exact h w' hb
/-- the append of a pair, as one step of a region that draws -/
theorem step_pair {ops : Array Oper} {o : Oper} {a : Act} {W : World} {K : Act → World → Prop} {Q : Exit → Act → World → Prop} {E : Prop} (hgd : o.guard = none) (s x : Operand)
    (ho : o.op = .call { callee := .builtin .append, args := #[s, x], argTypes := #[38, 38] }) (base : Nat) (v : Value) (n : Nat) (hs0 : List Hq) (a1 a2 : ByteArray) (hs : a.eval s = v)
    (hown : OwnHq W base v hs0) (hn : n = hs0.length) (hx : a.eval x = .slice (some ⟨W.heap.size + 1, 0, none⟩) 1 1) (h9 : n ≤ 9) (hbase : base ≤ W.heap.size)
    (h : ∀ gg cg w', OwnHq w' base (.slice (some ⟨gg, 0, none⟩) (n + 1) cg) (hs0 ++ [⟨some ⟨W.heap.size, 0, none⟩, 2, 2⟩]) → ((W.alloc (.cells #[.string a1, .string a2] 9)).alloc (.cells #[.slice (some ⟨W.heap.size, 0, none⟩) 2 2] 31)).grownBy w' v.ownBlock → (v.ownBlock = some gg ∨ gg = W.heap.size + 1 + 1) → K (a.put o.dst (.slice (some ⟨gg, 0, none⟩) (n + 1) cg)) w') :
    if Region.wanted o (yielded ops a.tmps) = true then Oper.wp Try.prog o a ((W.alloc (.cells #[.string a1, .string a2] 9)).alloc (.cells #[.slice (some ⟨W.heap.size, 0, none⟩) 2 2] 31)) K Q else E := by
  obtain ⟨i0, hi0, hi1, hi2, hi3⟩ := info_parts info_rowS
  refine step_append_lies _ hgd s x 38 ho base 31 i0 _ 1 24 Try.underlying38 hi0 hi1 hi2 hi3 rfl (by omega) v n (cellsHq hs0) hs
    (by have h := (hown.alloc (.cells #[.string a1, .string a2] 9)).alloc (.cells #[.slice (some ⟨W.heap.size, 0, none⟩) 2 2] 31); unfold OwnHq at h; rw [← hn] at h; exact h)
    ⟨W.heap.size + 1, 0, none⟩ 1 1 [.slice (some ⟨W.heap.size, 0, none⟩) 2 2] hx rfl
    (World.news_of_block (cs := #[.slice (some ⟨W.heap.size, 0, none⟩) 2 2]) (t := 31) (fr := (0, 0)) (by have h := heap_alloc_new (W.alloc (.cells #[.string a1, .string a2] 9)) (.cells #[.slice (some ⟨W.heap.size, 0, none⟩) 2 2] 31); rw [World.size_alloc] at h; exact h))
    (by simp [Value.oneCell']) (by omega) (by unfold maxLen; omega) (by omega) (by simp; omega) (W.heap.size + 1 + 1) (by simp) ?_
  intro gg cg w' h1 h2 h3 _
  refine h gg cg w' ?_ h2 h3
  unfold OwnHq
  rw [List.length_append, ← hn, cellsHq_append]
  exact h1
set_option maxRecDepth 100000 in
set_option maxHeartbeats 4000000 in
theorem iCuts_2 (d : Int) (s : ByteArray) (h : shortB d 8 s = true) (w : World) :
    Calls Try.prog 29 #[.int .i64 d, .string s] w (CutsPost (cutsL s (s.size + 1)) 0 w) := by
  obtain ⟨h1, hs, h2⟩ := shortB_true h
  have hs2 : s.size ≤ maxLen := by unfold maxLen; omega
  have e1 := inB_yes h1
  have H2 := Lib.hid (show (decide ((s.size : Int) ≤ 8) && wordB d s.data.toList) = true by rw [h2]; simp; omega)
  clear h h2
  go_enter Try.func29, Try.ntmps29
  go_wp2_with (first | (go_at_call 37; refine (isBetween_c _ _ _ _).mono ?_; rintro e w' ⟨rfl, rfl⟩) | (go_at_call 52; refine (isWord_c _ _ _ hs2 _).mono ?_; rw [H2.out]; rintro e w' ⟨rfl, rfl⟩) | fail)
  go_loopw [6, 7, 20] (fun vs _ vi wr => ∃ (k : Nat) (b : Option Addr) (l c : Nat), k ≤ s.size + 1 ∧ vi = .int .i64 k ∧ vs = .slice b l c ∧ l = k ∧ OwnSP wr w.heap.size (.slice b l c) (cutsL s k) ∧ Below w.heap.size w wr) (fun _ _ vi _ => s.size + 1 - (intOf vi).toNat)
  case atStart => exact ⟨0, none, 0, 0, Nat.zero_le _, rfl, rfl, rfl, OwnSP.nil _ _, Below.refl _ _⟩
  case round =>
    obtain ⟨k, b, l, c, hk, rfl, rfl, hlk, hO, hB⟩ := hrel
    have HO := Lib.hid hO
    have HB := Lib.hid hB
    have HL := Lib.hid hlk
    have hz := hB.size
    have hl9 : l ≤ 9 := by omega
    clear hO hB hlk
    by_cases hlt : k < s.size + 1
    · have HK := Lib.hid (cutsL_succ s k)
      obtain ⟨hs0, q1, q2, q3, q4⟩ := HO.out
      have HQ1 := Lib.hid q1
      have HQ2 := Lib.hid q2
      have HQ3 := Lib.hid q3
      have HQ4 := Lib.hid q4
      have HQL := Lib.hid (show l = hs0.length by rw [q2, cutsL_length]; exact HL.out)
      have b1 : (0 : Int) ≤ (k : Int) := by omega
      have b2 : (k : Int) ≤ (s.size : Int) := by omega
      have z1 : (s.extract 0 k).size ≤ 1048576 := by simp only [ByteArray.size_extract]; omega
      have z2 : (s.extract k s.size).size ≤ 1048576 := by simp only [ByteArray.size_extract]; omega
      clear q1 q2 q3 q4
      go_upto_region 7 with fail
      go_region_law (first
        | (refine step_clone rfl (.tmp 26) rfl (s.extract 0 k) rfl z1 ?_; intro wa hba)
        | (refine step_clone rfl (.tmp 30) rfl (s.extract k s.size) rfl z2 ?_; intro wb hbb)
        | (refine step_pair rfl (.tmp 23) (.tmp 33) rfl w.heap.size (.slice b l c) l hs0 _ _ rfl (HQ1.out.below (below_two hba hbb) (fun g h => (HQ1.out.lt g h).2)) HQL.out rfl hl9 (Nat.le_trans hz (below_two hba hbb).size) ?_; intro gg cg w5 hO5 hG5 hv5))
      all_goals
        have hB2 := below_two hba hbb
        have HB3 := Lib.hid (HB.out.trans ((((hB2.alloc hB2.size (.cells #[.string (s.extract 0 k), .string (s.extract k s.size)] 9)).alloc (by simp; have := hB2.size; omega) (.cells #[.slice (some ⟨wb.heap.size, 0, none⟩) 2 2] 31)).mono hz).trans (below_of_grown hG5 (fun g h => (HO.out.lt g h).1) (by have := hB2.size; simp; omega))))
        have HO3 := Lib.hid (snoc_pair (wb := _) HQ1.out HQ2.out HQ3.out HQ4.out HK.out hB2 (.inl rfl) hz hO5 hG5 hv5)
        clear hO5 hG5 hv5 hba hbb hB2
        go_wp2
        go_roundw
        case rel => exact ⟨k + 1, some ⟨gg, 0, none⟩, l + 1, cg, by omega, by go_num, rfl, by rw [HL.out], HO3.out, HB3.out⟩
        case measure => simp [intOf]; omega
    · obtain rfl : k = s.size + 1 := by omega
      have hkk : ¬ ((s.size + 1 : Nat) : Int) < (s.size : Int) + 1 := by omega
      go_wp2
      go_ret2
      obtain ⟨e, hN⟩ := HO.out.at_
      exact ⟨b, c, by rw [← e]; rfl, HB.out, hN⟩
end Go.Proofs.Ytgelajjjghboaaa
