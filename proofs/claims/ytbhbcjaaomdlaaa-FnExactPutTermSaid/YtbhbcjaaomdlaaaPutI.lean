/-
  Contract of the program's replaceTerm.
-/
import Derived.Test.YtbhbcjaaomdlaaaPutM
import Derived.BigQuiet
namespace Go.Proofs.Ytbhbcjaaomdlaaa
open Go.RowKit

set_option maxRecDepth 100000 in
/-- appending to a row that ends at its capacity: what is there stays, and what comes of it, if anything is appended, is the call's own -/
theorem wpList_append_full {ops : Array Oper} {rest : List Oper} {o : Oper} {a : Act} {w : World} {Q : Exit → Act → World → Prop} (hgd : o.guard = none) (s x : Operand)
    (ho : o.op = .call { callee := .builtin .append, args := #[s, x], argTypes := #[26, 26] })
    (b n : Nat) (xs ys : List Tm) (hs : a.eval s = .slice (some ⟨b, 0, none⟩) n n) (hn : n = xs.length) (hx0 : TermsIn w b 0 xs) (A : Option Addr) (m c : Nat) (hx : a.eval x = .slice A m c) (hm : m = ys.length)
    (hsrc : m = 0 ∨ ∃ b off, A = some ⟨b, off, none⟩ ∧ TermsIn w b off ys) (hbig : n + m ≤ 4194304)
    (h0 : Hid (m = 0) → wpList Try.prog ops Q rest (a.put o.dst (.slice (some ⟨b, 0, none⟩) n n)) w)
    (h1 : Hid (0 < m) → ∀ a' c' w', OwnT w' w.heap.size (.slice a' (n + m) c') (xs ++ ys) → w.grownBy w' none → wpList Try.prog ops Q rest (a.put o.dst (.slice a' (n + m) c')) w') :
    wpList Try.prog ops Q (o :: rest) a w := by
  obtain ⟨i0, hi0, hi1, hi2, hi3⟩ := info_parts info_term
  refine wpList_plain hgd fun K hK => ?_
  by_cases hm0 : m = 0
  · subst hm0
    have hr : (Builtin.append_ #[26, 26] o.type #[.slice (some ⟨b, 0, none⟩) n n, .slice A 0 c]).run Try.prog w = .ok (.slice (some ⟨b, 0, none⟩) n n) w := by
      cases A with
      | none => simp [Builtin.append_, run_underlying Try.underlying26, sizeOf, typeInfo, hi0, Builtin.lenOf, Builtin.firstCells, storeCells]
      | some ad =>
        have h := run_append_room_cells (P := Try.prog) w 26 o.type 60 i0 Try.underlying26 hi0 b 0 n n ad 0 c [] (by simp) (by simp) (by simp) (by omega) (by simp) (by simp)
        rw [h]
        rfl
    unfold Oper.wp execOp
    simp only [ho, resolve, invoke, builtin, Sem.run_bind, Sem.run_pure, Result.andThen_ok, List.map_toArray, List.map_cons, List.map_nil, hs, hx, hr]
    exact hK _ _ (h0 (Lib.hid rfl))
  · rcases hsrc with h | ⟨b', off, rfl, ht⟩
    · exact absurd h hm0
    obtain ⟨v', w', hr, h2, h3⟩ := run_append_arg_grows (P := Try.prog) w 26 o.type 60 i0 _ 3 32 Try.underlying26 hi0 hi1 hi2 hi3 rfl (by omega) ⟨b, 0, none⟩ n n (cellsT xs) (by rw [cellsT_length, hn]) (terms_news hx0) ⟨b', off, none⟩ m c (cellsT ys) (by rw [cellsT_length, hm]) (terms_news ht) (by omega) (by unfold maxLen; omega) (by omega)
    have hO : OwnT w' w.heap.size v' (xs ++ ys) := by
      unfold OwnT
      rw [List.length_append, cellsT_append, ← hn, ← hm]
      exact h2
    obtain ⟨a', c', rfl, _, _⟩ := hO.newRow
    rw [List.length_append, ← hn, ← hm] at hr hO
    unfold Oper.wp execOp
    simp only [ho, resolve, invoke, builtin, Sem.run_bind, Sem.run_pure, Result.andThen_ok, List.map_toArray, List.map_cons, List.map_nil, hs, hx, hr]
    exact hK _ _ (h1 (Lib.hid (by omega)) a' c' w' hO h3)

def RepPost (rs : List Tm) (W : World) (e : Ending) (w' : World) : Prop :=
  ∃ (a : Option Addr) (c : Nat), e = .returned (.slice a rs.length c) ∧ Row w' a rs ∧ Below W.heap.size W w'
theorem rep_own {rs : List Tm} {W w' : World} {a : Option Addr} {m c base : Nat} (hO : OwnT w' base (.slice a m c) rs) (hm : m = rs.length) (hb : Below W.heap.size W w') : RepPost rs W (.returned (.slice a m c)) w' := by
  subst hm
  obtain ⟨a', c', he, hle, hN⟩ := hO.newRow
  injection he with e1 e2 e3
  subst e1 e3
  exact ⟨_, _, rfl, hN.row, hb⟩
theorem terms_take {w : World} {b off : Nat} {ts : List Tm} (h : TermsIn w b off ts) (i : Nat) : TermsIn w b off (ts.take i) := fun k hk => by
  rw [List.length_take] at hk
  have := h k (by omega)
  rw [List.getElem_take]
  exact this

theorem FindPost.out {ts : List Tm} {w0 : List UInt8} {W w' : World} {e : Ending} (h : FindPost ts w0 W e w') :
    ∃ (i : Nat) (f : Bool), Place ts w0 i ∧ (match ts[i]? with | some t => decide (t.s.data.toList = w0) | none => false) = f ∧ e = .returned (.tuple #[.int .i64 i, .bool f]) ∧ Below W.heap.size W w' := by
  obtain ⟨i, hp, rfl, hb⟩ := h
  exact ⟨i, _, hp, rfl, rfl, hb⟩
theorem terms_drop {w : World} {b off : Nat} {ts : List Tm} (h : TermsIn w b off ts) (i : Nat) : TermsIn w b (off + i * 3) (ts.drop i) := fun k hk => by
  rw [List.length_drop] at hk
  have := h (i + k) (by omega)
  rw [List.getElem_drop]
  have e : off + i * 3 + k * 3 = off + (i + k) * 3 := by omega
  rw [e]
  exact this

theorem rep_done {r : Option (List Tm)} {rs : List Tm} {W w' : World} {a : Option Addr} {m c base : Nat} (hr : r = some rs) (hO : OwnT w' base (.slice a m c) rs) (hm : m = rs.length) (hb : Below W.heap.size W w') : ∃ rs, r = some rs ∧ RepPost rs W (.returned (.slice a m c)) w' :=
  ⟨rs, hr, rep_own hO hm hb⟩
theorem rep_full {r : Option (List Tm)} {xs ys : List Tm} {W w' : World} {b n : Nat} (hr : r = some (xs ++ ys)) (hn : n = xs.length) (h0 : 0 = ys.length) (hx : TermsIn w' b 0 xs) (hbw : b < w'.heap.size) (hb : Below W.heap.size W w') :
    ∃ rs, r = some rs ∧ RepPost rs W (.returned (.slice (some ⟨b, 0, none⟩) n n)) w' := by
  have e : ys = [] := List.eq_nil_of_length_eq_zero h0.symm
  subst e hn
  rw [List.append_nil] at hr
  exact ⟨xs, hr, _, _, rfl, .inr ⟨b, 0, rfl, hbw, hx⟩, hb⟩
theorem below_q {B : Nat} {a w : World} (h : Below B a w) (n : Nat) : Below B a (w.drewN n) := ⟨h.os, h.tape, h.output, h.size, h.block⟩

set_option maxRecDepth 100000 in
set_option maxHeartbeats 4000000 in
theorem replaceTerm_c (b : Nat) (ts : List Tm) (hl : ts.length ≤ 1048576) (s : ByteArray) (x d : Int) (hd : x = 0 → d = 1) (ha : Asc ts) (w : World) (hb : b < w.heap.size) (ht : TermsIn w b 0 ts) :
    Calls Try.prog 39 #[.slice (some ⟨b, 0, none⟩) ts.length ts.length, .agg #[.string s, .int .i64 x, .int .i64 d]] w fun e w' => ∃ rs, putL (othL s ts) ⟨s, x, d⟩ = some rs ∧ RepPost rs w e w' := by
  have HT := Lib.hid ht
  have HA := Lib.hid ha
  clear ht ha
  go_enter Try.func39, Try.ntmps39
  go_wp2_with fail
  refine (findTerm_c b 0 ts.length ts hl s HA.out _ (by simp; omega) (HT.out.below (below1 w _) hb)).mono ?_
  rintro e w1 h
  obtain ⟨i, f, hp, hf, rfl, hb1⟩ := h.out
  have hi := hp.1
  have HP := Lib.hid (put_oth ⟨s, x, d⟩ HA.out hp f hf)
  have HF := Lib.hid (show f = true → i < ts.length from fun e => by
    rcases Nat.lt_or_ge i ts.length with h | h
    · exact h
    · rw [List.getElem?_eq_none h] at hf; rw [← hf] at e; cases e)
  have hB : Below (w.heap.size + 1) (w.alloc (.cells #[.string s, .int .i64 x, .int .i64 d] 60)) w1 := by simpa using hb1
  obtain ⟨hc, hfz⟩ := bcellB hB
  have x0 : w1.cell? ⟨w.heap.size, 0, none⟩ = some (.string s) := (hc _ _ (by omega)).trans (by go_simp)
  have x1 : w1.cell? ⟨w.heap.size, 1, none⟩ = some (.int .i64 x) := (hc _ _ (by omega)).trans (by go_simp)
  have x2 : w1.cell? ⟨w.heap.size, 2, none⟩ = some (.int .i64 d) := (hc _ _ (by omega)).trans (by go_simp)
  have hz1 : w.heap.size < w1.heap.size := by have := hB.size; simp at this; omega
  have HW := Lib.hid ((below1 w (.cells #[.string s, .int .i64 x, .int .i64 d] 60)).trans (hB.mono (by omega)))
  clear h hb1 hB hc hfz hp hf
  have HTl : Hid (i = (ts.take i).length) := Lib.hid (by rw [List.length_take]; omega)
  clear HTl
  by_cases hx0 : x = 0
  · cases f with
    | true =>
      obtain ⟨xs, ys, lX, lY, tX, tY, hR⟩ : ∃ xs ys, i = xs.length ∧ ts.length - (i + 1) = ys.length ∧ TermsIn w b 0 xs ∧ TermsIn w b (i * 3 + 3) ys ∧ putL (othL s ts) ⟨s, x, d⟩ = some (xs ++ ys) :=
        ⟨ts.take i, ts.drop (i + 1), by rw [List.length_take]; omega, by rw [List.length_drop], terms_take HT.out i, by have h := terms_drop HT.out (i + 1); rwa [show 0 + (i + 1) * 3 = i * 3 + 3 from by omega] at h, by rw [HP.out]; simp [replT, conT, hx0]⟩
      have HR := Lib.hid hR
      have HlX := Lib.hid lX
      have HlY := Lib.hid lY
      have HX := Lib.hid tX
      have HD := Lib.hid tY
      have hlt := HF.out rfl
      have hne : ¬ ts.length = i := by omega
      clear HF HP hR tX tY lX lY
      obtain rfl := hd hx0
      subst hx0
      go_wp2_with fail
      go_quiet (fail)
      go_wp2_with fail
      all_goals
        refine (isZero_c _ _ _).mono ?_
        rintro e w2 ⟨rfl, hb2⟩
        have HW2 := Lib.hid ((below_q HW.out _).trans (hb2.mono HW.out.size))
        have hz2 : w1.heap.size ≤ w2.heap.size := hb2.size
        clear hb2 x0 x1 x2
        go_wp2_with (at_builtin; refine wpList_append_full rfl _ _ rfl b i xs ys rfl HlX.out (HX.out.below HW2.out hb) _ _ _ rfl ?_ ?_ (by omega) ?_ ?_)
        all_goals
          first
            | (have := HlY.out; omega)
            | exact .inl (by omega)
            | exact .inr ⟨b, _, rfl, HD.out.below HW2.out hb⟩
            | skip
        · intro hm0
          have hm1 : 0 = ys.length := by have := hm0.out; have := HlY.out; omega
          go_wp2
          go_ret
          exact rep_full HR.out HlX.out hm1 (HX.out.below HW2.out hb) (by omega) HW2.out
        · intro hm0 a9 c9 w9 hO9 hG9
          have HB9 := Lib.hid (HW2.out.trans (below_of_grown (B := w.heap.size) hG9 (fun g h => by cases h) (by omega)))
          have HO9 := Lib.hid hO9
          clear hO9 hG9
          go_wp2
          go_ret
          exact rep_done HR.out HO9.out (by have := HlX.out; have := HlY.out; rw [List.length_append]; omega) HB9.out
    | false =>
      obtain ⟨xs, ys, lX, lY, tX, tY, hR⟩ : ∃ xs ys, i = xs.length ∧ ts.length - i = ys.length ∧ TermsIn w b 0 xs ∧ TermsIn w b (i * 3) ys ∧ putL (othL s ts) ⟨s, x, d⟩ = some (xs ++ ys) :=
        ⟨ts.take i, ts.drop i, by rw [List.length_take]; omega, by rw [List.length_drop], terms_take HT.out i, by have h := terms_drop HT.out i; rwa [show 0 + i * 3 = i * 3 from by omega] at h, by rw [HP.out]; simp [replT, conT, hx0]⟩
      have HR := Lib.hid hR
      have HlX := Lib.hid lX
      have HlY := Lib.hid lY
      have HX := Lib.hid tX
      have HD := Lib.hid tY
      clear HF HP hR tX tY lX lY
      obtain rfl := hd hx0
      subst hx0
      go_wp2_with fail
      go_quiet (fail)
      go_wp2_with fail
      all_goals
        refine (isZero_c _ _ _).mono ?_
        rintro e w2 ⟨rfl, hb2⟩
        have HW2 := Lib.hid ((below_q HW.out _).trans (hb2.mono HW.out.size))
        have hz2 : w1.heap.size ≤ w2.heap.size := hb2.size
        clear hb2 x0 x1 x2
        go_wp2_with (at_builtin; refine wpList_append_full rfl _ _ rfl b i xs ys rfl HlX.out (HX.out.below HW2.out hb) _ _ _ rfl ?_ ?_ (by omega) ?_ ?_)
        all_goals
          first
            | (have := HlY.out; omega)
            | exact .inl (by omega)
            | exact .inr ⟨b, _, rfl, HD.out.below HW2.out hb⟩
            | skip
        · intro hm0
          have hm1 : 0 = ys.length := by have := hm0.out; have := HlY.out; omega
          go_wp2
          go_ret
          exact rep_full HR.out HlX.out hm1 (HX.out.below HW2.out hb) (by omega) HW2.out
        · intro hm0 a9 c9 w9 hO9 hG9
          have HB9 := Lib.hid (HW2.out.trans (below_of_grown (B := w.heap.size) hG9 (fun g h => by cases h) (by omega)))
          have HO9 := Lib.hid hO9
          clear hO9 hG9
          go_wp2
          go_ret
          exact rep_done HR.out HO9.out (by have := HlX.out; have := HlY.out; rw [List.length_append]; omega) HB9.out
  · cases f with
    | true =>
      obtain ⟨xs, ys, lX, lY, tX, tY, hR⟩ : ∃ xs ys, i = xs.length ∧ ts.length - (i + 1) = ys.length ∧ TermsIn w b 0 xs ∧ TermsIn w b (i * 3 + 3) ys ∧ putL (othL s ts) ⟨s, x, d⟩ = some (xs ++ ⟨s, x, d⟩ :: ys) :=
        ⟨ts.take i, ts.drop (i + 1), by rw [List.length_take]; omega, by rw [List.length_drop], terms_take HT.out i, by have h := terms_drop HT.out (i + 1); rwa [show 0 + (i + 1) * 3 = i * 3 + 3 from by omega] at h, by rw [HP.out]; simp [replT, conT, hx0]⟩
      have HR := Lib.hid hR
      have HlX := Lib.hid lX
      have HlY := Lib.hid lY
      have HX := Lib.hid tX
      have HD := Lib.hid tY
      have hlt := HF.out rfl
      have hne : ¬ ts.length = i := by omega
      clear HF HP hR tX tY lX lY
      have hxz : (x == 0 && d == 1) = false := by simp [hx0]
      go_wp2_with fail
      go_quiet (fail)
      go_wp2_with fail
      all_goals
        refine (isZero_c _ _ _).mono ?_
        rw [hxz]
        rintro e w2 ⟨rfl, hb2⟩
        have HW2 := Lib.hid ((below_q HW.out _).trans (hb2.mono HW.out.size))
        have hz2 : w1.heap.size ≤ w2.heap.size := hb2.size
        have y0 : w2.cell? ⟨w.heap.size, 0, none⟩ = some (.string s) := (hb2.cell (p := ⟨w.heap.size, 0, none⟩) hz1).trans x0
        have y1 : w2.cell? ⟨w.heap.size, 1, none⟩ = some (.int .i64 x) := (hb2.cell (p := ⟨w.heap.size, 1, none⟩) hz1).trans x1
        have y2 : w2.cell? ⟨w.heap.size, 2, none⟩ = some (.int .i64 d) := (hb2.cell (p := ⟨w.heap.size, 2, none⟩) hz1).trans x2
        clear hb2 x0 x1 x2
        go_wp2_with (at_builtin; refine wpList_append_full rfl _ _ rfl b i xs [⟨s, x, d⟩] rfl HlX.out ((HX.out.below HW2.out hb).below (below1 _ _) (by omega)) _ _ _ rfl rfl (.inr ⟨_, 0, rfl, terms_one w2 ⟨s, x, d⟩⟩) (by omega) (fun h => absurd h.out (by omega)) ?_)
        intro _ a3 c3 w3 hO3 hG3
        have HB3 := Lib.hid (HW2.out.trans (((below1 w2 (.cells #[.string s, .int .i64 x, .int .i64 d] 60)).mono (by omega)).trans (below_of_grown (B := w.heap.size) hG3 (fun g h => by cases h) (by simp; omega))))
        have HO3 := Lib.hid (show OwnT w3 (w2.heap.size + 1) (.slice a3 (i + 1) c3) (xs ++ [⟨s, x, d⟩]) from by simpa using hO3)
        have hz3 : w2.heap.size < w3.heap.size := by have := hG3.size; simp at this; omega
        clear hO3 hG3 y0 y1 y2
        have HL1 : Hid (i + 1 = (xs ++ [(⟨s, x, d⟩ : Tm)]).length) := Lib.hid <| by have := HlX.out; rw [List.length_append, List.length_singleton]; omega
        go_wp2_with (at_builtin; (refine wpList_append_terms rfl _ _ rfl (w2.heap.size + 1) (.slice a3 (i + 1) c3) (i + 1) (xs ++ [⟨s, x, d⟩]) ys rfl HL1.out HO3.out _ _ _ rfl ?_ ?_ (by omega) (by omega) ?_))
        all_goals
          first
            | (have := HlY.out; omega)
            | exact .inl (by omega)
            | exact .inr ⟨b, _, rfl, HD.out.below HB3.out hb⟩
            | skip
        intro a9 c9 w9 hO9 hG9 _
        have HB9 := Lib.hid (HB3.out.trans ((own_grown HO3.out hG9 (by omega)).mono (by omega)))
        have HO9 := Lib.hid hO9
        clear hO9 hG9
        go_wp2
        go_ret
        exact rep_done (by rw [HR.out]) HO9.out (by have := HlX.out; have := HlY.out; simp; omega) HB9.out
    | false =>
      obtain ⟨xs, ys, lX, lY, tX, tY, hR⟩ : ∃ xs ys, i = xs.length ∧ ts.length - i = ys.length ∧ TermsIn w b 0 xs ∧ TermsIn w b (i * 3) ys ∧ putL (othL s ts) ⟨s, x, d⟩ = some (xs ++ ⟨s, x, d⟩ :: ys) :=
        ⟨ts.take i, ts.drop i, by rw [List.length_take]; omega, by rw [List.length_drop], terms_take HT.out i, by have h := terms_drop HT.out i; rwa [show 0 + i * 3 = i * 3 from by omega] at h, by rw [HP.out]; simp [replT, conT, hx0]⟩
      have HR := Lib.hid hR
      have HlX := Lib.hid lX
      have HlY := Lib.hid lY
      have HX := Lib.hid tX
      have HD := Lib.hid tY
      clear HF HP hR tX tY lX lY
      have hxz : (x == 0 && d == 1) = false := by simp [hx0]
      go_wp2_with fail
      go_quiet (fail)
      go_wp2_with fail
      all_goals
        refine (isZero_c _ _ _).mono ?_
        rw [hxz]
        rintro e w2 ⟨rfl, hb2⟩
        have HW2 := Lib.hid ((below_q HW.out _).trans (hb2.mono HW.out.size))
        have hz2 : w1.heap.size ≤ w2.heap.size := hb2.size
        have y0 : w2.cell? ⟨w.heap.size, 0, none⟩ = some (.string s) := (hb2.cell (p := ⟨w.heap.size, 0, none⟩) hz1).trans x0
        have y1 : w2.cell? ⟨w.heap.size, 1, none⟩ = some (.int .i64 x) := (hb2.cell (p := ⟨w.heap.size, 1, none⟩) hz1).trans x1
        have y2 : w2.cell? ⟨w.heap.size, 2, none⟩ = some (.int .i64 d) := (hb2.cell (p := ⟨w.heap.size, 2, none⟩) hz1).trans x2
        clear hb2 x0 x1 x2
        go_wp2_with (at_builtin; refine wpList_append_full rfl _ _ rfl b i xs [⟨s, x, d⟩] rfl HlX.out ((HX.out.below HW2.out hb).below (below1 _ _) (by omega)) _ _ _ rfl rfl (.inr ⟨_, 0, rfl, terms_one w2 ⟨s, x, d⟩⟩) (by omega) (fun h => absurd h.out (by omega)) ?_)
        intro _ a3 c3 w3 hO3 hG3
        have HB3 := Lib.hid (HW2.out.trans (((below1 w2 (.cells #[.string s, .int .i64 x, .int .i64 d] 60)).mono (by omega)).trans (below_of_grown (B := w.heap.size) hG3 (fun g h => by cases h) (by simp; omega))))
        have HO3 := Lib.hid (show OwnT w3 (w2.heap.size + 1) (.slice a3 (i + 1) c3) (xs ++ [⟨s, x, d⟩]) from by simpa using hO3)
        have hz3 : w2.heap.size < w3.heap.size := by have := hG3.size; simp at this; omega
        clear hO3 hG3 y0 y1 y2
        have HL1 : Hid (i + 1 = (xs ++ [(⟨s, x, d⟩ : Tm)]).length) := Lib.hid <| by have := HlX.out; rw [List.length_append, List.length_singleton]; omega
        go_wp2_with (at_builtin; (refine wpList_append_terms rfl _ _ rfl (w2.heap.size + 1) (.slice a3 (i + 1) c3) (i + 1) (xs ++ [⟨s, x, d⟩]) ys rfl HL1.out HO3.out _ _ _ rfl ?_ ?_ (by omega) (by omega) ?_))
        all_goals
          first
            | (have := HlY.out; omega)
            | exact .inl (by omega)
            | exact .inr ⟨b, _, rfl, HD.out.below HB3.out hb⟩
            | skip
        intro a9 c9 w9 hO9 hG9 _
        have HB9 := Lib.hid (HB3.out.trans ((own_grown HO3.out hG9 (by omega)).mono (by omega)))
        have HO9 := Lib.hid hO9
        clear hO9 hG9
        go_wp2
        go_ret
        exact rep_done (by rw [HR.out]) HO9.out (by have := HlX.out; have := HlY.out; simp; omega) HB9.out
end Go.Proofs.Ytbhbcjaaomdlaaa
