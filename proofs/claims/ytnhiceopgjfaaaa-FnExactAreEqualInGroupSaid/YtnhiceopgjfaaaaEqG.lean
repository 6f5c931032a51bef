/-
  Two words have the same reduced word just when the inverse of one with the other behind it reduces to nothing. AreEqualInGroup: contracts of the program and of the model.
-/
import Derived.Test.YtnhiceopgjfaaaaGrpF
namespace Go.Proofs.Ytnhiceopgjfaaaa
open Go.RowKit

/-- no number stands next to its opposite -/
def okR : List Int → Prop
  | [] => True
  | [_] => True
  | x :: y :: t => y ≠ -x ∧ okR (y :: t)
theorem okR_tail {x : Int} {t : List Int} (h : okR (x :: t)) : okR t := by
  cases t with
  | nil => trivial
  | cons y r => exact h.2
theorem okR_put {st : List Int} (h : okR st) (x : Int) : okR (putR st x) := by
  unfold putR
  split
  · trivial
  · rename_i y t
    split
    · exact okR_tail h
    · rename_i hne
      exact ⟨hne, h⟩
theorem okR_fold : ∀ (z st : List Int), okR st → okR (z.foldl putR st)
  | [], _, h => h
  | x :: r, _, h => okR_fold r _ (okR_put h x)
theorem okR_red (z : List Int) : okR (redR z) := okR_fold z [] trivial
/-- a number and its opposite behind it leave a reduced word as it was -/
theorem put_back {st : List Int} (h : okR st) (x : Int) : putR (putR st x) (-x) = st := by
  match st, h with
  | [], _ => simp [putR]
  | y :: t, h =>
    by_cases hy : y = -x
    · subst hy
      match t, h with
      | [], _ => simp [putR]
      | z :: r, h =>
        have hz : z ≠ x := by have := h.1; simpa using this
        simp [putR, hz]
    · simp [putR, hy]
theorem put_back' {st : List Int} (h : okR st) (x : Int) : putR (putR st (-x)) x = st := by
  have := put_back h (-x)
  rwa [Int.neg_neg] at this
/-- a word behind a reduced one may be reduced by itself -/
theorem fold_red {a : List Int} (ha : okR a) (u : List Int) : u.foldl putR a = (redL u).foldl putR a := by
  have H : ∀ (n : Nat) (u : List Int), u.length = n → u.foldl putR a = (redL u).foldl putR a := by
    intro n
    induction n with
    | zero =>
      intro u hu
      have : u = [] := List.eq_nil_of_length_eq_zero hu
      subst this
      simp [redL, redR]
    | succ n ih =>
      intro u hu
      rcases List.eq_nil_or_concat u with rfl | ⟨v, x, rfl⟩
      · simp at hu
      · rw [List.concat_eq_append] at hu ⊢
        have hv : v.length = n := by simpa using hu
        have e := ih v hv
        rw [List.foldl_append, e]
        unfold redL
        rw [redR_snoc]
        have hf := okR_fold (redR v).reverse a ha
        unfold redL at e
        cases hr : redR v with
        | nil => simp [putR]
        | cons y t =>
          by_cases hy : y = -x
          · subst hy
            have h1 : putR (-x :: t) x = t := by simp [putR]
            rw [h1]
            simp only [List.reverse_cons, List.foldl_append, List.foldl_cons, List.foldl_nil]
            exact put_back' (okR_fold t.reverse a ha) x
          · have h1 : putR (y :: t) x = x :: y :: t := by simp [putR, hy]
            rw [h1]
            simp
  exact H u.length u rfl
theorem fold_inv {a : List Int} (ha : okR a) : ∀ (v : List Int), (invL v).foldl putR (v.foldl putR a) = a
  | [] => rfl
  | x :: r => by
    have h : invL (x :: r) = invL r ++ [-x] := by simp [invL]
    have e : List.foldl putR a (x :: r) = List.foldl putR (putR a x) r := rfl
    rw [h, List.foldl_append, e, fold_inv (okR_put ha x) r]
    simp only [List.foldl_cons, List.foldl_nil]
    exact put_back ha x
theorem invL_invL (v : List Int) : invL (invL v) = v := by
  unfold invL
  rw [List.map_reverse, List.reverse_reverse, List.map_map]
  have : ((fun x : Int => -x) ∘ fun x : Int => -x) = id := by funext x; simp
  rw [this, List.map_id]
theorem redL_same (v u : List Int) : redL (invL v ++ u) = [] ↔ redL v = redL u := by
  have hR : ∀ z : List Int, redL z = [] ↔ redR z = [] := fun z => by simp [redL]
  constructor
  · intro h
    have h0 : redR (invL v ++ u) = [] := (hR _).1 h
    have h1 : (invL v ++ u).foldl putR (redR v) = redR v := by
      rw [fold_red (okR_red v), h]; rfl
    have h2 : (invL v ++ u).foldl putR (redR v) = redR u := by
      rw [List.foldl_append]
      have : (invL v).foldl putR (redR v) = [] := fold_inv (a := []) trivial v
      rw [this]; rfl
    unfold redL
    rw [← h1, h2]
  · intro h
    rw [hR]
    have h3 : redR (invL v ++ u) = u.foldl putR (redR (invL v)) := by simp [redR]
    rw [h3, fold_red (okR_red _), ← h, ← fold_red (okR_red _)]
    have := fold_inv (a := []) trivial (invL v)
    rw [invL_invL] at this
    exact this
def eqG (v u : List Int) : Bool := decide (redL v = redL u)
theorem eqG_len (v u : List Int) : decide (((redL (invL v ++ u)).length : Int) = 0) = eqG v u := by
  unfold eqG
  by_cases h : redL v = redL u
  · rw [decide_eq_true h, (redL_same v u).2 h]; rfl
  · rw [decide_eq_false h]
    apply decide_eq_false
    intro h0
    exact h ((redL_same v u).1 (List.eq_nil_of_length_eq_zero (by omega)))

section
variable (d : Int) (a1 a2 : Option Addr) (c1 c2 : Nat) (v u : List Int) (hv : v.length ≤ 1048576) (hu : u.length ≤ 1048576) (w : World) (hr1 : IRow 0 w.heap.size w a1 v) (hr2 : IRow 0 w.heap.size w a2 u)
include hv hu hr1 hr2
set_option maxHeartbeats 1000000 in
theorem iAreEqualInGroup_3 (h : grpB d v = true) (h2 : grpB d u = true) : Calls Try.prog 35 #[.int .i64 d, .slice a1 v.length c1, .slice a2 u.length c2] w fun e w' => e = .returned (.tuple #[.bool (eqG v u), .int .i64 0]) ∧ Below w.heap.size w w' := by
  have H1 := Lib.hid (iIsGroupWord_c 0 w.heap.size d a1 c1 v hv w hr1)
  have H2 := Lib.hid (iIsGroupWord_c 0 w.heap.size d a2 c2 u hu w hr2)
  rw [h] at H1
  rw [h2] at H2
  have HK1 := Lib.hid (goodD_ok (c := c1) h hr1)
  have HK2 := Lib.hid (goodD_ok (c := c2) h2 hr2)
  have HE := Lib.hid (eqG_len v u)
  clear hr1 hr2 h h2
  go_enter Try.func35, Try.ntmps35
  go_wp2_with (go_at_call 15; first | (with_reducible refine H1.out.mono ?_; rintro e w' ⟨rfl, rfl⟩) | (with_reducible refine H2.out.mono ?_; rintro e w' ⟨rfl, rfl⟩))
  have HP := prd_new w ([.inv ⟨a1, c1, v⟩, .word ⟨a2, c2, u⟩] : List El) 47 (by simp) (fun e he => by
    simp only [List.mem_cons, List.not_mem_nil, or_false] at he
    rcases he with rfl | rfl
    · exact HK1.out
    · exact HK2.out)
  have HA := Lib.hid (redPrd_c w.heap.size 2 2 _ _ rfl HP)
  simp only [allN, List.flatMap_cons, List.flatMap_nil, El.num, List.append_nil] at HA
  clear HP
  refine HA.out.mono ?_
  rintro e w9 ⟨a9, c9, rfl, hb9, hN9⟩
  have HB9 := Lib.hid ((below1 _ _).trans (hb9.mono (by simp)))
  clear hb9 hN9
  obtain ⟨r, hr⟩ : ∃ r, redL (invL v ++ u) = r := ⟨_, rfl⟩
  rw [hr] at HE ⊢
  clear hr HA
  by_cases h0 : (r.length : Int) = 0
  · have HF := Lib.hid (show eqG v u = true from by rw [← HE.out]; exact decide_eq_true h0)
    go_wp2
    go_ret2
    exact ⟨by first | (rw [HF.out]; done) | (rw [HF.out]; rfl), HB9.out⟩
  · have HF := Lib.hid (show eqG v u = false from by rw [← HE.out]; exact decide_eq_false h0)
    have hb0 : ((r.length : Int) == 0) = false := by simpa using h0
    go_wp2
    go_ret2
    exact ⟨by first | (rw [HF.out]; done) | (rw [HF.out]; rfl), HB9.out⟩
end

/-- do two lists agree up to `k`? -/
theorem eqTo_all {x y : List Int} (hl : x.length = y.length) (h : ∀ i (h1 : i < x.length) (h2 : i < y.length), x[i] = y[i]) : x = y := List.ext_getElem hl h

set_option maxRecDepth 100000 in
set_option maxHeartbeats 4000000 in
theorem sAreEqualInGroup_3 (d : Int) (a1 a2 : Option Addr) (c1 c2 : Nat) (v u : List Int) (hv : v.length ≤ 1048576) (hu : u.length ≤ 1048576) (w : World) (hr1 : IRow 0 w.heap.size w a1 v) (hr2 : IRow 0 w.heap.size w a2 u)
    (h : grpB d v = true) (h2 : grpB d u = true) : Calls Try.prog 34 #[.int .i64 d, .slice a1 v.length c1, .slice a2 u.length c2] w fun e w' => e = .returned (.tuple #[.bool (eqG v u), .int .i64 0]) ∧ Below w.heap.size w w' := by
  have H1 := Lib.hid (l09Is_c 0 w.heap.size d a1 c1 v hv w hr1)
  have H2 := Lib.hid (l09Is_c 0 w.heap.size d a2 c2 u hu w hr2)
  rw [h] at H1
  rw [h2] at H2
  have HK1 := Lib.hid (goodD_ok (c := c1) h hr1)
  have HK2 := Lib.hid (goodD_ok (c := c2) h2 hr2)
  have hl1 := (grpB_true h).len
  have hl2 := (grpB_true h2).len
  have HL1 := Lib.hid (redL_len v)
  have HL2 := Lib.hid (redL_len u)
  have HE := Lib.hid (show eqG v u = decide (redL v = redL u) from rfl)
  obtain ⟨b, hb⟩ : ∃ b, eqG v u = b := ⟨_, rfl⟩
  rw [hb] at HE ⊢
  clear hr1 hr2 h h2 hb
  go_enter Try.func34, Try.ntmps34
  go_wp2_with (go_at_call 40; first | (with_reducible refine H1.out.mono ?_; rintro e w' ⟨rfl, rfl⟩) | (with_reducible refine H2.out.mono ?_; rintro e w' ⟨rfl, rfl⟩))
  refine (l09Reduce_c 0 w.heap.size a1 c1 v (by omega) HK1.out.bd w HK1.out.row (Nat.le_refl _)).mono ?_
  rintro e w3 ⟨a3, c3, rfl, hb3, hN3⟩
  have hz3 := hb3.size
  have HB3 := Lib.hid hb3
  have HN3 := Lib.hid hN3
  have HK2' := Lib.hid (HK2.out.below hb3)
  clear hb3 hN3
  go_wp2_with fail
  refine (l09Reduce_c 0 w3.heap.size a2 c2 u (by omega) HK2'.out.bd w3 HK2'.out.row (Nat.le_refl _)).mono ?_
  rintro e w4 ⟨a4, c4, rfl, hb4, hN4⟩
  have hz4 := hb4.size
  have HB4 := Lib.hid (HB3.out.trans (hb4.mono hz3))
  have HN4 := Lib.hid hN4.row
  have HN34 := Lib.hid (HN3.out.below hb4 (Nat.le_refl _)).row
  clear hb4 hN4
  obtain ⟨x, hx⟩ : ∃ x, redL v = x := ⟨_, rfl⟩
  obtain ⟨y, hy⟩ : ∃ y, redL u = y := ⟨_, rfl⟩
  rw [hx] at HE HL1 HN3 HN34
  rw [hy] at HE HL2 HN4
  have hxl := HL1.out
  have hyl := HL2.out
  simp only [hx, hy]
  clear hx hy HL1 HL2 HN3
  by_cases hlen : x.length = y.length
  · have hle : decide ((x.length : Int) = (y.length : Int)) = true := by rw [hlen]; simp
    have HLn := Lib.hid hlen
    rw [← hlen]
    clear hle hlen
    go_wp2
    go_loopw [10, 11] (fun vs vi wr => ∃ (k : Nat) (s : Bool), Below w4.heap.size w4 wr ∧ k ≤ x.length ∧ vi = .int .i64 k ∧ vs = .bool s ∧ Hid (s = true → ∀ i (h1 : i < x.length) (h2 : i < y.length), i < k → x[i] = y[i]) ∧ Hid (s = false → x ≠ y)) (fun _ vi _ => x.length - (intOf vi).toNat)
    case atStart => exact ⟨0, true, Below.refl _ _, Nat.zero_le _, rfl, by simp, Lib.hid (fun _ i _ _ h => absurd h (Nat.not_lt_zero _)), Lib.hid (fun h => by cases h)⟩
    case round =>
      obtain ⟨k, s, hBr, hk, rfl, rfl, hY, hN⟩ := hrel
      have HBr := Lib.hid hBr
      have HB4r := Lib.hid (HB4.out.trans (hBr.mono (Nat.le_trans hz3 hz4)))
      cases s with
      | false =>
        have HF := Lib.hid (show b = false from by rw [HE.out]; exact decide_eq_false (hN.out rfl))
        by_cases hlt : k < x.length
        · go_wp2
          go_ret2
          exact ⟨by first | (rw [HF.out]; done) | (rw [HF.out]; rfl), HB4r.out⟩
        · go_wp2
          go_ret2
          exact ⟨by first | (rw [HF.out]; done) | (rw [HF.out]; rfl), HB4r.out⟩
      | true =>
        by_cases hlt : k < x.length
        · have hlt2 : k < y.length := by have := HLn.out; omega
          rcases HN34.out with h | ⟨b1, o1, rfl, _, _, hI1⟩
          · rw [h] at hlt; simp at hlt
          rcases HN4.out with h | ⟨b2, o2, rfl, _, _, hI2⟩
          · rw [h] at hlt2; simp at hlt2
          have m1 := (hI1.below hBr (by omega)) k hlt
          have m2 := (hI2.below hBr (by omega)) k hlt2
          have HNe := Lib.hid (fun (hne : x[k] ≠ y[k]) (e : x = y) => hne (by subst e; rfl))
          have HYe := Lib.hid (fun (he : x[k] = y[k]) i (h1 : i < x.length) (h2 : i < y.length) (hik : i < k + 1) => show x[i] = y[i] from by
            by_cases e : i < k
            · exact hY.out rfl i h1 h2 e
            · obtain rfl : i = k := by omega
              exact he)
          obtain ⟨p, hp⟩ : ∃ p, x[k] = p := ⟨_, rfl⟩
          obtain ⟨q, hq⟩ : ∃ q, y[k] = q := ⟨_, rfl⟩
          rw [hp] at m1 HNe HYe
          rw [hq] at m2 HNe HYe
          have f0 : (0 : Int) ≤ (k : Int) := by omega
          have f1 : (k : Int) < (x.length : Int) := by omega
          clear hp hq hI1 hI2 hBr
          by_cases hpq : p = q
          · subst hpq
            have HG := Lib.hid (HYe.out rfl)
            go_wp2
            go_quiet (fail)
            go_wp2
            go_roundw
            case rel => exact ⟨k + 1, true, below_drewN HBr.out _, by omega, by go_num, by simp, Lib.hid (fun _ => HG.out), Lib.hid (fun h => by cases h)⟩
            case measure => simp [intOf]; omega
          · have HG := Lib.hid (HNe.out hpq)
            go_wp2
            go_quiet (fail)
            go_wp2
            go_roundw
            case rel => exact ⟨k + 1, false, below_drewN HBr.out _, by omega, by go_num, by simp [hpq], Lib.hid (fun h => by cases h), Lib.hid (fun _ => HG.out)⟩
            case measure => simp [intOf]; omega
        · have HF := Lib.hid (show b = true from by rw [HE.out]; exact decide_eq_true (eqTo_all HLn.out (fun i h1 h2 => hY.out rfl i h1 h2 (by omega))))
          go_wp2
          go_ret2
          exact ⟨by first | (rw [HF.out]; done) | (rw [HF.out]; rfl), HB4r.out⟩
  · have HF := Lib.hid (show b = false from by rw [HE.out]; exact decide_eq_false (fun e => hlen (by rw [e])))
    have hne : ¬ (x.length : Int) = (y.length : Int) := by omega
    have hb0 : ((x.length : Int) == (y.length : Int)) = false := by simpa using hne
    go_wp2
    refine wp_loop_rounds 1 ?_
    rw [rounds_succ]; go_wp2
    all_goals
      go_ret2
      exact ⟨by first | (rw [HF.out]; done) | (rw [HF.out]; rfl), HB4.out⟩
end Go.Proofs.Ytnhiceopgjfaaaa
