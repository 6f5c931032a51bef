/-
  The model's sum of two series: the terms of the second are put into the first one by one.
-/
import Derived.Test.YtaalpchdahmgaaaPutL
namespace Go.Proofs.Ytaalpchdahmgaaa
open Go.RowKit

theorem putAll_snoc : ∀ (ts ys : List Tm) (u : Tm), putAll ts (ys ++ [u]) = (putAll ts ys).bind fun r => putL r u
  | ts, [], u => by simp [putAll]
  | ts, y :: ys, u => by
    simp only [List.cons_append, putAll]
    cases putL ts y with
    | none => rfl
    | some r => simpa using putAll_snoc r ys u
theorem putAll_append : ∀ (ts ys zs : List Tm), putAll ts (ys ++ zs) = (putAll ts ys).bind fun r => putAll r zs
  | ts, [], zs => by simp [putAll]
  | ts, y :: ys, zs => by
    simp only [List.cons_append, putAll]
    cases putL ts y with
    | none => rfl
    | some r => simpa using putAll_append r ys zs
theorem putAll_take {ts ys : List Tm} {k : Nat} (hk : k < ys.length) : putAll ts (ys.take (k + 1)) = (putAll ts (ys.take k)).bind fun r => putL r ys[k] := by
  rw [List.take_succ_eq_append_getElem hk, putAll_snoc]
theorem putAll_dead {ts ys : List Tm} (k : Nat) (h : putAll ts (ys.take k) = none) : putAll ts ys = none := by
  have e : ys = ys.take k ++ ys.drop k := (List.take_append_drop k ys).symm
  rw [e, putAll_append, h]; rfl

def bdT (t : Tm) : Prop := t.n.natAbs ≤ 1000000000 ∧ t.d.natAbs ≤ 1000000000
theorem f_bd (n d : Int) : (fN n d).natAbs ≤ 1000000000 ∧ (fD n d).natAbs ≤ 1000000000 := by
  cases h : fOk n d with
  | false => have e := low_no h; rw [e.1, e.2.1]; decide
  | true =>
    have e := low_yes h
    rw [e.1, e.2.1]
    have h2 : lowOk n d = true := by unfold fOk at h; rw [Bool.and_eq_true] at h; exact h.2
    have := isF_abs (show isF (lowN n d) (lowD n d) = true from h2)
    exact ⟨this.1, this.2.1⟩
theorem conT_bd {u : Tm} {r : List Tm} (hu : bdT u) (hr : ∀ t ∈ r, bdT t) : ∀ t ∈ conT u r, bdT t := by
  unfold conT
  split
  · exact hr
  · intro t ht
    rcases List.mem_cons.1 ht with rfl | ht
    · exact hu
    · exact hr t ht
theorem putL_bd : ∀ {ts r : List Tm} {u : Tm}, bdT u → (∀ t ∈ ts, bdT t) → putL ts u = some r → ∀ t ∈ r, bdT t
  | [], r, u, hu, _, h => by
    simp only [putL, putHere, Option.some.injEq] at h
    subst h
    exact conT_bd hu (fun t ht => by cases ht)
  | t :: ts, r, u, hu, hts, h => by
    have h1 := hts t (by simp)
    have h2 : ∀ t ∈ ts, bdT t := fun t' ht => hts t' (by simp [ht])
    simp only [putL] at h
    split at h
    · obtain ⟨r', e, rfl⟩ := Option.map_eq_some_iff.1 h
      intro t' ht'
      rcases List.mem_cons.1 ht' with rfl | ht'
      · exact h1
      · exact putL_bd hu h2 e t' ht'
    · simp only [putHere] at h
      split at h
      · split at h
        · simp only [Option.some.injEq] at h
          subst h
          exact conT_bd (f_bd _ _) h2
        · cases h
      · simp only [Option.some.injEq] at h
        subst h
        exact conT_bd hu hts

def SumPost (L V : Int) (r : Option (List Tm)) (W : World) (e : Ending) (w' : World) : Prop :=
  match r with
  | none => e = .returned (.tuple #[.agg #[.int .i64 0, .int .i64 0, .slice none 0 0], .bool false]) ∧ Below W.heap.size W w'
  | some ts' => ∃ (a : Option Addr) (cap : Nat), e = .returned (.tuple #[.agg #[.int .i64 L, .int .i64 V, .slice a ts'.length cap], .bool true]) ∧ Below W.heap.size W w' ∧ NewRow W.heap.size w'.heap.size w' a ts'
def SumRel (ts ys : List Tm) (B n : Nat) (x y : Value) (W : World) (vi : Value) (wr : World) : Prop :=
  ∃ (k : Nat) (a : Option Addr) (l c : Nat) (xs : List Tm), k ≤ ys.length ∧ vi = .int .i64 k ∧ putAll ts (ys.take k) = some xs ∧ l = xs.length ∧ l ≤ c ∧ NewRow B wr.heap.size wr a xs ∧ Blk wr n 28 #[x, y, .slice a l c] ∧ Below B W wr ∧ (∀ t ∈ xs, bdT t)

theorem NewRow.far1s {lo hi n i : Nat} {w : World} {a : Option Addr} {ts : List Tm} {x : Value} (h : NewRow lo hi w a ts) (hn : n < lo) : NewRow lo hi (w.setCell ⟨n, i, none⟩ x) a ts := by
  rcases h with h | ⟨g, e, h1, h2, h3, h4⟩
  · exact .inl h
  · exact .inr ⟨g, e, h1, h2, h3.set _ _, h4.setCell (by show n ≠ g; omega) _⟩

set_option maxRecDepth 100000 in
set_option maxHeartbeats 8000000 in
theorem l01Sum_c (L V L2 V2 : Int) (b1 o1 c1 b2 o2 c2 : Nat) (ts ys : List Tm) (hl1 : ts.length ≤ 1048576) (hl2 : ys.length ≤ 1048576) (hs : ∀ i (h : i < ys.length), (ys[i]).s.size ≤ maxLen) (bd1 : ∀ t ∈ ts, bdT t) (bd2 : ∀ t ∈ ys, bdT t) (w : World) (h1 : b1 < w.heap.size) (h2 : b2 < w.heap.size) (t1 : TermsIn w b1 o1 ts) (t2 : TermsIn w b2 o2 ys) :
    Calls Try.prog 33 #[.agg #[.int .i64 L, .int .i64 V, .slice (some ⟨b1, o1, none⟩) ts.length c1], .agg #[.int .i64 L2, .int .i64 V2, .slice (some ⟨b2, o2, none⟩) ys.length c2]] w (SumPost L V (putAll ts ys) w) := by
  have HT1 := Lib.hid t1
  have HT2 := Lib.hid t2
  have HS := Lib.hid hs
  have HD1 := Lib.hid bd1
  have HD2 := Lib.hid bd2
  clear t1 t2 hs bd1 bd2
  go_enter Try.func33, Try.ntmps33
  go_wp2_with fail
  refine (l01Empty_c L V _ rfl _).mono ?_
  rintro e w1 ⟨g1, rfl, hO, hb1⟩
  have hz1 : w.heap.size + 1 + 1 < w1.heap.size := by have := hb1.size; simp at this; omega
  have HO := Lib.hid (show OwnT w1 (w.heap.size + 1 + 1 + 1) (.slice (some ⟨g1, 0, none⟩) 0 0) [] from by simpa using hO)
  have HB := Lib.hid (show Below (w.heap.size + 1 + 1 + 1) _ w1 from by simpa using hb1)
  have hz1' : w.heap.size + 1 + 1 + 1 ≤ w1.heap.size := by omega
  have hz0 : w.heap.size < w1.heap.size := by omega
  obtain ⟨hc, hf⟩ := bcellB HB.out
  have x2 : w1.cell? ⟨w.heap.size, 2, none⟩ = some (.slice (some ⟨b1, o1, none⟩) ts.length c1) := (hc _ _ (by omega)).trans (by go_simp)
  clear hb1 hO hc hf
  go_wp2_with (at_builtin; go_loud (refine wpList_append_terms rfl _ _ rfl (w.heap.size + 1 + 1 + 1) (.slice (some ⟨g1, 0, none⟩) 0 0) 0 [] ts rfl rfl (HO.out.alloc _) _ ts.length _ rfl rfl (.inr ⟨b1, o1, rfl, (HT1.out.below ((below3 w _ _ _).trans (HB.out.mono (by omega))) h1).below (below1 w1 _) (by omega)⟩) (by omega) (by simp; omega) ?_))
  intro a3 q3 w3 hO3 hG3 hloc3
  have HB3 := Lib.hid ((HB.out.alloc (by omega) _).trans (own_grown (HO.out.alloc _) hG3 (by simp; omega)))
  have HO3 := Lib.hid hO3
  have hne3 : (Value.slice (some ⟨g1, 0, none⟩) 0 0).ownBlock ≠ some w1.heap.size := fun e => by have := (HO.out.lt _ e).2; omega
  have HBl := Lib.hid ((Blk.new w1 28 #[.int .i64 L, .int .i64 V, .slice (some ⟨g1, 0, none⟩) 0 0]).grown hG3 (Ne.symm hne3))
  have hz3 : w1.heap.size + 1 ≤ w3.heap.size := by have := hG3.size; simpa using this
  have n2 : w3.cell? ⟨w1.heap.size, 2, none⟩ = some (.slice (some ⟨g1, 0, none⟩) 0 0) := HBl.out.cell 2
  have nf : w3.frozen? ⟨w1.heap.size, 2, none⟩ = false := HBl.out.frozen 2
  have HNe : Hid ((Value.slice a3 ts.length q3).ownBlock ≠ some w1.heap.size) := Lib.hid (fun e => by
    rcases hloc3 with h | h
    · rw [h] at e; exact hne3 e
    · rw [h] at e; simp at e)
  clear hO3 hG3 hloc3 hne3 x2
  go_wp2_with fail
  go_loopw [7] (SumRel ts ys (w.heap.size + 1 + 1 + 1) w1.heap.size (.int .i64 L) (.int .i64 V) (((w.alloc (.cells #[.int .i64 L, .int .i64 V, .slice (some ⟨b1, o1, none⟩) ts.length c1] 28)).alloc (.cells #[.int .i64 L2, .int .i64 V2, .slice (some ⟨b2, o2, none⟩) ys.length c2] 28)).alloc (.cells #[.int .i64 0, .int .i64 0, .slice none 0 0] 28))) (fun vi _ => ys.length - (intOf vi).toNat)
  case atStart =>
    have hO4 := HO3.out.far (p := ⟨w1.heap.size, 2, none⟩) HNe.out (.slice a3 ts.length q3)
    obtain ⟨a', c', he, hle, hN⟩ := hO4.newRow
    injection he with e1 e2 e3
    subst e1 e3
    exact ⟨0, a3, ts.length, q3, ts, Nat.zero_le _, rfl, rfl, rfl, hle, hN, HBl.out.set_ 2 _, HB3.out.setCell (p := ⟨w1.heap.size, 2, none⟩) (by show _ ≤ w1.heap.size; omega) _, HD1.out⟩
  case round =>
    clear n2 nf
    obtain ⟨k, av, lv, cv, xs, hk, rfl, hpa, hlv, hlc, hN, hBl, hB, hbd⟩ := hrel
    have HPA := Lib.hid hpa
    have HLv := Lib.hid hlv
    have HN := Lib.hid hN
    have HBk := Lib.hid hBl
    have HB4 := Lib.hid hB
    have HBd := Lib.hid hbd
    have hzn := hBl.lt
    have hzr := hB.size
    simp only [World.size_alloc] at hzr
    have hz00 : w.heap.size < wr.heap.size := by omega
    have hz01 : w.heap.size + 1 < wr.heap.size := by omega
    have n2 : wr.cell? ⟨w1.heap.size, 2, none⟩ = some (.slice av lv cv) := hBl.cell 2
    have nf : wr.frozen? ⟨w1.heap.size, 2, none⟩ = false := hBl.frozen 2
    have bc := bcellB hB
    have y2 : wr.cell? ⟨w.heap.size + 1, 2, none⟩ = some (.slice (some ⟨b2, o2, none⟩) ys.length c2) := (bc.1 _ _ (by omega)).trans (by go_simp)
    have hlb : lv ≤ 2097152 := by
      have h := putAll_length hpa
      rw [List.length_take] at h
      omega
    clear hpa hlv hN hBl hB hbd bc
    by_cases hlt : k < ys.length
    · have HPT := Lib.hid (putAll_take (ts := ts) hlt)
      have hby := HD2.out _ (List.getElem_mem hlt)
      obtain ⟨c0, c1', c2'⟩ := HT2.out.below ((below3 w _ _ _).trans (HB4.out.mono (by omega))) h2 k hlt
      obtain ⟨s, n, d, het⟩ : ∃ s n d, ys[k] = ⟨s, n, d⟩ := ⟨_, _, _, rfl⟩
      rw [het] at c0 c1' c2' hby HPT
      simp only at c0 c1' c2' hby HPT
      clear het
      have hb1 := hby.1
      have hb2 := hby.2
      clear hby
      have hkI : (0 : Int) ≤ (k : Int) := by omega
      have hkL : (k : Int) < (ys.length : Int) := by omega
      go_upto_region 6 with fail
      have HC := l01Put_c av lv cv xs HLv.out s n d ⟨hb1, hb2⟩ HBd.out hlb hlc wr.drew HN.out.row
      cases hp : putL xs ⟨s, n, d⟩ with
      | none =>
        rw [hp] at HC
        go_cut [8, 9] (fun s8 s9 wy => Below wr.heap.size wr wy ∧ s8 = .slice none 0 0 ∧ s9 = .bool false)
        case first =>
          go_region_held3 (fun w' => w'.cell? ⟨w1.heap.size, 2, none⟩ = some (.slice av lv cv) ∧ w'.cell? ⟨w.heap.size + 1, 2, none⟩ = some (.slice (some ⟨b2, o2, none⟩) ys.length c2) ∧ w'.cell? ⟨b2, o2 + k * 3, none⟩ = some (.string s) ∧ w'.cell? ⟨b2, o2 + k * 3 + 1, none⟩ = some (.int .i64 n) ∧ w'.cell? ⟨b2, o2 + k * 3 + 2, none⟩ = some (.int .i64 d))
            (go_keep)
            ((go_at_call 50; refine HC.mono ?_; rintro e w5 ⟨rfl, hB5⟩; have bc := bcellB hB5; have z1 := (bc.1 _ 2 hzn).trans n2; have z2 := (bc.1 _ 2 hz01).trans y2; have z3 := (bc.1 b2 (o2 + k * 3) (by show _ < wr.heap.size; omega)).trans c0; have z4 := (bc.1 b2 (o2 + k * 3 + 1) (by show _ < wr.heap.size; omega)).trans c1'; have z5 := (bc.1 b2 (o2 + k * 3 + 2) (by show _ < wr.heap.size; omega)).trans c2'))
          all_goals (go_wp2_with fail; go_meet)
          exact ⟨⟨hB5.os, hB5.tape, hB5.output, hB5.size, hB5.block⟩, rfl, rfl⟩
        case rest =>
          obtain ⟨hbc, rfl, rfl⟩ := hcut
          obtain ⟨w6, rfl⟩ : ∃ w6 : World, w6 = wc := ⟨_, rfl⟩
          have hdead : putAll ts ys = none := putAll_dead (k + 1) (by rw [HPT.out, HPA.out]; exact hp)
          have HB6 := Lib.hid ((below3 w _ _ _).trans (HB4.out.mono (by omega)) |>.trans (hbc.mono (by omega)))
          have bc6 := bcellB (HB4.out.trans (hbc.mono (by omega)))
          have e0 : w6.cell? ⟨w.heap.size + 1 + 1, 0, none⟩ = some (.int .i64 0) := (bc6.1 _ _ (by omega)).trans (by go_simp)
          have e1 : w6.cell? ⟨w.heap.size + 1 + 1, 1, none⟩ = some (.int .i64 0) := (bc6.1 _ _ (by omega)).trans (by go_simp)
          have e2 : w6.cell? ⟨w.heap.size + 1 + 1, 2, none⟩ = some (.slice none 0 0) := (bc6.1 _ _ (by omega)).trans (by go_simp)
          have d0 : w6.frozen? ⟨w.heap.size + 1 + 1, 0, none⟩ = false := (bc6.2 _ _ (by omega)).trans (by go_simp)
          have d1 : w6.frozen? ⟨w.heap.size + 1 + 1, 1, none⟩ = false := (bc6.2 _ _ (by omega)).trans (by go_simp)
          have d2 : w6.frozen? ⟨w.heap.size + 1 + 1, 2, none⟩ = false := (bc6.2 _ _ (by omega)).trans (by go_simp)
          clear bc6
          clear hbc
          go_wp2_with fail
          refine bodyPost_ret (v := .tuple #[.agg #[.int .i64 0, .int .i64 0, .slice none 0 0], .bool false]) (by simp [results, Try.results33, go_sem, e0, e1, e2]) rfl ?_
          exact ⟨rfl, ((HB6.out.setCell (p := ⟨w.heap.size + 1 + 1, 0, none⟩) (by show _ ≤ w.heap.size + 1 + 1; omega) _).setCell (p := ⟨w.heap.size + 1 + 1, 1, none⟩) (by show _ ≤ w.heap.size + 1 + 1; omega) _).setCell (p := ⟨w.heap.size + 1 + 1, 2, none⟩) (by show _ ≤ w.heap.size + 1 + 1; omega) _⟩
      | some r =>
        rw [hp] at HC
        go_cut [8, 9] (fun s8 s9 wy => ∃ (a : Option Addr) (cap : Nat), Below wr.heap.size wr wy ∧ s8 = .slice a r.length cap ∧ s9 = .bool true ∧ r.length ≤ cap ∧ NewRow wr.heap.size wy.heap.size wy a r)
        case first =>
          go_region_held3 (fun w' => w'.cell? ⟨w1.heap.size, 2, none⟩ = some (.slice av lv cv) ∧ w'.cell? ⟨w.heap.size + 1, 2, none⟩ = some (.slice (some ⟨b2, o2, none⟩) ys.length c2) ∧ w'.cell? ⟨b2, o2 + k * 3, none⟩ = some (.string s) ∧ w'.cell? ⟨b2, o2 + k * 3 + 1, none⟩ = some (.int .i64 n) ∧ w'.cell? ⟨b2, o2 + k * 3 + 2, none⟩ = some (.int .i64 d))
            (go_keep)
            ((go_at_call 50; refine HC.mono ?_; rintro e w5 ⟨a5, c5, rfl, hlc5, hB5, hN5⟩; have bc := bcellB hB5; have z1 := (bc.1 _ 2 hzn).trans n2; have z2 := (bc.1 _ 2 hz01).trans y2; have z3 := (bc.1 b2 (o2 + k * 3) (by show _ < wr.heap.size; omega)).trans c0; have z4 := (bc.1 b2 (o2 + k * 3 + 1) (by show _ < wr.heap.size; omega)).trans c1'; have z5 := (bc.1 b2 (o2 + k * 3 + 2) (by show _ < wr.heap.size; omega)).trans c2'))
          all_goals (go_wp2_with fail; go_meet)
          exact ⟨a5, c5, ⟨hB5.os, hB5.tape, hB5.output, hB5.size, hB5.block⟩, rfl, rfl, hlc5, hN5⟩
        case rest =>
          obtain ⟨a5, c5, hbc, rfl, rfl, hlc5, hN5⟩ := hcut
          obtain ⟨w6, rfl⟩ : ∃ w6 : World, w6 = wc := ⟨_, rfl⟩
          have hsz := hbc.size
          have bc := bcellB hbc
          have n6 : w6.cell? ⟨w1.heap.size, 2, none⟩ = some (.slice av lv cv) := (bc.1 _ _ hzn).trans n2
          have nf6 : w6.frozen? ⟨w1.heap.size, 2, none⟩ = false := (bc.2 _ _ hzn).trans nf
          clear bc
          go_wp2_with fail
          have hN6 := (hN5.far1s (n := w1.heap.size) (i := 2) (x := .slice a5 r.length c5) hzn).mono (show w.heap.size + 1 + 1 + 1 ≤ _ by omega) (show _ ≤ (w6.setCell ⟨w1.heap.size, 2, none⟩ (.slice a5 r.length c5)).heap.size by simp)
          refine ⟨⟨k + 1, a5, r.length, c5, r, by omega, by first | rfl | simp, by rw [HPT.out, HPA.out]; exact hp, rfl, hlc5, hN6, (HBk.out.below hbc hzn).set_ 2 _, (HB4.out.trans (hbc.mono (by omega))).setCell (p := ⟨w1.heap.size, 2, none⟩) (by show _ ≤ w1.heap.size; omega) _, putL_bd ⟨hb1, hb2⟩ HBd.out hp⟩, ?_⟩
          show ys.length - ((k : Int) + 1).toNat < ys.length - ((k : Int)).toNat
          omega
    · have hge : ¬ (k : Int) < (ys.length : Int) := by omega
      have bc6 := bcellB HB4.out
      have e0 : wr.cell? ⟨w.heap.size + 1 + 1, 0, none⟩ = some (.int .i64 0) := (bc6.1 _ _ (by omega)).trans (by go_simp)
      have e1 : wr.cell? ⟨w.heap.size + 1 + 1, 1, none⟩ = some (.int .i64 0) := (bc6.1 _ _ (by omega)).trans (by go_simp)
      have e2 : wr.cell? ⟨w.heap.size + 1 + 1, 2, none⟩ = some (.slice none 0 0) := (bc6.1 _ _ (by omega)).trans (by go_simp)
      have d0 : wr.frozen? ⟨w.heap.size + 1 + 1, 0, none⟩ = false := (bc6.2 _ _ (by omega)).trans (by go_simp)
      have d1 : wr.frozen? ⟨w.heap.size + 1 + 1, 1, none⟩ = false := (bc6.2 _ _ (by omega)).trans (by go_simp)
      have d2 : wr.frozen? ⟨w.heap.size + 1 + 1, 2, none⟩ = false := (bc6.2 _ _ (by omega)).trans (by go_simp)
      clear bc6
      have m0 : wr.cell? ⟨w1.heap.size, 0, none⟩ = some (.int .i64 L) := HBk.out.cell 0
      have m1 : wr.cell? ⟨w1.heap.size, 1, none⟩ = some (.int .i64 V) := HBk.out.cell 1
      have HB6 := Lib.hid ((below3 w _ _ _).trans (HB4.out.mono (by omega)))
      go_wp2_with fail
      have hpa : putAll ts ys = some xs := by rw [← HPA.out, List.take_of_length_le (by omega)]
      rw [hpa]
      refine bodyPost_ret (v := .tuple #[.agg #[.int .i64 L, .int .i64 V, .slice av xs.length cv], .bool true]) (by rw [← HLv.out]; simp [results, Try.results33, go_sem, e0, e1, e2]) rfl ?_
      exact ⟨av, cv, rfl, ((HB6.out.setCell (p := ⟨w.heap.size + 1 + 1, 0, none⟩) (by show _ ≤ w.heap.size + 1 + 1; omega) _).setCell (p := ⟨w.heap.size + 1 + 1, 1, none⟩) (by show _ ≤ w.heap.size + 1 + 1; omega) _).setCell (p := ⟨w.heap.size + 1 + 1, 2, none⟩) (by show _ ≤ w.heap.size + 1 + 1; omega) _, (((HN.out.far1s (by omega)).far1s (by omega)).far1s (by omega)).mono (by omega) (by simp)⟩
end Go.Proofs.Ytaalpchdahmgaaa
