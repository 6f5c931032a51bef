/-
  Contracts of InverseCoordinates, of the program and of its model: both return the terms with the opposite values.
-/
import Derived.Test.YtjjkkaikinjmdaaGivM
import Derived.Test.YtjjkkaikinjmdaaTmR
import Derived.Test.YtjjkkaikinjmdaaSumL
import Derived.Test.YtjjkkaikinjmdaaNew
namespace Go.Proofs.Ytjjkkaikinjmdaa
open Go.RowKit

def negT (t : Tm) : Tm := ⟨t.s, -t.n, t.d⟩
def negL (ts : List Tm) : List Tm := ts.map negT
theorem negL_length (ts : List Tm) : (negL ts).length = ts.length := by simp [negL]
theorem negL_take {ts : List Tm} {k : Nat} (hk : k < ts.length) : negL (ts.take (k + 1)) = negL (ts.take k) ++ [negT ts[k]] := by
  unfold negL
  rw [List.take_succ_eq_append_getElem hk, List.map_append]
  rfl
/-- the first k are turned -/
def negTo (k : Nat) (ts : List Tm) : List Tm := negL (ts.take k) ++ ts.drop k
theorem negTo_length (k : Nat) (ts : List Tm) : (negTo k ts).length = ts.length := by
  unfold negTo
  rw [List.length_append, negL_length, List.length_take, List.length_drop]
  omega
theorem negTo_get {k : Nat} {ts : List Tm} (i : Nat) (hi : i < ts.length) : (negTo k ts)[i]'(by rw [negTo_length]; exact hi) = if i < k then negT ts[i] else ts[i] := by
  unfold negTo negL
  by_cases h : i < k
  · rw [if_pos h, List.getElem_append_left (by simp; omega)]
    simp
  · have hl : (List.map negT (ts.take k)).length = k := by simp; omega
    rw [if_neg h, List.getElem_append_right (by omega), List.getElem_drop]
    congr 1
    omega
theorem negTo_all (ts : List Tm) : negTo ts.length ts = negL ts := by simp [negTo]
theorem giv_num {L V : Int} {ts : List Tm} (h : givB L V ts = true) (k : Nat) (hk : k < ts.length) : -1000000000 ≤ (ts[k]).n ∧ (ts[k]).n ≤ 1000000000 := by
  have h2 := ser_term (giv_true h).1 _ (List.getElem_mem hk)
  simp only [termB, Bool.and_eq_true, Bool.not_eq_true', beq_eq_false_iff_ne, decide_eq_true_eq] at h2
  have := isF_out h2.2.1
  omega
theorem negTo_next {w : World} {g k : Nat} {ts : List Tm} (hk : k < ts.length) (h : TermsIn w g 0 (negTo k ts)) (hM : Made w g (ts.length * 3)) :
    TermsIn ((w.setCell ⟨g, k * 3 + 1, none⟩ (.int .i64 (-(ts[k]).n))).setCell ⟨g, k * 3 + 2, none⟩ (.int .i64 (ts[k]).d)) g 0 (negTo (k + 1) ts) := by
  intro i hi
  rw [negTo_length] at hi
  have h0 := h i (by rw [negTo_length]; exact hi)
  rw [negTo_get i hi] at h0
  rw [negTo_get i hi]
  obtain ⟨⟨v1, m1⟩, _⟩ := hM.2 (k * 3 + 1) (by omega)
  obtain ⟨⟨v2, m2⟩, _⟩ := hM.2 (k * 3 + 2) (by omega)
  have n12 : (⟨g, k * 3 + 1, none⟩ : Addr) ≠ ⟨g, k * 3 + 2, none⟩ := by simp
  have oth : ∀ j, j ≠ k * 3 + 1 → j ≠ k * 3 + 2 → ((w.setCell ⟨g, k * 3 + 1, none⟩ (.int .i64 (-(ts[k]).n))).setCell ⟨g, k * 3 + 2, none⟩ (.int .i64 (ts[k]).d)).cell? ⟨g, j, none⟩ = w.cell? ⟨g, j, none⟩ := fun j h1 h2 =>
    (World.cell?_setCell_other _ _ _ _ (fun e => h2 (by injection e with _ e2 _; exact e2.symm))).trans (World.cell?_setCell_other _ _ _ _ (fun e => h1 (by injection e with _ e2 _; exact e2.symm)))
  have s1 := (World.cell?_setCell_other (w.setCell ⟨g, k * 3 + 1, none⟩ (.int .i64 (-(ts[k]).n))) ⟨g, k * 3 + 2, none⟩ ⟨g, k * 3 + 1, none⟩ (.int .i64 (ts[k]).d) n12.symm).trans (World.cell?_setCell_same w ⟨g, k * 3 + 1, none⟩ (.int .i64 (-(ts[k]).n)) m1)
  have s2 := World.cell?_setCell_same (w.setCell ⟨g, k * 3 + 1, none⟩ (.int .i64 (-(ts[k]).n))) ⟨g, k * 3 + 2, none⟩ (.int .i64 (ts[k]).d) ((World.cell?_setCell_other w ⟨g, k * 3 + 1, none⟩ ⟨g, k * 3 + 2, none⟩ (.int .i64 (-(ts[k]).n)) n12).trans m2)
  generalize ((w.setCell ⟨g, k * 3 + 1, none⟩ (.int .i64 (-(ts[k]).n))).setCell ⟨g, k * 3 + 2, none⟩ (.int .i64 (ts[k]).d)) = W at oth s1 s2 ⊢
  simp only [Nat.zero_add] at h0 ⊢
  by_cases e : i = k
  · subst e
    rw [if_neg (by omega)] at h0
    rw [if_pos (by omega)]
    exact ⟨(oth _ (by omega) (by omega)).trans h0.1, s1, s2⟩
  · have hh : (if i < k + 1 then negT ts[i] else ts[i]) = (if i < k then negT ts[i] else ts[i]) := by
      by_cases h1 : i < k
      · rw [if_pos h1, if_pos (by omega)]
      · rw [if_neg h1, if_neg (by omega)]
    rw [hh]
    exact ⟨(oth _ (by omega) (by omega)).trans h0.1, (oth _ (by omega) (by omega)).trans h0.2.1, (oth _ (by omega) (by omega)).trans h0.2.2⟩

theorem oppositeW_c (x d : Int) (hneg : IntKind.i64.wrap (-x) = -x) (w : World) :
    Calls Try.prog 37 #[.agg #[.int .i64 x, .int .i64 d]] w fun e w' => e = .returned (.agg #[.int .i64 (-x), .int .i64 d]) ∧ Below w.heap.size w w' := by
  go_enter Try.func37, Try.ntmps37
  go_wp2
  exact bodyPost_ret (v := .agg #[.int .i64 (-x), .int .i64 d]) (by simp [results, Try.results37, go_sem]) rfl ⟨rfl, by go_grown⟩

theorem sInvC_1 (L V : Int) (g : Nat) (ts : List Tm) (hl : ts.length ≤ 1048576) (hs : ∀ i (h : i < ts.length), (ts[i]).s.size ≤ maxLen) (hg : givB L V ts = false) (w : World) (hb : g < w.heap.size) (ht : TermsIn w g 0 ts) :
    Calls Try.prog 8 #[.int .i64 L, .int .i64 V, .slice (some ⟨g, 0, none⟩) ts.length ts.length] w (TermsPost [] 2 w) := by
  have HG := Lib.hid (l06Given_c L V g 0 ts.length ts hl hs w hb ht)
  rw [hg] at HG
  clear ht hs hg
  go_enter Try.func8, Try.ntmps8
  go_wp2_with fail
  refine HG.out.mono ?_
  rintro e w1 ⟨rfl, hb1⟩
  have HB := Lib.hid hb1
  clear hb1
  go_wp2
  go_ret2
  exact TermsPost.err 2 rfl HB.out
theorem iInvC_1 (L V : Int) (g : Nat) (ts : List Tm) (hl : ts.length ≤ 1048576) (hs : ∀ i (h : i < ts.length), (ts[i]).s.size ≤ maxLen) (hg : givB L V ts = false) (w : World) (hb : g < w.heap.size) (ht : TermsIn w g 0 ts) :
    Calls Try.prog 10 #[.int .i64 L, .int .i64 V, .slice (some ⟨g, 0, none⟩) ts.length ts.length] w (TermsPost [] 2 w) := by
  have HG := Lib.hid (areCoordinates_c L V g 0 ts.length ts hl hs w hb ht)
  rw [hg] at HG
  clear ht hs hg
  go_enter Try.func10, Try.ntmps10
  go_wp2_with fail
  refine HG.out.mono ?_
  rintro e w1 ⟨rfl, hb1⟩
  have HB := Lib.hid hb1
  clear hb1
  go_wp2
  go_ret2
  exact TermsPost.err 2 rfl HB.out

set_option maxRecDepth 100000 in
set_option maxHeartbeats 4000000 in
theorem sInvC_2 (L V : Int) (g : Nat) (ts : List Tm) (hl : ts.length ≤ 1048576) (hs : ∀ i (h : i < ts.length), (ts[i]).s.size ≤ maxLen) (hg : givB L V ts = true) (w : World) (hb : g < w.heap.size) (ht : TermsIn w g 0 ts) :
    Calls Try.prog 8 #[.int .i64 L, .int .i64 V, .slice (some ⟨g, 0, none⟩) ts.length ts.length] w (TermsPost (negL ts) 0 w) := by
  have HG := Lib.hid (l06Given_c L V g 0 ts.length ts hl hs w hb ht)
  rw [hg] at HG
  have HN := Lib.hid (fun k hk => giv_num hg k hk)
  have HT := Lib.hid ht
  clear ht hs hg
  go_enter Try.func8, Try.ntmps8
  go_wp2_with fail
  refine HG.out.mono ?_
  rintro e w1 ⟨rfl, hb1⟩
  have hz1 := hb1.size
  have HB1 := Lib.hid hb1
  clear hb1
  go_wp2_with fail
  go_loopw [8, 9] (fun v vi wr => ∃ (k : Nat) (a : Option Addr) (l c : Nat), k ≤ ts.length ∧ vi = .int .i64 k ∧ v = .slice a l c ∧ l = k ∧ OwnT wr w.heap.size (.slice a l c) (negL (ts.take k)) ∧ Below w.heap.size w wr) (fun _ vi _ => ts.length - (intOf vi).toNat)
  case atStart => exact ⟨0, some ⟨w1.heap.size, 0, none⟩, 0, 0, Nat.zero_le _, rfl, rfl, rfl, OwnT.emptyRow (heap_alloc_new w1 _) hz1, HB1.out.alloc hz1 _⟩
  case round =>
    obtain ⟨k, a, l, c, hk, rfl, rfl, hlk, hO, hB⟩ := hrel
    have HO := Lib.hid hO
    have HB := Lib.hid hB
    have HL := Lib.hid hlk
    have hzr := hB.size
    have hgr : g < wr.heap.size := by omega
    have HTr := Lib.hid (HT.out.below hB hb)
    have hlk9 : l ≤ 1048576 := by omega
    clear hO hB hlk
    by_cases hlt : k < ts.length
    · obtain ⟨c0, c1, c2⟩ := HTr.out k hlt
      have hn := HN.out k hlt
      have HTk := Lib.hid (negL_take hlt)
      obtain ⟨t, het⟩ : ∃ t, ts[k] = t := ⟨_, rfl⟩
      rw [het] at c0 c1 c2 hn HTk
      clear het
      obtain ⟨s, n, d⟩ := t
      simp only [Nat.zero_add] at c0 c1 c2 hn
      have hneg : IntKind.i64.wrap (-n) = -n := IntWalk.i64_in _ ⟨by omega, by omega⟩
      have HO2 := Lib.hid ((HO.out.alloc (.cells #[.string s, .int .i64 (-n), .int .i64 d] 64)).alloc (.cells #[.string s, .int .i64 (-n), .int .i64 d] 64))
      have HB2 := Lib.hid ((HB.out.alloc hzr (.cells #[.string s, .int .i64 (-n), .int .i64 d] 64)).alloc (by simp; omega) (.cells #[.string s, .int .i64 (-n), .int .i64 d] 64))
      have ht1 := terms_one (wr.alloc (.cells #[.string s, .int .i64 (-n), .int .i64 d] 64)) ⟨s, -n, d⟩
      simp only [World.size_alloc] at ht1
      have HT1 := Lib.hid ht1
      clear ht1
      go_wp2_with (at_builtin; go_loud (refine wpList_append_terms rfl _ _ rfl w.heap.size (.slice a l c) l (negL (ts.take k)) [⟨s, -n, d⟩] rfl (by rw [negL_length, List.length_take, HL.out]; omega) HO2.out _ 1 1 rfl rfl (.inr ⟨wr.heap.size + 1, 0, rfl, HT1.out⟩) (by omega) (by simp; omega) ?_))
      intro a3 c3 w3 hO3 hG3 _
      have HB3 := Lib.hid (HB2.out.trans (own_grown HO2.out hG3 (by simp; omega)))
      have HO3 := Lib.hid hO3
      clear hO3 hG3 c0 c1 c2
      go_wp2
      go_roundw
      case rel => exact ⟨k + 1, a3, l + 1, c3, hlt, by go_num, rfl, by rw [HL.out], by rw [HTk.out]; exact HO3.out, HB3.out⟩
      case measure => simp [intOf]; omega
    · obtain rfl : k = ts.length := by omega
      have hO := HO.out
      rw [List.take_length] at hO
      have hl2 := HL.out
      subst hl2
      obtain ⟨a', c', he, hle, hNr⟩ := hO.newRow
      rw [negL_length] at he
      injection he with e1 e2 e3
      subst e1 e3
      have HNr := Lib.hid hNr
      have HLn := Lib.hid (negL_length ts)
      clear hO hNr
      go_wp2
      go_ret2
      exact ⟨a, c, by rw [HLn.out]; rfl, HB.out, HNr.out⟩

set_option maxRecDepth 100000 in
set_option maxHeartbeats 4000000 in
theorem iInvC_2 (L V : Int) (g : Nat) (ts : List Tm) (hl : ts.length ≤ 1048576) (hs : ∀ i (h : i < ts.length), (ts[i]).s.size ≤ maxLen) (hg : givB L V ts = true) (w : World) (hb : g < w.heap.size) (ht : TermsIn w g 0 ts) :
    Calls Try.prog 10 #[.int .i64 L, .int .i64 V, .slice (some ⟨g, 0, none⟩) ts.length ts.length] w (TermsPost (negL ts) 0 w) := by
  have HG := Lib.hid (areCoordinates_c L V g 0 ts.length ts hl hs w hb ht)
  rw [hg] at HG
  have HN := Lib.hid (fun k hk => giv_num hg k hk)
  have HSm := Lib.hid (fun i (h : i < ts.length) => show (ts[i]).s.size ≤ 1048576 from by have := ser_small (giv_true hg).1 _ (List.getElem_mem h); omega)
  have HT := Lib.hid ht
  clear ht hs hg
  go_enter Try.func10, Try.ntmps10
  go_wp2_with fail
  refine HG.out.mono ?_
  rintro e w1 ⟨rfl, hb1⟩
  have hz1 := hb1.size
  have HB1 := Lib.hid hb1
  clear hb1
  go_wp2_with fail
  refine (newTerms_c (some ⟨g, 0, none⟩) ts.length ts (by omega) HSm.out _ (.inr ⟨g, 0, rfl, by omega, HT.out.below HB1.out hb⟩)).mono ?_
  rintro e w2 ⟨g2, rfl, hb2, hg2, hM2, hT2⟩
  have hz2 := hb2.size
  have HB2 := Lib.hid (HB1.out.trans (hb2.mono hz1))
  have HM2 := Lib.hid hM2
  have HT2 := Lib.hid hT2
  have hgl := hM2.1
  clear hb2 hM2 hT2
  go_wp2_with fail
  go_loopw [20] (fun vi wr => ∃ (k : Nat), k ≤ ts.length ∧ vi = .int .i64 k ∧ TermsIn wr g2 0 (negTo k ts) ∧ Made wr g2 (ts.length * 3) ∧ Below w.heap.size w wr) (fun vi _ => ts.length - (intOf vi).toNat)
  case atStart => exact ⟨0, Nat.zero_le _, rfl, by simpa [negTo, negL] using HT2.out, HM2.out, HB2.out⟩
  case round =>
    obtain ⟨k, hk, rfl, hT, hM, hB⟩ := hrel
    have HTr := Lib.hid hT
    have HMr := Lib.hid hM
    have HB := Lib.hid hB
    have hzr := hB.size
    have hgr := hM.1
    clear hT hM hB
    by_cases hlt : k < ts.length
    · obtain ⟨c0, c1, c2⟩ := HTr.out k (by rw [negTo_length]; exact hlt)
      rw [negTo_get k hlt, if_neg (by omega)] at c0 c1 c2
      have hn := HN.out k hlt
      obtain ⟨⟨u1, m1⟩, f1⟩ := HMr.out.2 (k * 3 + 1) (by omega)
      obtain ⟨⟨u2, m2⟩, f2⟩ := HMr.out.2 (k * 3 + 2) (by omega)
      have HNx := Lib.hid (fun (W : World) (h : TermsIn W g2 0 (negTo k ts)) (hM : Made W g2 (ts.length * 3)) => negTo_next hlt h hM)
      obtain ⟨t, het⟩ : ∃ t, ts[k] = t := ⟨_, rfl⟩
      rw [het] at c0 c1 c2 hn HNx
      clear het
      obtain ⟨s, n, d⟩ := t
      simp only [Nat.zero_add] at c0 c1 c2 hn HNx
      have hneg : IntKind.i64.wrap (-n) = -n := IntWalk.i64_in _ ⟨by omega, by omega⟩
      clear m1 m2
      go_wp2_with fail
      refine (oppositeW_c n d hneg _).mono ?_
      rintro e w5 ⟨rfl, hb5⟩
      have hb6 := (below1 wr (.cells #[.string s, .int .i64 n, .int .i64 d] 64)).trans (hb5.mono (by simp))
      have hz6 := hb6.size
      have d1 := (hb6.cell (p := ⟨g2, k * 3 + 1, none⟩) hgr).trans c1
      have d2 := (hb6.cell (p := ⟨g2, k * 3 + 2, none⟩) hgr).trans c2
      have z1 := (hb6.frozen (p := ⟨g2, k * 3 + 1, none⟩) hgr).trans f1
      have z2 := (hb6.frozen (p := ⟨g2, k * 3 + 2, none⟩) hgr).trans f2
      have HT6 := Lib.hid (HNx.out _ (HTr.out.below hb6 hgr) (HMr.out.below hb6 hgr))
      have HM6 := Lib.hid (((HMr.out.below hb6 hgr).set ⟨g2, k * 3 + 1, none⟩ (.int .i64 (-n))).set ⟨g2, k * 3 + 2, none⟩ (.int .i64 d))
      have HB6 := Lib.hid (((HB.out.trans (hb6.mono hzr)).setCell (p := ⟨g2, k * 3 + 1, none⟩) (by show _ ≤ g2; omega) (.int .i64 (-n))).setCell (p := ⟨g2, k * 3 + 2, none⟩) (by show _ ≤ g2; omega) (.int .i64 d))
      have hgr5 : g2 < w5.heap.size := by omega
      clear hb5 hb6 c0 c1 c2 f1 f2
      go_wp2
      go_roundw
      case rel => exact ⟨k + 1, hlt, by go_num, HT6.out, HM6.out, HB6.out⟩
      case measure => simp [intOf]; omega
    · obtain rfl : k = ts.length := by omega
      have hT := HTr.out
      rw [negTo_all] at hT
      have HTn := Lib.hid hT
      have HLn := Lib.hid (negL_length ts)
      clear hT
      go_wp2
      go_ret2
      exact ⟨some ⟨g2, 0, none⟩, ts.length, by rw [HLn.out]; rfl, HB.out, .inr ⟨g2, rfl, by omega, hgr, by rw [HLn.out]; exact HMr.out, HTn.out⟩⟩
end Go.Proofs.Ytjjkkaikinjmdaa
