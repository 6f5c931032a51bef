/-
  Coordinates: lists of terms of Lyndon words. What the model and the program ask of them.
-/
import Derived.Test.YtgcjpenlcokgjaaGreatDoorImpIs
import Derived.Test.YtgcjpenlcokgjaaGreatDoorLyn
import Derived.Test.YtgcjpenlcokgjaaGreatDoorTol
import Derived.Test.YtgcjpenlcokgjaaGreatDoorLy6
import Derived.Test.YtgcjpenlcokgjaaGreatDoorLv2
namespace Go.Proofs.YtgcjpenlcokgjaaGreatDoor
open Go.RowKit

def lynAll (ts : List Tm) : Bool := ts.all fun t => lynB t.s
def givB (L V : Int) (ts : List Tm) : Bool := serB L V ts && lynAll ts
theorem giv_ser {L V : Int} {ts : List Tm} (h : serB L V ts = false) : givB L V ts = false := by simp [givB, h]
theorem giv_lyn {L V : Int} {ts : List Tm} (k : Nat) (hk : k < ts.length) (h : lynB (ts[k]).s = false) : givB L V ts = false := by
  have : lynAll ts = false := by
    unfold lynAll
    rw [List.all_eq_false]
    exact ⟨_, List.getElem_mem hk, by rw [h]; simp⟩
  simp [givB, this]
theorem giv_all {L V : Int} {ts : List Tm} (h : serB L V ts = true) (h2 : ∀ k (hk : k < ts.length), lynB (ts[k]).s = true) : givB L V ts = true := by
  have : lynAll ts = true := by
    unfold lynAll
    rw [List.all_eq_true]
    intro t ht
    obtain ⟨k, hk, rfl⟩ := List.getElem_of_mem ht
    exact h2 k hk
  simp [givB, h, this]
theorem giv_true {L V : Int} {ts : List Tm} (h : givB L V ts = true) : serB L V ts = true ∧ ∀ t ∈ ts, lynB t.s = true := by
  unfold givB lynAll at h
  rw [Bool.and_eq_true, List.all_eq_true] at h
  exact h

set_option maxRecDepth 100000 in
set_option maxHeartbeats 4000000 in
theorem l06Given_c (L V : Int) (b off cap : Nat) (ts : List Tm) (hl : ts.length ≤ 1048576) (hs : ∀ i (h : i < ts.length), (ts[i]).s.size ≤ maxLen) (w : World) (hb : b < w.heap.size) (ht : TermsIn w b off ts) :
    Calls Tryz.prog 33 #[.int .i64 L, .int .i64 V, .slice (some ⟨b, off, none⟩) ts.length cap] w fun e w' => e = .returned (.bool (givB L V ts)) ∧ Below w.heap.size w w' := by
  have HT := Lib.hid ht
  have HS := Lib.hid hs
  clear ht hs
  cases hsh : shapeB L V with
  | false =>
    have HR := Lib.hid (giv_ser (serB_shape (ts := ts) hsh))
    go_enter Tryz.func33, Tryz.ntmps33
    go_wp2_with (go_at_call 60; refine (l02Level_c _ _ _).mono ?_; rw [hsh]; rintro e w' ⟨rfl, rfl⟩)
    go_ret
    exact ⟨ret_bool HR.out.symm, Below.refl _ _⟩
  | true =>
    have HSH := Lib.hid hsh
    go_enter Tryz.func33, Tryz.ntmps33
    go_wp2_with (go_at_call 60; refine (l02Level_c _ _ _).mono ?_; rw [hsh]; rintro e w' ⟨rfl, rfl⟩)
    clear hsh
    go_loopw [7] (fun vi wr => ∃ k : Nat, k ≤ ts.length ∧ vi = .int .i64 k ∧ (∀ j, j < k → goodAt L V ts j = true) ∧ (∀ j (hj : j < ts.length), j < k → lynB (ts[j]).s = true) ∧ Below w.heap.size w wr) (fun i _ => ts.length - (intOf i).toNat)
    case atStart => exact ⟨0, Nat.zero_le _, rfl, fun j hj => by omega, fun j _ hj => by omega, Below.refl _ _⟩
    case round =>
      obtain ⟨k, hk, rfl, hg, hy, hB⟩ := hrel
      have HG := Lib.hid hg
      have HY := Lib.hid hy
      clear hg hy
      have hzb : b < wr.heap.size := Nat.lt_of_lt_of_le hb hB.size
      have HTr := Lib.hid (HT.out.below hB hb)
      have HB := Lib.hid hB
      clear hB
      by_cases hlt : k < ts.length
      · obtain ⟨c0, c1, c2⟩ := HTr.out k hlt
        have hsz := HS.out k hlt
        have HLk := Lib.hid (giv_lyn (L := L) (V := V) k hlt)
        have HYk := Lib.hid (show lynB (ts[k]).s = true → ∀ j (hj : j < ts.length), j < k + 1 → lynB (ts[j]).s = true from fun h j hj hjk => by
          by_cases e : j < k
          · exact HY.out j hj e
          · obtain rfl : j = k := by omega
            exact h)
        obtain ⟨t, het⟩ : ∃ t, ts[k] = t := ⟨_, rfl⟩
        have HE := Lib.hid (get_some hlt het)
        rw [het] at c0 c1 c2 hsz HLk HYk
        clear het
        obtain ⟨s, n, d⟩ := t
        simp only at c0 c1 c2 hsz HLk HYk
        cases h2 : wordB L s.data.toList with
        | false =>
          have HF := Lib.hid (giv_ser (serB_bad k hlt (goodAt_term HE.out (term_word (V := V) (t := ⟨s, n, d⟩) h2))))
          go_wp2_with (go_at_call 61; refine (l01Word_c _ _ hsz _).mono ?_; rw [h2]; rintro e w' ⟨rfl, rfl⟩)
          go_ret
          exact ⟨ret_bool HF.out.symm, HB.out⟩
        | true =>
          by_cases h1 : V < (s.size : Int)
          · have HF := Lib.hid (giv_ser (serB_bad k hlt (goodAt_term HE.out (term_size (L := L) (t := ⟨s, n, d⟩) h1))))
            go_wp2_with (go_at_call 61; refine (l01Word_c _ _ hsz _).mono ?_; rw [h2]; rintro e w' ⟨rfl, rfl⟩)
            go_ret
            exact ⟨ret_bool HF.out.symm, HB.out⟩
          · cases h5 : lynB s with
            | false =>
              have HF := Lib.hid (HLk.out h5)
              go_wp2_with (first | (go_at_call 61; refine (l01Word_c _ _ hsz _).mono ?_; rw [h2]; rintro e w' ⟨rfl, rfl⟩) | (go_at_call 62; refine (l06Lyndon_c _ hsz _).mono ?_; rw [h5]; rintro e w' ⟨rfl, rfl⟩) | fail)
              go_ret
              exact ⟨ret_bool HF.out.symm, HB.out⟩
            | true =>
              have HYs := Lib.hid (HYk.out h5)
              cases h3 : isF n d with
              | false =>
                have HF := Lib.hid (giv_ser (serB_bad k hlt (goodAt_term HE.out (term_frac (L := L) (V := V) (t := ⟨s, n, d⟩) h3))))
                go_wp2_with (first | (go_at_call 61; refine (l01Word_c _ _ hsz _).mono ?_; rw [h2]; rintro e w' ⟨rfl, rfl⟩) | (go_at_call 62; refine (l06Lyndon_c _ hsz _).mono ?_; rw [h5]; rintro e w' ⟨rfl, rfl⟩) | fail)
                refine (l01IsFrac_c _ _ _).mono ?_
                rw [h3]
                rintro e w1 ⟨rfl, hb1⟩
                have HW1 := Lib.hid (HB.out.trans (hb1.mono HB.out.size))
                clear hb1
                go_wp2
                go_ret
                exact ⟨ret_bool HF.out.symm, HW1.out⟩
              | true =>
                have HT4 := Lib.hid (fun hn => term_good (L := L) (V := V) (t := ⟨s, n, d⟩) (Int.not_lt.1 h1) h2 h3 hn)
                go_wp2_with (first | (go_at_call 61; refine (l01Word_c _ _ hsz _).mono ?_; rw [h2]; rintro e w' ⟨rfl, rfl⟩) | (go_at_call 62; refine (l06Lyndon_c _ hsz _).mono ?_; rw [h5]; rintro e w' ⟨rfl, rfl⟩) | fail)
                refine (l01IsFrac_c _ _ _).mono ?_
                rw [h3]
                rintro e w1 ⟨rfl, hb1⟩
                have hz1 := hb1.size
                have d1 := (hb1.cell (p := ⟨b, off + k * 3 + 1, none⟩) (by show b < _; omega)).trans c1
                have d2 := (hb1.cell (p := ⟨b, off + k * 3 + 2, none⟩) (by show b < _; omega)).trans c2
                have HB1 := Lib.hid (HB.out.trans (hb1.mono HB.out.size))
                clear hb1 c1 c2
                go_wp2_with fail
                refine (l01Zero_c _ _ _).mono ?_
                rintro e w2 ⟨rfl, hb2⟩
                have hz2 := hb2.size
                have HB2 := Lib.hid (HB1.out.trans (hb2.mono HB1.out.size))
                clear hb2 d1 d2
                cases h4 : (n == 0) with
                | true =>
                  have HF := Lib.hid (giv_ser (serB_bad k hlt (goodAt_term HE.out (term_zero (L := L) (V := V) (t := ⟨s, n, d⟩) h4))))
                  go_wp2
                  go_ret
                  exact ⟨ret_bool HF.out.symm, HB2.out⟩
                | false =>
                  have HG4 := Lib.hid (HT4.out h4)
                  have HT2 := Lib.hid (HT.out.below HB2.out hb)
                  clear c0
                  rcases Nat.eq_zero_or_pos k with hk0 | hk0
                  · have hd : decide (0 < k) = false := by simp [hk0]
                    have HK := Lib.hid hk0
                    clear hk0
                    go_wp2
                    go_roundw
                    case rel =>
                      refine ⟨k + 1, by omega, by go_num, fun j hj => ?_, HYs.out, HB2.out⟩
                      by_cases hjk : j < k
                      · exact HG.out j hjk
                      · obtain rfl : j = 0 := by have := HK.out; omega
                        have e := HK.out
                        exact goodAt_zero (by have := HE.out; rwa [e] at this) HG4.out
                    case measure => simp [intOf]; omega
                  · have hd : decide (0 < k) = true := by simp [hk0]
                    have hsub : IntKind.i64.wrap ((k : Int) - 1) = ((k - 1 : Nat) : Int) := by rw [IntWalk.i64_in _ (by omega)]; omega
                    obtain ⟨p, hep⟩ : ∃ p, ts[k - 1] = p := ⟨_, rfl⟩
                    have HP := Lib.hid (get_some (by omega) hep)
                    have P0 := (HT2.out (k - 1) (by omega)).1
                    have hps := HS.out (k - 1) (by omega)
                    rw [hep] at P0 hps
                    clear hep
                    have hlt2 : k - 1 < ts.length := by omega
                    have HK := Lib.hid (goodAt_succ (L := L) (V := V) (ts := ts) (j := k - 1) (t := ⟨s, n, d⟩) (p := p) (by rw [Nat.sub_add_cancel hk0]; exact HE.out) HP.out HG4.out)
                    cases hles : lessL p.s.data.toList s.data.toList with
                    | false =>
                      rw [hles, Nat.sub_add_cancel hk0] at HK
                      have HF := Lib.hid (giv_ser (serB_bad k hlt HK.out))
                      clear HK
                      go_wp2_with (go_at_call 65; refine (l01Before_c _ _ _).mono ?_; rw [hles]; rintro e w' ⟨rfl, rfl⟩)
                      go_ret
                      exact ⟨ret_bool HF.out.symm, HB2.out⟩
                    | true =>
                      rw [hles, Nat.sub_add_cancel hk0] at HK
                      have HK2 := Lib.hid HK.out
                      clear HK
                      go_wp2_with (go_at_call 65; refine (l01Before_c _ _ _).mono ?_; rw [hles]; rintro e w' ⟨rfl, rfl⟩)
                      go_roundw
                      case rel =>
                        refine ⟨k + 1, by omega, by go_num, fun j hj => ?_, HYs.out, HB2.out⟩
                        by_cases hjk : j < k
                        · exact HG.out j hjk
                        · obtain rfl : j = k := by omega
                          exact HK2.out
                      case measure => simp [intOf]; omega
      · have HF := Lib.hid (giv_all (serB_good (L := L) (V := V) (ts := ts) HSH.out (fun j hj => HG.out j (by omega))) (fun j hj => HY.out j hj (by omega)))
        go_wp2
        go_ret
        exact ⟨ret_bool HF.out.symm, HB.out⟩

set_option maxRecDepth 100000 in
set_option maxHeartbeats 4000000 in
theorem areCoordinates_c (L V : Int) (b off cap : Nat) (ts : List Tm) (hl : ts.length ≤ 1048576) (hs : ∀ i (h : i < ts.length), (ts[i]).s.size ≤ maxLen) (w : World) (hb : b < w.heap.size) (ht : TermsIn w b off ts) :
    Calls Tryz.prog 36 #[.int .i64 L, .int .i64 V, .slice (some ⟨b, off, none⟩) ts.length cap] w fun e w' => e = .returned (.bool (givB L V ts)) ∧ Below w.heap.size w w' := by
  have HT := Lib.hid ht
  have HS := Lib.hid hs
  have HIs := Lib.hid (iIsSeries_c L V b off cap ts hl hs w hb ht)
  clear ht hs
  cases hsr : serB L V ts with
  | false =>
    have HR := Lib.hid (giv_ser hsr)
    rw [hsr] at HIs
    clear hsr
    go_enter Tryz.func36, Tryz.ntmps36
    go_wp2_with fail
    refine HIs.out.mono ?_
    rintro e w1 ⟨rfl, hb1⟩
    have HB1 := Lib.hid hb1
    clear hb1
    go_wp2
    go_ret
    exact ⟨ret_bool HR.out.symm, HB1.out⟩
  | true =>
    rw [hsr] at HIs
    have HSr := Lib.hid hsr
    clear hsr
    go_enter Tryz.func36, Tryz.ntmps36
    go_wp2_with fail
    refine HIs.out.mono ?_
    rintro e w1 ⟨rfl, hb1⟩
    have HB1 := Lib.hid hb1
    clear hb1
    go_wp2_with fail
    go_loopw [17] (fun vi wr => ∃ k : Nat, k ≤ ts.length ∧ vi = .int .i64 k ∧ (∀ j (hj : j < ts.length), j < k → lynB (ts[j]).s = true) ∧ Below w.heap.size w wr) (fun i _ => ts.length - (intOf i).toNat)
    case atStart => exact ⟨0, Nat.zero_le _, rfl, fun j _ hj => by omega, HB1.out⟩
    case round =>
      obtain ⟨k, hk, rfl, hy, hB⟩ := hrel
      have HY := Lib.hid hy
      have hzb : b < wr.heap.size := Nat.lt_of_lt_of_le hb hB.size
      have HTr := Lib.hid (HT.out.below hB hb)
      have HB := Lib.hid hB
      have hzw := hB.size
      clear hB hy
      by_cases hlt : k < ts.length
      · obtain ⟨c0, c1, c2⟩ := HTr.out k hlt
        have hsz := HS.out k hlt
        have HLk := Lib.hid (giv_lyn (L := L) (V := V) k hlt)
        have HYk := Lib.hid (show lynB (ts[k]).s = true → ∀ j (hj : j < ts.length), j < k + 1 → lynB (ts[j]).s = true from fun h j hj hjk => by
          by_cases e : j < k
          · exact HY.out j hj e
          · obtain rfl : j = k := by omega
            exact h)
        obtain ⟨t, het⟩ : ∃ t, ts[k] = t := ⟨_, rfl⟩
        rw [het] at c0 c1 c2 hsz HLk HYk
        clear het
        obtain ⟨s, n, d⟩ := t
        simp only at c0 c1 c2 hsz HLk HYk
        cases h5 : lynB s with
        | false =>
          have HF := Lib.hid (HLk.out h5)
          go_wp2_with (go_at_call 70; refine (isLyndon_c _ hsz _).mono ?_; rw [h5]; rintro e w' ⟨rfl, rfl⟩)
          go_ret
          exact ⟨ret_bool HF.out.symm, HB.out.alloc hzw _⟩
        | true =>
          have HYs := Lib.hid (HYk.out h5)
          go_wp2_with (go_at_call 70; refine (isLyndon_c _ hsz _).mono ?_; rw [h5]; rintro e w' ⟨rfl, rfl⟩)
          go_roundw
          case rel => exact ⟨k + 1, hlt, by go_num, HYs.out, HB.out.alloc hzw _⟩
          case measure => simp [intOf]; omega
      · have HF := Lib.hid (giv_all HSr.out (fun j hj => HY.out j hj (by omega)))
        go_wp2
        go_ret
        exact ⟨ret_bool HF.out.symm, HB.out⟩
end Go.Proofs.YtgcjpenlcokgjaaGreatDoor
