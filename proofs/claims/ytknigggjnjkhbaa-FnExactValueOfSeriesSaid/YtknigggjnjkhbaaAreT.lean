/-
  Contracts of AreTables, of the program and of its model: both return the same bool.
-/
import Derived.Test.YtknigggjnjkhbaaTabM
namespace Go.Proofs.Ytknigggjnjkhbaa
open Go.RowKit

section
variable (lo hi : Nat) (L : Int) (a : Option Addr) (cap : Nat) (ts : Tabs) (hl : ts.length ≤ 1048576) (hs : sz3 ts ≤ 1048576) (w : World) (hr : TRow lo hi w a ts)
include hl hs hr

set_option maxRecDepth 100000 in
set_option maxHeartbeats 4000000 in
theorem l08Are_c : Calls Try.prog 24 #[.int .i64 L, .slice a ts.length cap] w fun e w' => e = .returned (.bool (tabsB L ts)) ∧ w = w' := by
  have HT := Lib.hid hr
  clear hr
  cases hD : inB L 1 3 with
  | false =>
    have HR := Lib.hid (tabsB_1 (ts := ts) hD)
    go_enter Try.func24, Try.ntmps24
    go_wp2_with (go_at_call 51; refine (l01In_c _ _ _ _).mono ?_; rw [hD]; rintro e w' ⟨rfl, rfl⟩)
    go_ret
    exact ⟨retB HR.out.symm, rfl⟩
  | true =>
  by_cases hn : (ts.length : Int) = L
  case neg =>
    have HR := Lib.hid (tabsB_2 hn)
    go_enter Try.func24, Try.ntmps24
    go_wp2_with (go_at_call 51; refine (l01In_c _ _ _ _).mono ?_; rw [hD]; rintro e w' ⟨rfl, rfl⟩)
    go_ret
    exact ⟨retB HR.out.symm, rfl⟩
  case pos =>
  subst hn
  have hpos : 0 < ts.length := by have := inB_true hD; omega
  have HD := Lib.hid hD
  obtain ⟨b0, off0, a0, c0', ea, hc0, hI0⟩ := HT.out.get (Below.refl hi w) (Nat.le_refl _) hpos
  have hw0 : (ts[0]).length = wid ts := by unfold wid; rw [List.getD_eq_getElem?_getD, List.getElem?_eq_getElem hpos]; rfl
  have hwl : wid ts ≤ 1048576 := by have := sz3_one hpos; omega
  rw [hw0, Nat.add_zero] at hc0
  have H3 := Lib.hid (fun h => tabsB_3 (L := (ts.length : Int)) (ts := ts) h)
  have H4 := Lib.hid (fun i hi h => tabsB_4 (L := (ts.length : Int)) (ts := ts) i hi h)
  have H5 := Lib.hid (fun h => tabsB_5 (ts := ts) HD.out h)
  clear hI0 hw0
  generalize wid ts = n at hc0 hwl H3 H4 H5
  cases hN : inB (n : Int) 1 6 with
  | false =>
    have HR := Lib.hid (H3.out hN)
    have hnb := inB_false hN
    subst ea
    by_cases hn1 : (n : Int) < 1
    · go_enter Try.func24, Try.ntmps24
      go_wp2_with (go_at_call 51; refine (l01In_c _ _ _ _).mono ?_; rw [hD]; rintro e w' ⟨rfl, rfl⟩)
      go_ret
      exact ⟨retB HR.out.symm, rfl⟩
    · have hn6 : (6 : Int) < (n : Int) := by omega
      go_enter Try.func24, Try.ntmps24
      go_wp2_with (go_at_call 51; refine (l01In_c _ _ _ _).mono ?_; rw [hD]; rintro e w' ⟨rfl, rfl⟩)
      go_ret
      exact ⟨retB HR.out.symm, rfl⟩
  | true =>
    have hnb := inB_true hN
    have HNt := Lib.hid hN
    subst ea
    clear hN
    go_enter Try.func24, Try.ntmps24
    go_wp2_with (go_at_call 51; refine (l01In_c _ _ _ _).mono ?_; rw [hD]; rintro e w' ⟨rfl, rfl⟩)
    clear hD hc0
    go_loop [6] (fun vi => ∃ k : Nat, k ≤ ts.length ∧ vi = .int .i64 k ∧ ∀ i (h : i < ts.length), i < k → tabB n ts[i] = true) (fun vi => ts.length - (intOf vi).toNat)
    case atStart => exact ⟨0, Nat.zero_le _, rfl, fun i _ h => absurd h (Nat.not_lt_zero _)⟩
    case round =>
      obtain ⟨k, hk, rfl, hg⟩ := hrel
      have HG := Lib.hid hg
      clear hg
      by_cases hlt : k < ts.length
      · obtain ⟨b, off, a', c, ea, d0, hI⟩ := HT.out.get (Below.refl hi w) (Nat.le_refl _) hlt
        injection ea with ea
        injection ea with e1 e2
        subst e1 e2
        have HI := Lib.hid hI
        have HK := Lib.hid (fun h => H4.out k hlt h)
        have htl := sz3_one hlt
        obtain ⟨t, het⟩ : ∃ t, ts[k] = t := ⟨_, rfl⟩
        have HE := Lib.hid het
        rw [het] at d0 HI HK htl
        clear het hI
        by_cases h1 : t.length = n
        · have HL := Lib.hid h1
          rw [h1] at d0
          clear h1
          have htn := HL.out
          have HF := Lib.hid (show flat t ≤ 1048576 by omega)
          clear htl htn
          go_wp2
          go_loop [7] (fun vj => ∃ j : Nat, j ≤ n ∧ vj = .int .i64 j ∧ ∀ i (h : i < t.length), i < j → rowM 1000 n t[i] = true) (fun vj => n - (intOf vj).toNat)
          case atStart => exact ⟨0, Nat.zero_le _, rfl, fun i _ h => absurd h (Nat.not_lt_zero _)⟩
          case round =>
            obtain ⟨j, hj, rfl, hg⟩ := hrel
            have HGj := Lib.hid hg
            clear hg
            by_cases hltj : j < n
            · have hjt : j < t.length := by have := HL.out; omega
              obtain ⟨b2, o2, a2, c2, rfl, d1, hI2⟩ := HI.out.get (Below.refl hi w) (Nat.le_refl _) hjt
              have HI2 := Lib.hid hI2
              have HJ := Lib.hid (fun h => HK.out (tabB_row j hjt h))
              obtain ⟨z, hez⟩ : ∃ z, t[j] = z := ⟨_, rfl⟩
              have HEz := Lib.hid hez
              rw [hez] at d1 HI2 HJ
              clear hez hI2
              by_cases h2 : z.length = n
              · have HLz := Lib.hid h2
                rw [h2] at d1
                clear h2
                go_wp2
                go_loop [8] (fun vm => ∃ m : Nat, m ≤ n ∧ vm = .int .i64 m ∧ ∀ i (h : i < z.length), i < m → inB z[i] (-1000) 1000 = true) (fun vm => n - (intOf vm).toNat)
                case atStart => exact ⟨0, Nat.zero_le _, rfl, fun i _ h => absurd h (Nat.not_lt_zero _)⟩
                case round =>
                  obtain ⟨m, hm, rfl, hg⟩ := hrel
                  have HGm := Lib.hid hg
                  clear hg
                  by_cases hltm : m < n
                  · have hmz : m < z.length := by have := HLz.out; omega
                    rcases HI2.out with h | ⟨b', o', rfl, _, _, hI'⟩
                    · rw [h] at hmz; simp at hmz
                    have d2 := hI' m hmz
                    have HNo := Lib.hid (fun h => HJ.out (rowM_num (M := 1000) m hmz h))
                    have HY := Lib.hid (fun (h : inB z[m] (-1000) 1000 = true) i (hi : i < z.length) (hij : i < m + 1) => show inB z[i] (-1000) 1000 = true from by
                      by_cases e : i < m
                      · exact HGm.out i hi e
                      · obtain rfl : i = m := by omega
                        exact h)
                    obtain ⟨x, hx⟩ : ∃ x, z[m] = x := ⟨_, rfl⟩
                    rw [hx] at d2 HNo HY
                    clear hx hI'
                    cases hin : inB x (-1000) 1000 with
                    | false =>
                      have HR := Lib.hid (HNo.out hin)
                      go_wp2_with (go_at_call 51; refine (l01In_c _ _ _ _).mono ?_; rw [hin]; rintro e w' ⟨rfl, rfl⟩)
                      go_ret
                      exact ⟨retB HR.out.symm, rfl⟩
                    | true =>
                      have HR := Lib.hid (HY.out hin)
                      go_wp2_with (go_at_call 51; refine (l01In_c _ _ _ _).mono ?_; rw [hin]; rintro e w' ⟨rfl, rfl⟩)
                      go_round
                      case rel => exact ⟨m + 1, by omega, by go_num, HR.out⟩
                      case measure => simp [intOf]; omega
                  · have HR := Lib.hid (show rowM 1000 (n : Int) z = true from rowM_good (by rw [HLz.out]) (fun i hi => HGm.out i hi (by have := HLz.out; omega)))
                    go_wp2
                    go_round
                    case rel =>
                      refine ⟨j + 1, by omega, by go_num, fun i hi hik => ?_⟩
                      by_cases e : i < j
                      · exact HGj.out i hi e
                      · obtain rfl : i = j := by omega
                        rw [HEz.out]; exact HR.out
                    case measure => simp [intOf]; omega
              · have hzl : z.length ≤ 1048576 := by have := flat_one (ps := t) (k := j) (by have := HL.out; omega); rw [HEz.out] at this; have := HF.out; omega
                have HR := Lib.hid (HJ.out (rowM_size (M := 1000) (L := (n : Int)) (z := z) (by omega)))
                have h2' : ¬ (z.length : Int) = (n : Int) := by omega
                go_wp2
                go_ret
                exact ⟨retB HR.out.symm, rfl⟩
            · have HR := Lib.hid (show tabB (n : Int) t = true from by rw [tabB_rows (by rw [HL.out])]; exact all_yes (fun i hi => HGj.out i hi (by have := HL.out; omega)))
              go_wp2
              go_round
              case rel =>
                refine ⟨k + 1, by omega, by go_num, fun i hi hik => ?_⟩
                by_cases e : i < k
                · exact HG.out i hi e
                · obtain rfl : i = k := by omega
                  rw [HE.out]; exact HR.out
              case measure => simp [intOf]; omega
        · have HR := Lib.hid (HK.out (tabB_size (L := (n : Int)) (by omega)))
          have h1' : ¬ (t.length : Int) = (n : Int) := by omega
          go_wp2
          go_ret
          exact ⟨retB HR.out.symm, rfl⟩
      · have HR := Lib.hid (H5.out (fun i hi => HG.out i hi (by omega)))
        go_wp2
        go_ret
        exact ⟨retB (HNt.out.symm.trans HR.out.symm), rfl⟩

set_option maxRecDepth 100000 in
set_option maxHeartbeats 4000000 in
theorem iAreT_c : Calls Try.prog 29 #[.int .i64 L, .slice a ts.length cap] w fun e w' => e = .returned (.bool (tabsB L ts)) ∧ w = w' := by
  have HT := Lib.hid hr
  clear hr
  cases hD : inB L 1 3 with
  | false =>
    have HR := Lib.hid (tabsB_1 (ts := ts) hD)
    go_enter Try.func29, Try.ntmps29
    go_wp2_with (go_at_call 63; refine (isBetween_c _ _ _ _).mono ?_; rw [hD]; rintro e w' ⟨rfl, rfl⟩)
    go_ret
    exact ⟨retB HR.out.symm, rfl⟩
  | true =>
  by_cases hn : (ts.length : Int) = L
  case neg =>
    have HR := Lib.hid (tabsB_2 hn)
    go_enter Try.func29, Try.ntmps29
    go_wp2_with (go_at_call 63; refine (isBetween_c _ _ _ _).mono ?_; rw [hD]; rintro e w' ⟨rfl, rfl⟩)
    go_ret
    exact ⟨retB HR.out.symm, rfl⟩
  case pos =>
  subst hn
  have hpos : 0 < ts.length := by have := inB_true hD; omega
  have HD := Lib.hid hD
  obtain ⟨b0, off0, a0, c0', ea, hc0, hI0⟩ := HT.out.get (Below.refl hi w) (Nat.le_refl _) hpos
  have hw0 : (ts[0]).length = wid ts := by unfold wid; rw [List.getD_eq_getElem?_getD, List.getElem?_eq_getElem hpos]; rfl
  have hwl : wid ts ≤ 1048576 := by have := sz3_one hpos; omega
  rw [hw0, Nat.add_zero] at hc0
  have H4 := Lib.hid (fun i hi h => tabsB_4 (L := (ts.length : Int)) (ts := ts) i hi h)
  have H5 := Lib.hid (fun h => tabsB_5 (ts := ts) HD.out h)
  clear hI0 hw0
  generalize wid ts = n at hc0 hwl H4 H5
  subst ea
  go_enter Try.func29, Try.ntmps29
  go_wp2_with (go_at_call 63; refine (isBetween_c _ _ _ _).mono ?_; rw [hD]; rintro e w' ⟨rfl, rfl⟩)
  clear hD hc0
  go_loop [23] (fun vi => ∃ k : Nat, k ≤ ts.length ∧ vi = .int .i64 k ∧ ∀ i (h : i < ts.length), i < k → tabB n ts[i] = true) (fun vi => ts.length - (intOf vi).toNat)
  case atStart => exact ⟨0, Nat.zero_le _, rfl, fun i _ h => absurd h (Nat.not_lt_zero _)⟩
  case round =>
    obtain ⟨k, hk, rfl, hg⟩ := hrel
    have HG := Lib.hid hg
    clear hg
    by_cases hlt : k < ts.length
    · obtain ⟨b, off, a', c, ea, d0, hI⟩ := HT.out.get (Below.refl hi w) (Nat.le_refl _) hlt
      injection ea with ea
      injection ea with e1 e2
      subst e1 e2
      have HI := Lib.hid hI
      have HK := Lib.hid (fun h => H4.out k hlt h)
      have htl := sz3_one hlt
      obtain ⟨t, het⟩ : ∃ t, ts[k] = t := ⟨_, rfl⟩
      have HE := Lib.hid het
      rw [het] at d0 HI HK htl
      clear het hI
      have hq1 : t.length ≤ 1048576 := by omega
      have hq2 : flat t ≤ 1048576 := by omega
      clear htl
      by_cases h1 : (t.length : Int) = n
      · have HTb := Lib.hid (tabB_rows h1)
        have HAr := Lib.hid (areRowsM_c 1000 (by omega) lo hi (n : Int) a' c t hq1 hq2 w HI.out)
        cases hrw : rowsM 1000 (n : Int) t with
        | false =>
          have HR := Lib.hid (HK.out (HTb.out.trans hrw))
          rw [hrw] at HAr
          go_wp2_with (first | (go_at_call 64; refine HAr.out.mono ?_; rintro e w' ⟨rfl, rfl⟩) | fail)
          go_ret
          exact ⟨retB HR.out.symm, rfl⟩
        | true =>
          have HR := Lib.hid (HTb.out.trans hrw)
          rw [hrw] at HAr
          go_wp2_with (first | (go_at_call 64; refine HAr.out.mono ?_; rintro e w' ⟨rfl, rfl⟩) | fail)
          go_round
          case rel =>
            refine ⟨k + 1, by omega, by go_num, fun i hi hik => ?_⟩
            by_cases e : i < k
            · exact HG.out i hi e
            · obtain rfl : i = k := by omega
              rw [HE.out]; exact HR.out
          case measure => simp [intOf]; omega
      · have HR := Lib.hid (HK.out (tabB_size h1))
        go_wp2
        go_ret
        exact ⟨retB HR.out.symm, rfl⟩
    · have HR := Lib.hid (H5.out (fun i hi => HG.out i hi (by omega)))
      go_wp2_with (go_at_call 63; refine (isBetween_c _ _ _ _).mono ?_; rintro e w' ⟨rfl, rfl⟩)
      go_ret
      exact ⟨retB HR.out.symm, rfl⟩
end
end Go.Proofs.Ytknigggjnjkhbaa
