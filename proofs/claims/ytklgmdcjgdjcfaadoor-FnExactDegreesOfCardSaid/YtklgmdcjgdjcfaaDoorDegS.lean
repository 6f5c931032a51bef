/-
  Contracts of DegreesOf, of the program and of its model: both return the same lists and code.
-/
import Derived.Test.YtklgmdcjgdjcfaaDoorDeg
namespace Go.Proofs.YtklgmdcjgdjcfaaDoor
open Go.RowKit

section
variable (L V : Int) (g : Nat) (ts : List Tm) (w : World)
set_option maxRecDepth 100000 in
set_option maxHeartbeats 4000000 in
theorem sDeg_1 (h1 : serB L V ts = false) (hl : ts.length ≤ 1048576) (hs : ∀ i (h : i < ts.length), (ts[i]).s.size ≤ maxLen) (hb : g < w.heap.size) (ht : TermsIn w g 0 ts) :
    Calls Tryd.prog 5 #[.agg #[.int .i64 L, .int .i64 V, .slice (some ⟨g, 0, none⟩) ts.length ts.length]] w (PathPost [] 1 w) := by
  have HT := Lib.hid ht
  have HS := Lib.hid hs
  clear ht hs
  go_enter Tryd.func5, Tryd.ntmps5
  go_wp2_with fail
  refine (l01Is_c L V g 0 _ ts hl HS.out _ (by simp; omega) (HT.out.below (below1 w _) hb)).mono ?_
  rintro e w1 ⟨rfl, hb1⟩
  have HB := Lib.hid ((below1 w _).trans (hb1.mono (by simp)))
  clear hb1
  rw [h1]
  go_wp2
  go_ret2
  exact ⟨none, 0, rfl, HB.out, .inl rfl⟩
set_option maxRecDepth 100000 in
set_option maxHeartbeats 4000000 in
theorem iDeg_1 (h1 : serB L V ts = false) (hl : ts.length ≤ 1048576) (hs : ∀ i (h : i < ts.length), (ts[i]).s.size ≤ maxLen) (hb : g < w.heap.size) (ht : TermsIn w g 0 ts) :
    Calls Tryd.prog 7 #[.agg #[.int .i64 L, .int .i64 V, .slice (some ⟨g, 0, none⟩) ts.length ts.length]] w (PathPost [] 1 w) := by
  have HT := Lib.hid ht
  have HS := Lib.hid hs
  clear ht hs
  go_enter Tryd.func7, Tryd.ntmps7
  go_wp2_with fail
  refine (iIsSeries_c L V g 0 _ ts hl HS.out _ (by simp; omega) (HT.out.below (below1 w _) hb)).mono ?_
  rintro e w1 ⟨rfl, hb1⟩
  have HB := Lib.hid ((below1 w _).trans (hb1.mono (by simp)))
  clear hb1
  rw [h1]
  go_wp2
  go_ret2
  exact ⟨none, 0, rfl, HB.out, .inl rfl⟩

set_option maxRecDepth 100000 in
set_option maxHeartbeats 8000000 in
theorem iDeg_2 (D : Nat) (hD : 1 ≤ D ∧ D ≤ 3) (h1 : serB (D : Int) V ts = true) (hl : ts.length ≤ 1048576) (hs : ∀ i (h : i < ts.length), (ts[i]).s.size ≤ maxLen) (hb : g < w.heap.size) (ht : TermsIn w g 0 ts) :
    Calls Tryd.prog 7 #[.agg #[.int .i64 (D : Int), .int .i64 V, .slice (some ⟨g, 0, none⟩) ts.length ts.length]] w (PathPost (degL D ts) 0 w) := by
  have HT := Lib.hid ht
  have HS := Lib.hid hs
  clear ht hs
  go_enter Tryd.func7, Tryd.ntmps7
  go_wp2_with fail
  refine (iIsSeries_c (D : Int) V g 0 _ ts hl HS.out _ (by simp; omega) (HT.out.below (below1 w _) hb)).mono ?_
  rintro e w1 ⟨rfl, hb1⟩
  rw [h1]
  have hB := hb1
  simp only [World.size_alloc] at hB
  have bc := bcellB hB
  have x0 : w1.cell? ⟨w.heap.size, 0, none⟩ = some (.int .i64 (D : Int)) := (bc.1 _ _ (by omega)).trans (by go_simp)
  have x2 : w1.cell? ⟨w.heap.size, 2, none⟩ = some (.slice (some ⟨g, 0, none⟩) ts.length ts.length) := (bc.1 _ _ (by omega)).trans (by go_simp)
  have hz := hB.size
  simp only [World.size_alloc] at hz
  have HB := Lib.hid ((below1 w _).trans (hb1.mono (by simp)))
  have HT1 := Lib.hid (HT.out.below HB.out hb)
  have hg1 : g < w1.heap.size := by omega
  have hwz : w.heap.size < w1.heap.size := by omega
  have eD : (0 : Int) ≤ (D : Int) := by omega
  clear hb1 hB bc
  go_wp2_with fail
  go_loopw [4, 15] (fun v vk wr => ∃ (k : Nat) (a : Option Addr) (l c : Nat), k ≤ ts.length ∧ vk = .int .i64 k ∧ v = .slice a l c ∧ l = k ∧ OwnP wr w1.heap.size (.slice a l c) ((degL D ts).take k) ∧ Below w1.heap.size w1 wr) (fun _ vk _ => ts.length - (intOf vk).toNat)
  case atStart => exact ⟨0, none, 0, 0, Nat.zero_le _, rfl, rfl, rfl, OwnP.nil _ _, Below.refl _ _⟩
  case round =>
    obtain ⟨k, av, lv, cv, hk, rfl, rfl, hlv, hO, hB⟩ := hrel
    have HO := Lib.hid hO
    have HL := Lib.hid hlv
    have HBo := Lib.hid hB
    have HSz := Lib.hid hB.size
    have hlvm : lv ≤ 1048576 := by omega
    have hsz1 := hB.size
    clear hO hlv hB
    obtain ⟨wo, rfl⟩ : ∃ wo : World, wo = wr := ⟨_, rfl⟩
    by_cases hlt : k < ts.length
    · obtain ⟨c0, c1, c2⟩ := HT1.out.below HBo.out hg1 k hlt
      have HTk := Lib.hid (degL_take (D := D) hlt)
      have y0 : wo.cell? ⟨w.heap.size, 0, none⟩ = some (.int .i64 (D : Int)) := (HBo.out.cell (p := ⟨w.heap.size, 0, none⟩) hwz).trans x0
      obtain ⟨s, n, d, het⟩ : ∃ s n d, ts[k] = ⟨s, n, d⟩ := ⟨_, _, _, rfl⟩
      rw [het] at c0 c1 c2 HTk
      simp only [Nat.zero_add] at c0 c1 c2
      have hwo : w.heap.size < wo.heap.size := by omega
      clear het
      go_wp2_with fail
      go_loopw [7, 21] (fun v vi wi => ∃ (i : Nat) (b : Option Addr) (l c : Nat), i ≤ D ∧ vi = .int .i64 i ∧ v = .slice b l c ∧ l = i ∧ OwnI wi (wo.heap.size + 1) (.slice b l c) ((degI D s.data.toList).take i) ∧ Below (wo.heap.size + 1) (wo.alloc (.cells #[.string s, .int .i64 n, .int .i64 d] 44)) wi) (fun _ vi _ => D - (intOf vi).toNat)
      case atStart => exact ⟨0, none, 0, 0, Nat.zero_le _, rfl, rfl, rfl, OwnI.nil _ _, Below.refl _ _⟩
      case round =>
        obtain ⟨i, b2, l2, c2', hi2, rfl, rfl, hlv2, hO2, hB2⟩ := hrel
        have HO2 := Lib.hid hO2
        have HL2 := Lib.hid hlv2
        have HB2 := Lib.hid hB2
        have hsz2 := hB2.size
        simp only [World.size_alloc] at hsz2
        have HSz2 := Lib.hid hsz2
        have hl29 : l2 ≤ 3 := by omega
        have q0 : wr.cell? ⟨wo.heap.size, 0, none⟩ = some (.string s) := (hB2.cell (p := ⟨wo.heap.size, 0, none⟩) (Nat.lt_succ_self _)).trans (by go_simp)
        have hwo2 : wo.heap.size < wr.heap.size := by omega
        clear hO2 hlv2 hB2
        by_cases hlti : i < D
        · have HTi := Lib.hid (degI_take (l := s.data.toList) hlti)
          go_wp2
          go_region_law (first
            | (refine step_letter rfl (.tmp 27) rfl i (by omega) rfl ?_)
            | (refine step_count rfl (.tmp 26) (.tmp 28) rfl s i rfl rfl ?_)
            | (refine step_int (W := wr.drew) rfl (.tmp 24) (.tmp 30) rfl (wo.heap.size + 1) (.slice b2 l2 c2') l2 ((degI D s.data.toList).take i) (degO s.data.toList i) rfl HO2.out (by have := HL2.out; rw [List.length_take, degI_length]; omega) rfl (by omega) HSz2.out ?_; intro gg cg w9 hO9 hG9))
          all_goals
            have HB9 := Lib.hid (HB2.out.trans ((((Below.refl (wo.heap.size + 1) wr).drew).alloc HSz2.out (.cells #[.int .i64 (degO s.data.toList i)] 2)).trans (below_of_grown hG9 (fun g h => (HO2.out.lt g h).1) (by have := HSz2.out; simp; omega))))
            have HO9 := Lib.hid hO9
            clear hO9 hG9
            go_wp2
            go_roundw
            case rel => exact ⟨i + 1, some ⟨gg, 0, none⟩, l2 + 1, cg, by omega, by go_num, rfl, by rw [HL2.out], by rw [HTi.out]; exact HO9.out, HB9.out⟩
            case measure => simp [intOf]; omega
        · obtain rfl : i = D := by omega
          have HTe := Lib.hid (show (degI i s.data.toList).take i = degI i s.data.toList from List.take_of_length_le (by rw [degI_length]; exact Nat.le_refl _))
          have HLn := Lib.hid (show l2 = (degI i s.data.toList).length from by rw [degI_length]; exact HL2.out)
          have hN := HO2.out
          rw [HTe.out, HLn.out] at hN
          have HN := Lib.hid (hN.at_.2.mono (Nat.le_succ wo.heap.size) (Nat.le_refl _))
          have HB3 := Lib.hid ((below1 wo _).trans (HB2.out.mono (Nat.le_succ _)))
          clear hN
          go_wp2_with (at_builtin; refine wpList_append_path rfl _ _ rfl w1.heap.size wo wr av lv cv ((degL i ts).take k) (degI i s.data.toList) b2 l2 c2' rfl (by rw [HL.out, List.length_take, degL_length]; omega) HO.out HB3.out HN.out HLn.out rfl (by omega) HSz.out ?_)
          intro a9 q9 w9 hO9 hb9 _
          have HO9 := Lib.hid hO9
          have HBx := Lib.hid ((HBo.out.trans (HB3.out.mono HSz.out)).trans hb9)
          clear hO9 hb9
          go_wp2
          go_roundw
          case rel => exact ⟨k + 1, a9, lv + 1, q9, by omega, by go_num, rfl, by rw [HL.out], by rw [HTk.out]; exact HO9.out, HBx.out⟩
          case measure => simp [intOf]; omega
    · obtain rfl : k = ts.length := by omega
      have HTe := Lib.hid (show (degL D ts).take ts.length = degL D ts from List.take_of_length_le (by rw [degL_length]; exact Nat.le_refl _))
      have HLn := Lib.hid (show lv = (degL D ts).length from by rw [degL_length]; exact HL.out)
      go_wp2
      go_ret2
      have hO := HO.out
      rw [HTe.out] at hO
      exact ⟨av, cv, by rw [HLn.out]; rfl, HB.out.trans (HBo.out.mono (by omega)), hO.at_.2.mono (by omega) (Nat.le_refl _)⟩

set_option maxRecDepth 100000 in
set_option maxHeartbeats 8000000 in
theorem sDeg_2 (D : Nat) (hD : 1 ≤ D ∧ D ≤ 3) (h1 : serB (D : Int) V ts = true) (hl : ts.length ≤ 1048576) (hs : ∀ i (h : i < ts.length), (ts[i]).s.size ≤ maxLen) (hb : g < w.heap.size) (ht : TermsIn w g 0 ts) :
    Calls Tryd.prog 5 #[.agg #[.int .i64 (D : Int), .int .i64 V, .slice (some ⟨g, 0, none⟩) ts.length ts.length]] w (PathPost (degL D ts) 0 w) := by
  have HT := Lib.hid ht
  have HS := Lib.hid hs
  have HLt := Lib.hid (ser_letters h1)
  obtain ⟨O, hmk, hmade⟩ := make_ints D (by omega)
  have HM := Lib.hid hmade
  have HMk := Lib.hid hmk
  clear ht hs hmade hmk
  go_enter Tryd.func5, Tryd.ntmps5
  go_wp2_with fail
  refine (l01Is_c (D : Int) V g 0 _ ts hl HS.out _ (by simp; omega) (HT.out.below (below1 w _) hb)).mono ?_
  rintro e w1 ⟨rfl, hb1⟩
  rw [h1]
  have hB := hb1
  simp only [World.size_alloc] at hB
  have bc := bcellB hB
  have x0 : w1.cell? ⟨w.heap.size, 0, none⟩ = some (.int .i64 (D : Int)) := (bc.1 _ _ (by omega)).trans (by go_simp)
  have x2 : w1.cell? ⟨w.heap.size, 2, none⟩ = some (.slice (some ⟨g, 0, none⟩) ts.length ts.length) := (bc.1 _ _ (by omega)).trans (by go_simp)
  have hz := hB.size
  simp only [World.size_alloc] at hz
  have HB := Lib.hid ((below1 w _).trans (hb1.mono (by simp)))
  have HT1 := Lib.hid (HT.out.below HB.out hb)
  have hg1 : g < w1.heap.size := by omega
  have hwz : w.heap.size < w1.heap.size := by omega
  have eD : (0 : Int) ≤ (D : Int) := by omega
  clear hb1 hB bc
  go_wp2_with fail
  go_loopw [4, 5] (fun v vk wr => ∃ (k : Nat) (a : Option Addr) (l c : Nat), k ≤ ts.length ∧ vk = .int .i64 k ∧ v = .slice a l c ∧ l = k ∧ OwnP wr w1.heap.size (.slice a l c) ((degL D ts).take k) ∧ Below w1.heap.size w1 wr) (fun _ vk _ => ts.length - (intOf vk).toNat)
  case atStart => exact ⟨0, _, 0, 0, Nat.zero_le _, rfl, rfl, rfl, OwnP.emptyRow (heap_alloc_new w1 _) (Nat.le_refl _), below1 _ _⟩
  case round =>
    obtain ⟨k, av, lv, cv, hk, rfl, rfl, hlv, hO, hB⟩ := hrel
    have HO := Lib.hid hO
    have HL := Lib.hid hlv
    have HBo := Lib.hid hB
    have HSz := Lib.hid hB.size
    have hlvm : lv ≤ 1048576 := by omega
    have hsz1 := hB.size
    clear hO hlv hB
    obtain ⟨wo, rfl⟩ : ∃ wo : World, wo = wr := ⟨_, rfl⟩
    have y2 : wo.cell? ⟨w.heap.size, 2, none⟩ = some (.slice (some ⟨g, 0, none⟩) ts.length ts.length) := (HBo.out.cell (p := ⟨w.heap.size, 2, none⟩) hwz).trans x2
    by_cases hlt : k < ts.length
    · have HTk := Lib.hid (degL_take (D := D) hlt)
      have y0 : wo.cell? ⟨w.heap.size, 0, none⟩ = some (.int .i64 (D : Int)) := (HBo.out.cell (p := ⟨w.heap.size, 0, none⟩) hwz).trans x0
      have HTo := Lib.hid (HT1.out.below HBo.out hg1 k hlt).1
      have HLs := Lib.hid (HLt.out _ (List.getElem_mem hlt))
      have hss := HS.out k hlt
      obtain ⟨s, hes⟩ : ∃ s, (ts[k]).s = s := ⟨_, rfl⟩
      rw [hes] at HTo HTk HLs hss
      have hwo : w.heap.size < wo.heap.size := by omega
      have hgo : g < wo.heap.size := by omega
      have hmk := HMk.out
      unfold maxLen at hss
      clear hes
      go_wp2_with fail
      clear hmk
      go_loopw [7] (fun vi wi => ∃ j : Nat, j ≤ s.size ∧ vi = .int .i64 j ∧ Below wo.heap.size wo wi ∧ Made wi wo.heap.size D ∧ IntsIn wi wo.heap.size 0 (degI D (s.data.toList.take j))) (fun vi _ => s.size - (intOf vi).toNat)
      case atStart => exact ⟨0, Nat.zero_le _, rfl, (Below.refl _ _).alloc (Nat.le_refl _) _, (HM.out _).1, by rw [List.take_zero, degI_nil]; exact (HM.out _).2⟩
      case round =>
        obtain ⟨j, hj, rfl, hB2, hM2, hI2⟩ := hrel
        have HB2 := Lib.hid hB2
        have HM2 := Lib.hid hM2
        have HI2 := Lib.hid hI2
        have hsz2 := hB2.size
        have HSz2 := Lib.hid hsz2
        have q2 : wr.cell? ⟨w.heap.size, 2, none⟩ = some (.slice (some ⟨g, 0, none⟩) ts.length ts.length) := (hB2.cell (p := ⟨w.heap.size, 2, none⟩) hwo).trans y2
        have q0 := (hB2.cell (p := ⟨g, 0 + k * 3, none⟩) hgo).trans HTo.out
        simp only [Nat.zero_add] at q0
        clear hB2 hM2 hI2
        by_cases hltj : j < s.size
        · have hlb := wordB_gets HLs.out j hltj
          have HSn := Lib.hid (take_snoc s j hltj)
          have ht0 := letB_true hlb
          have htm := letB_mod hlb
          have hlu := letU_of hlb
          obtain ⟨jn, hjn⟩ : ∃ jn : Nat, (s[j]).toNat - 48 = jn := ⟨_, rfl⟩
          rw [hjn] at hlu
          have hjD : jn < D := by omega
          have hjc : ((s[j].toNat : Int) - 48) = (jn : Int) := by omega
          rw [hjc] at htm
          have HSet := Lib.hid (degI_set (l := s.data.toList.take j) hD.2 hjD hlu)
          have q3 := HI2.out jn (by rw [degI_length]; exact hjD)
          rw [degI_get, Nat.zero_add] at q3
          obtain ⟨-, f3⟩ := HM2.out.2 jn hjD
          have hbd := degO_le (s.data.toList.take j) jn
          rw [List.length_take] at hbd
          obtain ⟨t, ht⟩ : ∃ t, degO (s.data.toList.take j) jn = t := ⟨_, rfl⟩
          rw [ht] at q3 hbd HSet
          have hw8 : IntKind.u8.wrap ((s[j].toNat : Int) - 48) = (jn : Int) := by
            rw [hjc]
            simp [IntKind.wrap, IntKind.signed, IntKind.bits]
            omega
          have e1 : (0 : Int) ≤ (jn : Int) := by omega
          have e2 : (jn : Int) < (D : Int) := by omega
          have e5 := HM2.out.1
          clear ht ht0 hlb hlu hjn htm hjc
          go_wp2_with fail
          go_roundw
          case rel => exact ⟨j + 1, by omega, by go_num, HB2.out.setCell (p := ⟨wo.heap.size, jn, none⟩) (Nat.le_refl _) _, HM2.out.set _ _, by rw [HSn.out, ← HSet.out]; exact IntsIn.upd HI2.out (by rw [degI_length]; exact HM2.out) (by rw [degI_length]; exact hjD) _⟩
          case measure => simp [intOf]; omega
        · obtain rfl : j = s.size := by omega
          have hI := HI2.out
          rw [take_all] at hI
          have HLn := Lib.hid (show D = (degI D s.data.toList).length from (degI_length _ _).symm)
          have HN : Hid (NewI wo.heap.size wr.heap.size wr (some ⟨wo.heap.size, 0, none⟩) (degI D s.data.toList)) := Lib.hid (.inr ⟨wo.heap.size, rfl, Nat.le_refl _, HM2.out.1, by rw [degI_length]; exact HM2.out, hI⟩)
          clear hI
          go_wp2_with (at_builtin; refine wpList_append_path rfl _ _ rfl w1.heap.size wo wr av lv cv ((degL D ts).take k) (degI D s.data.toList) (some ⟨wo.heap.size, 0, none⟩) D D rfl (by rw [HL.out, List.length_take, degL_length]; omega) HO.out HB2.out HN.out HLn.out rfl (by omega) HSz.out ?_)
          intro a9 q9 w9 hO9 hb9 _
          have HO9 := Lib.hid hO9
          have HBx := Lib.hid ((HBo.out.trans (HB2.out.mono HSz.out)).trans hb9)
          clear hO9 hb9
          go_wp2
          go_roundw
          case rel => exact ⟨k + 1, a9, lv + 1, q9, by omega, by go_num, rfl, by rw [HL.out], by rw [HTk.out]; exact HO9.out, HBx.out⟩
          case measure => simp [intOf]; omega
    · obtain rfl : k = ts.length := by omega
      have HTe := Lib.hid (show (degL D ts).take ts.length = degL D ts from List.take_of_length_le (by rw [degL_length]; exact Nat.le_refl _))
      have HLn := Lib.hid (show lv = (degL D ts).length from by rw [degL_length]; exact HL.out)
      go_wp2
      go_ret2
      have hO := HO.out
      rw [HTe.out] at hO
      exact ⟨av, cv, by rw [HLn.out]; rfl, HB.out.trans (HBo.out.mono (by omega)), hO.at_.2.mono (by omega) (Nat.le_refl _)⟩
end
end Go.Proofs.YtklgmdcjgdjcfaaDoor
