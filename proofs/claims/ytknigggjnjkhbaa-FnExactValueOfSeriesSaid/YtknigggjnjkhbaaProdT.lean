/-
  The program's product of two square matrices of whole numbers.
-/
import Derived.Test.YtknigggjnjkhbaaTabF
namespace Go.Proofs.Ytknigggjnjkhbaa
open Go.RowKit

set_option maxRecDepth 100000 in
set_option maxHeartbeats 8000000 in
theorem productOf_c (n : Nat) (hn : 1 ≤ n ∧ n ≤ 6) (loA hiA loB hiB : Nat) (a b : Option Addr) (cA cB : Nat) (A B : MF) (hA : BdF n 1000000000 A) (hB : BdF n 1000 B) (w : World) (rA : PRow loA hiA w a (tabF n A)) (rB : PRow loB hiB w b (tabF n B)) (hhA : hiA ≤ w.heap.size) (hhB : hiB ≤ w.heap.size) :
    Calls Try.prog 67 #[.slice a n cA, .slice b n cB, .int .i64 0, .func (.func 69) #[] #[]] w (MulPost n (mulT n A B) w) := by
  have HA := Lib.hid hA
  have HB := Lib.hid hB
  have RA := Lib.hid rA
  have RB := Lib.hid rB
  have HSq := Lib.hid (squareOf_c n hn 0 w)
  clear hA hB rA rB
  go_enter Try.func67, Try.ntmps67
  go_wp2_with fail
  refine HSq.out.mono ?_
  rintro e w1 ⟨a1, c1, rfl, hb1, hG1⟩
  rw [sqL_tab] at hG1
  obtain ⟨h, g, rfl, h1, h2, h3, h4, hG⟩ := hG1.f
  have HG := Lib.hid hG
  have HB1 := Lib.hid hb1
  have HLn := Lib.hid (show (sqL n 0).length = n from sqL_length n 0)
  clear hb1 hG1 hG
  rw [HLn.out]
  have hn1 : (n : Int) ≤ 6 := by omega
  go_wp2_with fail
  go_loopw [24] (fun vi wr => ∃ (i : Nat) (f : MF), i ≤ n ∧ vi = .int .i64 i ∧ GridF n h g wr f ∧ (∀ r c, r < i → c < n → f r c = mulT n A B r c) ∧ Below w.heap.size w wr) (fun vi _ => n - (intOf vi).toNat)
  case atStart => exact ⟨0, _, Nat.zero_le _, rfl, HG.out, fun r c hr => absurd hr (Nat.not_lt_zero _), HB1.out⟩
  case round =>
    obtain ⟨i, f, hi, rfl, hGr, hf, hBr⟩ := hrel
    have HGr := Lib.hid hGr
    have HF := Lib.hid hf
    have HBr := Lib.hid hBr
    have hhw := hGr.2.1.1
    clear hGr hf hBr
    by_cases hlt : i < n
    · obtain ⟨ci, hc0⟩ := HGr.out.2.2.2.1 i hlt
      obtain ⟨o, ho⟩ : ∃ o, i * n = o := ⟨_, rfl⟩
      have HO := Lib.hid ho
      rw [ho] at hc0
      clear ho
      go_wp2_with fail
      clear hc0
      go_loopw [31] (fun vj wr => ∃ (j : Nat) (f : MF), j ≤ n ∧ vj = .int .i64 j ∧ GridF n h g wr f ∧ (∀ r c, r < i → c < n → f r c = mulT n A B r c) ∧ (∀ c, c < j → f i c = mulT n A B i c) ∧ Below w.heap.size w wr) (fun vj _ => n - (intOf vj).toNat)
      case atStart => exact ⟨0, f, Nat.zero_le _, rfl, HGr.out, HF.out, fun c hc => absurd hc (Nat.not_lt_zero _), HBr.out⟩
      case round =>
        obtain ⟨j, f2, hj, rfl, hGj, hf2, hfj, hBj⟩ := hrel
        have HGj := Lib.hid hGj
        have HF2 := Lib.hid hf2
        have HFj := Lib.hid hfj
        have HBj := Lib.hid hBj
        clear hGj hf2 hfj hBj
        by_cases hltj : j < n
        · obtain ⟨ba, oa, xa, ca, ea, hba, d0, ba', oa', rfl, hba', d1⟩ := (RA.out.below HBj.out hhA).ent hlt
          subst ea
          have HD1 := Lib.hid d1
          clear d1
          go_wp2_with fail
          clear d0
          go_loop [14, 15, 40] (fun v14 v15 v40 => ∃ k : Nat, k ≤ n ∧ v14 = .int .i64 (dotT A B i j k) ∧ v15 = .int .i64 0 ∧ v40 = .int .i64 k) (fun _ _ v40 => n - (intOf v40).toNat)
          case atStart => exact ⟨0, Nat.zero_le _, rfl, rfl, rfl⟩
          case round =>
            obtain ⟨k, hk, rfl, rfl, rfl⟩ := hrel
            by_cases hltk : k < n
            · have q1 := HD1.out k hltk
              obtain ⟨bb, ob, xb, cb, eb, hbb, e0, bb', ob', rfl, hbb', e1⟩ := (RB.out.below HBj.out hhB).ent hltk
              subst eb
              have q2 := e1 j hltj
              have b1 := dotT_bd HA.out HB.out hlt hltj k (by omega)
              have b2 := prod_bd (HA.out i k hlt hltk) (HB.out k j hltk hltj)
              have HS := Lib.hid (show dotT A B i j (k + 1) = dotT A B i j k + A i k * B k j from rfl)
              clear e1
              have hkn : (k : Int) < (n : Int) := by omega
              have hx : -6000000000000 ≤ dotT A B i j k ∧ dotT A B i j k ≤ 6000000000000 := by omega
              clear b1
              generalize dotT A B i j k = s at hx HS
              generalize A i k = x at q1 b2 HS
              generalize B k j = y at q2 b2 HS
              go_wp2_with fail
              refine (addWhole_c s x y hx b2 _).mono ?_
              rintro e w' ⟨rfl, rfl⟩
              clear b2
              go_wp2
              go_round
              case rel => exact ⟨k + 1, hltk, by rw [HS.out], rfl, by go_num⟩
              case measure => simp [intOf]; omega
            · obtain rfl : k = n := by omega
              have HM := Lib.hid (show mulT k A B i j = dotT A B i j k from rfl)
              have HS2 := Lib.hid (HGj.out.set hlt hltj (dotT A B i j k))
              have hfit := row_fits (n := k) hlt
              obtain ⟨⟨u, hu⟩, hz⟩ := HGj.out.2.2.1.2 (i * k + j) (by omega)
              rw [HO.out] at hu hz HS2
              have hgj := HGj.out.2.2.1.1
              clear hfit
              generalize dotT A B i j k = s at HM HS2
              go_wp2
              go_roundw
              case rel =>
                refine ⟨j + 1, _, hltj, by go_num, HS2.out, fun r c hr hc => ?_, fun c hc => ?_, HBj.out.setCell (p := ⟨g, o + j, none⟩) (by show w.heap.size ≤ g; omega) _⟩
                · show (if r = i ∧ c = j then s else f2 r c) = _
                  rw [if_neg (by omega)]
                  exact HF2.out r c hr hc
                · show (if i = i ∧ c = j then s else f2 i c) = _
                  by_cases e : c = j
                  · rw [if_pos ⟨rfl, e⟩, e]; exact HM.out.symm
                  · rw [if_neg (by omega)]
                    exact HFj.out c (by omega)
              case measure => simp [intOf]; omega
        · obtain rfl : j = n := by omega
          go_wp2
          go_roundw
          case rel =>
            refine ⟨i + 1, f2, hlt, by go_num, HGj.out, fun r c hr hc => ?_, HBj.out⟩
            by_cases e : r = i
            · subst e; exact HFj.out c hc
            · exact HF2.out r c (by omega) hc
          case measure => simp [intOf]; omega
    · obtain rfl : i = n := by omega
      have HC := Lib.hid (tabF_congr (n := i) (fun r c hr hc => HF.out r c hr hc))
      go_wp2
      go_ret2
      exact ⟨_, _, rfl, HBr.out, by rw [← HC.out]; exact HGr.out.p h1 (by have := HBr.out.size; omega) h3 HGr.out.2.2.1.1⟩
end Go.Proofs.Ytknigggjnjkhbaa
