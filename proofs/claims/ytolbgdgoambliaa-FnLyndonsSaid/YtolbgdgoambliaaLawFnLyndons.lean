/-
  'FnLyndons': whatever is drawn, the program and the model say the same; factors make the word, are Lyndon words and don't rise; cuts leave two Lyndon words that rise; lists have as many words as are counted.
-/
import Derived.Test.YtolbgdgoambliaaLyF
import Derived.Test.YtolbgdgoambliaaDrl
namespace Go.Proofs.Ytolbgdgoambliaa
open Go.RowKit

theorem SRow.next {w w' : World} {a : Option Addr} {ss : List ByteArray} (h : SRow w a ss) (hb : Below w.heap.size w w') : SRow w' a ss := by
  rcases h with h | ⟨b, off, e, h1, h2⟩
  · exact .inl h
  · exact .inr ⟨b, off, e, Nat.lt_of_lt_of_le h1 hb.size, h2.below hb h1⟩
theorem str_sameF (a : ByteArray) : (a.toList != a.toList) = false := by simp
theorem fold_next (fs : List ByteArray) (k : Nat) (h : k < fs.length) : (fs.take (k + 1)).foldl (· ++ ·) ByteArray.empty = (fs.take k).foldl (· ++ ·) ByteArray.empty ++ fs[k] := by
  rw [List.take_succ_eq_append_getElem h, List.foldl_append]
  rfl

set_option maxRecDepth 100000 in
set_option maxHeartbeats 32000000 in
theorem law_FnLyndons (a : Option Addr) (cap : Nat) (zs : List Int) (w : World) (hr : BRow w.heap.size w a zs) (hz : ∀ z ∈ zs, 0 ≤ z ∧ z ≤ 255) :
    Calls Try.prog 3 #[.slice a zs.length cap] w fun e w' => e = .returned (.bool true) ∧ Below w.heap.size w w' := by
  have HR := Lib.hid hr
  have HZ := Lib.hid hz
  clear hr hz
  go_enter Try.func3, Try.ntmps3
  by_cases hl : zs.length ≤ 4096
  · have HL := Lib.hid hl
    have hlb : decide (4096 < (zs.length : Int)) = false := by simp only [decide_eq_false_iff_not]; omega
    go_wp2_with fail
    refine (big_c a cap zs.length w).mono ?_
    rw [hlb]
    rintro e w0 ⟨rfl, rfl⟩
    clear hlb hl
    go_wp2_with fail
    refine (drawFactorsOf_c a cap zs w HR.out HZ.out HL.out).mono ?_
    rintro e w1 ⟨_, _, rfl, ⟨d, _, rfl⟩, ⟨s, hs, rfl⟩, hb⟩
    obtain ⟨fs, c, hlf, hyes, hfall, hc, hI, hS⟩ := fac d s hs
    have B1 := Lib.hid hb
    have HI := Lib.hid hI
    have HSp := Lib.hid hS
    have HC := Lib.hid hc
    have HYes := Lib.hid hyes
    have HFall := Lib.hid hfall
    clear hb hI hS hc hyes hfall
    go_wp2_with fail
    refine (HI.out _).mono ?_
    rintro e w2 ⟨a2, k2, rfl, hb, hN⟩
    have B2 := Lib.hid (B1.out.trans (hb.mono B1.out.size))
    have K2 := Lib.hid hN.rowB
    clear hb hN
    go_wp2_with fail
    refine (HSp.out _).mono ?_
    rintro e w3 ⟨a3, k3, rfl, hb, hN⟩
    have B3 := Lib.hid (B2.out.trans (hb.mono B2.out.size))
    have K3 := Lib.hid (K2.out.below hb (Nat.le_refl _))
    have hz3 := hb.size
    have M3 := Lib.hid hN.row
    clear hb hN
    go_wp2_with fail
    refine (words5_c a2 a3 k2 k3 fs (by omega) _ (K3.out.row hz3) M3.out).mono ?_
    rintro e w4 ⟨rfl, hb⟩
    have B4 := Lib.hid (B3.out.trans (hb.mono B3.out.size))
    have K4 := Lib.hid ((K3.out.below hb hz3).row (Nat.le_trans hz3 hb.size))
    clear hb hz3
    go_wp2_with fail
    go_loopw [9, 10] (fun vo vi wr => ∃ (k : Nat) (acc : ByteArray), k ≤ fs.length ∧ vi = .int .i64 k ∧ vo = .string acc ∧ acc.size ≤ 18 * k ∧ acc = (fs.take k).foldl (· ++ ·) ByteArray.empty ∧ Below w4.heap.size w4 wr) (fun _ vi _ => fs.length - (intOf vi).toNat)
    case atStart => exact ⟨0, ByteArray.empty, by omega, rfl, rfl, by simp, rfl, Below.refl _ _⟩
    case round =>
      obtain ⟨k, acc, hk, rfl, rfl, hsz, hacc, hB⟩ := hrel
      have HB := Lib.hid hB
      have HA := Lib.hid hacc
      clear hacc
      by_cases hlt : k < fs.length
      · rcases K4.out with h | ⟨b, off, rfl, hbs, ht⟩
        · rw [h] at hlt; simp at hlt
        have t1 := ht.below hB hbs k hlt
        have hsk := (HYes.out k hlt).1
        have HY := Lib.hid (HYes.out k hlt).2
        have HN := Lib.hid (fold_next fs k hlt)
        have e0 : (0 : Int) ≤ (k : Int) := by omega
        have e1 : (k : Int) < (fs.length : Int) := by omega
        have hcat : ¬ 9223372036854775807 < acc.size + (fs[k]).size := by omega
        by_cases hk0 : k = 0
        · subst hk0
          obtain ⟨t, het⟩ : ∃ t, fs[0] = t := ⟨_, rfl⟩
          rw [het] at t1 hsk HY HN hcat
          simp only [Nat.add_zero] at t1
          clear ht hB
          go_wp2_with fail
          refine (HY.out _).mono ?_
          rintro e w5 ⟨rfl, rfl⟩
          go_wp2
          go_quiet (fail)
          go_wp2
          go_roundw
          case rel => exact ⟨1, _, by omega, by go_num, rfl, by rw [ByteArray.size_append]; omega, by rw [HN.out, HA.out], below_dN2 HB.out _⟩
          case measure => simp [intOf]; omega
        · obtain ⟨j, rfl⟩ : ∃ j, k = j + 1 := ⟨k - 1, by omega⟩
          have t0 := ht.below hB hbs j (by omega)
          have hfl : Op.bytesLess (fs[j]'(by omega)).toList fs[j + 1].toList = false := HFall.out j hlt
          obtain ⟨t, het⟩ : ∃ t, fs[j + 1] = t := ⟨_, rfl⟩
          obtain ⟨p, hep⟩ : ∃ p, fs[j]'(by omega) = p := ⟨_, rfl⟩
          rw [het] at t1 hsk HY HN hcat hfl
          rw [hep] at t0 hfl
          have eI : ((j + 1 : Nat) : Int) - 1 = (j : Int) := by omega
          have e2 : (0 : Int) ≤ (j : Int) := by omega
          have e3 : (j : Int) < (fs.length : Int) := by omega
          have e4 : (0 : Int) < ((j + 1 : Nat) : Int) := by omega
          clear ht hB
          go_wp2_with fail
          refine (HY.out _).mono ?_
          rintro e w5 ⟨rfl, rfl⟩
          go_wp2
          go_quiet (fail)
          go_wp2
          go_roundw
          case rel => exact ⟨j + 2, _, by omega, by go_num, rfl, by rw [ByteArray.size_append]; omega, by rw [HN.out, HA.out], below_dN2 HB.out _⟩
          case measure => simp [intOf]; omega
      · obtain rfl : k = fs.length := by omega
        have HA2 : Hid (acc = fs.foldl (· ++ ·) ByteArray.empty) := Lib.hid (by have h := HA.out; rw [List.take_of_length_le (Nat.le_refl _)] at h; exact h)
        have BY := Lib.hid (B4.out.trans (hB.mono B4.out.size))
        clear hB HB HI HSp
        rcases HC.out with rfl | ⟨rfl, hcs⟩
        · clear HC
          have RY := Lib.hid (HR.out.next BY.out)
          go_wp2_with fail
          refine (drawCutOf_c a cap zs _ RY.out HZ.out HL.out).mono ?_
          rintro e u1 ⟨_, _, rfl, ⟨d1, _, rfl⟩, ⟨s1, hs1, rfl⟩, hb⟩
          obtain ⟨cs, c1, hl1, hc1, hI, hS⟩ := cuf d1 s1 hs1
          have B1 := Lib.hid (BY.out.trans (hb.mono BY.out.size))
          have HI1 := Lib.hid hI
          have HS1 := Lib.hid hS
          have HE1 := Lib.hid hc1
          clear hb hI hS hc1
          go_wp2_with fail
          refine (HI1.out _).mono ?_
          rintro e u2 ⟨a2, k2, rfl, hb, hN⟩
          have B2 := Lib.hid (B1.out.trans (hb.mono B1.out.size))
          have K2 := Lib.hid hN.rowB
          clear hb hN
          go_wp2_with fail
          refine (HS1.out _).mono ?_
          rintro e u3 ⟨a3, k3, rfl, hb, hN⟩
          have B3 := Lib.hid (B2.out.trans (hb.mono B2.out.size))
          have K3 := Lib.hid (K2.out.below hb (Nat.le_refl _))
          have hz3 := hb.size
          have M3 := Lib.hid hN.row
          clear hb hN
          go_wp2_with fail
          refine (words5_c a2 a3 k2 k3 cs (by omega) _ (K3.out.row hz3) M3.out).mono ?_
          rintro e u4 ⟨rfl, hb⟩
          have B4 := Lib.hid (B3.out.trans (hb.mono B3.out.size))
          have K4 := Lib.hid ((K3.out.below hb hz3).row (Nat.le_trans hz3 hb.size))
          clear hb hz3
          rcases HE1.out with hne | ⟨rfl, x, y, rfl, hx, hy, hX, hY, rfl, hlt⟩
          · have hneb : (c1 == 0) = false := by rw [beq_eq_false_iff_ne]; exact hne
            have BX := B4
            clear HE1 HI1 HS1
            have RX := Lib.hid (HR.out.next BX.out)
            go_wp2_with fail
            refine (drawLyndonWords_c a cap zs _ RX.out HZ.out HL.out).mono ?_
            rintro e v1 ⟨_, _, rfl, ⟨d3, _, rfl⟩, ⟨n3, _, rfl⟩, hb⟩
            obtain ⟨ls, c3, x3, c4, hl3, hc3, hI, hS, hC⟩ := lwf d3 n3
            have B1 := Lib.hid (BX.out.trans (hb.mono BX.out.size))
            have HI3 := Lib.hid hI
            have HS3 := Lib.hid hS
            have HC3 := Lib.hid hC
            have HE3 := Lib.hid hc3
            clear hb hI hS hC hc3
            go_wp2_with fail
            refine (HI3.out _).mono ?_
            rintro e v2 ⟨a2, k2, rfl, hb, hN⟩
            have B2 := Lib.hid (B1.out.trans (hb.mono B1.out.size))
            have K2 := Lib.hid hN.rowB
            clear hb hN
            go_wp2_with fail
            refine (HS3.out _).mono ?_
            rintro e v3 ⟨a3, k3, rfl, hb, hN⟩
            have B3 := Lib.hid (B2.out.trans (hb.mono B2.out.size))
            have K3 := Lib.hid (K2.out.below hb (Nat.le_refl _))
            have hz3 := hb.size
            have M3 := Lib.hid hN.row
            clear hb hN
            go_wp2_with fail
            refine (HC3.out _).mono ?_
            rintro e v4 ⟨rfl, hb⟩
            have B4 := Lib.hid (B3.out.trans (hb.mono B3.out.size))
            have K4 := Lib.hid ((K3.out.below hb hz3).row (Nat.le_trans hz3 hb.size))
            have M4 := Lib.hid (SRow.next M3.out hb)
            clear hb hz3
            go_wp2_with fail
            refine (words5_c a2 a3 k2 k3 ls hl3 _ K4.out M4.out).mono ?_
            rintro e v5 ⟨rfl, hb⟩
            have B5 := Lib.hid (B4.out.trans (hb.mono B4.out.size))
            clear hb
            have R5 := Lib.hid (HR.out.next B5.out)
            rcases HE3.out with hne | ⟨rfl, rfl, rfl⟩
            case' inl => have hneb : (c3 == 0) = false := by rw [beq_eq_false_iff_ne]; exact hne
            all_goals
              go_wp2_with fail
              refine (drawCountLyndon_c a cap zs _ R5.out HZ.out HL.out).mono ?_
              rintro e v6 ⟨_, _, rfl, ⟨g6, _, rfl⟩, ⟨m6, _, rfl⟩, hb⟩
              obtain ⟨x6, c6, hI, hS⟩ := cnf g6 m6
              have B6 := Lib.hid (B5.out.trans (hb.mono B5.out.size))
              have HI6 := Lib.hid hI
              have HS6 := Lib.hid hS
              clear hb hI hS
              go_wp2_with fail
              refine (HI6.out _).mono ?_
              rintro e v7 ⟨rfl, hb⟩
              have B7 := Lib.hid (B6.out.trans (hb.mono B6.out.size))
              clear hb
              go_wp2_with fail
              refine (HS6.out _).mono ?_
              rintro e v8 ⟨rfl, hb⟩
              have B8 := Lib.hid (B7.out.trans (hb.mono B7.out.size))
              clear hb
              have R8 := Lib.hid (HR.out.next B8.out)
              go_wp2_with fail
              refine (drawNextLyndon_c a cap zs _ R8.out HZ.out HL.out).mono ?_
              rintro e v9 ⟨_, _, _, rfl, ⟨h9, _, rfl⟩, ⟨k9, _, rfl⟩, ⟨s9, hs9, rfl⟩, hb⟩
              obtain ⟨r9, c9, hI, hS⟩ := nxf h9 k9 s9 (by unfold maxLen; omega)
              have B9 := Lib.hid (B8.out.trans (hb.mono B8.out.size))
              have HI9 := Lib.hid hI
              have HS9 := Lib.hid hS
              clear hb hI hS
              go_wp2_with fail
              refine (HI9.out _).mono ?_
              rintro e v10 ⟨rfl, hb⟩
              have B10 := Lib.hid (B9.out.trans (hb.mono B9.out.size))
              clear hb
              go_wp2_with fail
              refine (HS9.out _).mono ?_
              rintro e v11 ⟨rfl, hb⟩
              have B11 := Lib.hid (B10.out.trans (hb.mono B10.out.size))
              clear hb
              have R11 := Lib.hid (HR.out.next B11.out)
              go_wp2_with fail
              refine (drawIsLyndon_c a cap zs _ R11.out HZ.out HL.out).mono ?_
              rintro e v12 ⟨_, _, rfl, ⟨i12, _, rfl⟩, ⟨s12, hs12, rfl⟩, hb⟩
              obtain ⟨b12, c12, hI, hS⟩ := isf i12 s12 (by unfold maxLen; omega)
              have B12 := Lib.hid (B11.out.trans (hb.mono B11.out.size))
              have HI12 := Lib.hid hI
              have HS12 := Lib.hid hS
              clear hb hI hS
              go_wp2_with fail
              refine (HI12.out _).mono ?_
              rintro e v13 ⟨rfl, hb⟩
              have B13 := Lib.hid (B12.out.trans (hb.mono B12.out.size))
              clear hb
              go_wp2_with fail
              refine (HS12.out _).mono ?_
              rintro e v14 ⟨rfl, hb⟩
              have B14 := Lib.hid (B13.out.trans (hb.mono B13.out.size))
              clear hb
              have q9 : (r9.toList == r9.toList) = true := by simp
              go_wp2
              go_ret
              exact ⟨rfl, B14.out⟩
          · have HX := Lib.hid hX
            have HY := Lib.hid hY
            clear hX hY HE1 HI1 HS1
            rcases K4.out with h | ⟨b, off, rfl, hbs, ht⟩
            · cases h
            have t1 : u4.cell? ⟨b, off, none⟩ = some (.string x) := ht 0 (by simp)
            have t2 : u4.cell? ⟨b, off + 1, none⟩ = some (.string y) := ht 1 (by simp)
            have hE := str_neq_same (x ++ y)
            have hE2 := str_sameF (x ++ y)
            have hlt1 : Op.bytesLess x.toList y.toList = true := hlt
            obtain ⟨hlt2, hlt3⟩ := lt_yes hlt
            have hcat : ¬ 9223372036854775807 < x.size + y.size := by omega
            clear ht
            go_wp2_with fail
            refine (HX.out _).mono ?_
            rintro e u5 ⟨rfl, rfl⟩
            go_wp2_with fail
            refine (HY.out _).mono ?_
            rintro e u6 ⟨rfl, rfl⟩
            go_wp2
            go_quiet (fail)
            have BX := Lib.hid (below_dN2 B4.out nq)
            have RX := Lib.hid (HR.out.next BX.out)
            go_wp2_with fail
            refine (drawLyndonWords_c a cap zs _ RX.out HZ.out HL.out).mono ?_
            rintro e v1 ⟨_, _, rfl, ⟨d3, _, rfl⟩, ⟨n3, _, rfl⟩, hb⟩
            obtain ⟨ls, c3, x3, c4, hl3, hc3, hI, hS, hC⟩ := lwf d3 n3
            have B1 := Lib.hid (BX.out.trans (hb.mono BX.out.size))
            have HI3 := Lib.hid hI
            have HS3 := Lib.hid hS
            have HC3 := Lib.hid hC
            have HE3 := Lib.hid hc3
            clear hb hI hS hC hc3
            go_wp2_with fail
            refine (HI3.out _).mono ?_
            rintro e v2 ⟨a2, k2, rfl, hb, hN⟩
            have B2 := Lib.hid (B1.out.trans (hb.mono B1.out.size))
            have K2 := Lib.hid hN.rowB
            clear hb hN
            go_wp2_with fail
            refine (HS3.out _).mono ?_
            rintro e v3 ⟨a3, k3, rfl, hb, hN⟩
            have B3 := Lib.hid (B2.out.trans (hb.mono B2.out.size))
            have K3 := Lib.hid (K2.out.below hb (Nat.le_refl _))
            have hz3 := hb.size
            have M3 := Lib.hid hN.row
            clear hb hN
            go_wp2_with fail
            refine (HC3.out _).mono ?_
            rintro e v4 ⟨rfl, hb⟩
            have B4 := Lib.hid (B3.out.trans (hb.mono B3.out.size))
            have K4 := Lib.hid ((K3.out.below hb hz3).row (Nat.le_trans hz3 hb.size))
            have M4 := Lib.hid (SRow.next M3.out hb)
            clear hb hz3
            go_wp2_with fail
            refine (words5_c a2 a3 k2 k3 ls hl3 _ K4.out M4.out).mono ?_
            rintro e v5 ⟨rfl, hb⟩
            have B5 := Lib.hid (B4.out.trans (hb.mono B4.out.size))
            clear hb
            have R5 := Lib.hid (HR.out.next B5.out)
            rcases HE3.out with hne | ⟨rfl, rfl, rfl⟩
            case' inl => have hneb : (c3 == 0) = false := by rw [beq_eq_false_iff_ne]; exact hne
            all_goals
              go_wp2_with fail
              refine (drawCountLyndon_c a cap zs _ R5.out HZ.out HL.out).mono ?_
              rintro e v6 ⟨_, _, rfl, ⟨g6, _, rfl⟩, ⟨m6, _, rfl⟩, hb⟩
              obtain ⟨x6, c6, hI, hS⟩ := cnf g6 m6
              have B6 := Lib.hid (B5.out.trans (hb.mono B5.out.size))
              have HI6 := Lib.hid hI
              have HS6 := Lib.hid hS
              clear hb hI hS
              go_wp2_with fail
              refine (HI6.out _).mono ?_
              rintro e v7 ⟨rfl, hb⟩
              have B7 := Lib.hid (B6.out.trans (hb.mono B6.out.size))
              clear hb
              go_wp2_with fail
              refine (HS6.out _).mono ?_
              rintro e v8 ⟨rfl, hb⟩
              have B8 := Lib.hid (B7.out.trans (hb.mono B7.out.size))
              clear hb
              have R8 := Lib.hid (HR.out.next B8.out)
              go_wp2_with fail
              refine (drawNextLyndon_c a cap zs _ R8.out HZ.out HL.out).mono ?_
              rintro e v9 ⟨_, _, _, rfl, ⟨h9, _, rfl⟩, ⟨k9, _, rfl⟩, ⟨s9, hs9, rfl⟩, hb⟩
              obtain ⟨r9, c9, hI, hS⟩ := nxf h9 k9 s9 (by unfold maxLen; omega)
              have B9 := Lib.hid (B8.out.trans (hb.mono B8.out.size))
              have HI9 := Lib.hid hI
              have HS9 := Lib.hid hS
              clear hb hI hS
              go_wp2_with fail
              refine (HI9.out _).mono ?_
              rintro e v10 ⟨rfl, hb⟩
              have B10 := Lib.hid (B9.out.trans (hb.mono B9.out.size))
              clear hb
              go_wp2_with fail
              refine (HS9.out _).mono ?_
              rintro e v11 ⟨rfl, hb⟩
              have B11 := Lib.hid (B10.out.trans (hb.mono B10.out.size))
              clear hb
              have R11 := Lib.hid (HR.out.next B11.out)
              go_wp2_with fail
              refine (drawIsLyndon_c a cap zs _ R11.out HZ.out HL.out).mono ?_
              rintro e v12 ⟨_, _, rfl, ⟨i12, _, rfl⟩, ⟨s12, hs12, rfl⟩, hb⟩
              obtain ⟨b12, c12, hI, hS⟩ := isf i12 s12 (by unfold maxLen; omega)
              have B12 := Lib.hid (B11.out.trans (hb.mono B11.out.size))
              have HI12 := Lib.hid hI
              have HS12 := Lib.hid hS
              clear hb hI hS
              go_wp2_with fail
              refine (HI12.out _).mono ?_
              rintro e v13 ⟨rfl, hb⟩
              have B13 := Lib.hid (B12.out.trans (hb.mono B12.out.size))
              clear hb
              go_wp2_with fail
              refine (HS12.out _).mono ?_
              rintro e v14 ⟨rfl, hb⟩
              have B14 := Lib.hid (B13.out.trans (hb.mono B13.out.size))
              clear hb
              have q9 : (r9.toList == r9.toList) = true := by simp
              go_wp2
              go_ret
              exact ⟨rfl, B14.out⟩
        · have hA : acc = s := HA2.out.trans hcs
          subst hA
          have hE := str_neq_same acc
          have hE2 := str_sameF acc
          clear HC hcs
          have RY := Lib.hid (HR.out.next BY.out)
          go_wp2_with fail
          refine (drawCutOf_c a cap zs _ RY.out HZ.out HL.out).mono ?_
          rintro e u1 ⟨_, _, rfl, ⟨d1, _, rfl⟩, ⟨s1, hs1, rfl⟩, hb⟩
          obtain ⟨cs, c1, hl1, hc1, hI, hS⟩ := cuf d1 s1 hs1
          have B1 := Lib.hid (BY.out.trans (hb.mono BY.out.size))
          have HI1 := Lib.hid hI
          have HS1 := Lib.hid hS
          have HE1 := Lib.hid hc1
          clear hb hI hS hc1
          go_wp2_with fail
          refine (HI1.out _).mono ?_
          rintro e u2 ⟨a2, k2, rfl, hb, hN⟩
          have B2 := Lib.hid (B1.out.trans (hb.mono B1.out.size))
          have K2 := Lib.hid hN.rowB
          clear hb hN
          go_wp2_with fail
          refine (HS1.out _).mono ?_
          rintro e u3 ⟨a3, k3, rfl, hb, hN⟩
          have B3 := Lib.hid (B2.out.trans (hb.mono B2.out.size))
          have K3 := Lib.hid (K2.out.below hb (Nat.le_refl _))
          have hz3 := hb.size
          have M3 := Lib.hid hN.row
          clear hb hN
          go_wp2_with fail
          refine (words5_c a2 a3 k2 k3 cs (by omega) _ (K3.out.row hz3) M3.out).mono ?_
          rintro e u4 ⟨rfl, hb⟩
          have B4 := Lib.hid (B3.out.trans (hb.mono B3.out.size))
          have K4 := Lib.hid ((K3.out.below hb hz3).row (Nat.le_trans hz3 hb.size))
          clear hb hz3
          rcases HE1.out with hne | ⟨rfl, x, y, rfl, hx, hy, hX, hY, rfl, hlt⟩
          · have hneb : (c1 == 0) = false := by rw [beq_eq_false_iff_ne]; exact hne
            have BX := B4
            clear HE1 HI1 HS1
            have RX := Lib.hid (HR.out.next BX.out)
            go_wp2_with fail
            refine (drawLyndonWords_c a cap zs _ RX.out HZ.out HL.out).mono ?_
            rintro e v1 ⟨_, _, rfl, ⟨d3, _, rfl⟩, ⟨n3, _, rfl⟩, hb⟩
            obtain ⟨ls, c3, x3, c4, hl3, hc3, hI, hS, hC⟩ := lwf d3 n3
            have B1 := Lib.hid (BX.out.trans (hb.mono BX.out.size))
            have HI3 := Lib.hid hI
            have HS3 := Lib.hid hS
            have HC3 := Lib.hid hC
            have HE3 := Lib.hid hc3
            clear hb hI hS hC hc3
            go_wp2_with fail
            refine (HI3.out _).mono ?_
            rintro e v2 ⟨a2, k2, rfl, hb, hN⟩
            have B2 := Lib.hid (B1.out.trans (hb.mono B1.out.size))
            have K2 := Lib.hid hN.rowB
            clear hb hN
            go_wp2_with fail
            refine (HS3.out _).mono ?_
            rintro e v3 ⟨a3, k3, rfl, hb, hN⟩
            have B3 := Lib.hid (B2.out.trans (hb.mono B2.out.size))
            have K3 := Lib.hid (K2.out.below hb (Nat.le_refl _))
            have hz3 := hb.size
            have M3 := Lib.hid hN.row
            clear hb hN
            go_wp2_with fail
            refine (HC3.out _).mono ?_
            rintro e v4 ⟨rfl, hb⟩
            have B4 := Lib.hid (B3.out.trans (hb.mono B3.out.size))
            have K4 := Lib.hid ((K3.out.below hb hz3).row (Nat.le_trans hz3 hb.size))
            have M4 := Lib.hid (SRow.next M3.out hb)
            clear hb hz3
            go_wp2_with fail
            refine (words5_c a2 a3 k2 k3 ls hl3 _ K4.out M4.out).mono ?_
            rintro e v5 ⟨rfl, hb⟩
            have B5 := Lib.hid (B4.out.trans (hb.mono B4.out.size))
            clear hb
            have R5 := Lib.hid (HR.out.next B5.out)
            rcases HE3.out with hne | ⟨rfl, rfl, rfl⟩
            case' inl => have hneb : (c3 == 0) = false := by rw [beq_eq_false_iff_ne]; exact hne
            all_goals
              go_wp2_with fail
              refine (drawCountLyndon_c a cap zs _ R5.out HZ.out HL.out).mono ?_
              rintro e v6 ⟨_, _, rfl, ⟨g6, _, rfl⟩, ⟨m6, _, rfl⟩, hb⟩
              obtain ⟨x6, c6, hI, hS⟩ := cnf g6 m6
              have B6 := Lib.hid (B5.out.trans (hb.mono B5.out.size))
              have HI6 := Lib.hid hI
              have HS6 := Lib.hid hS
              clear hb hI hS
              go_wp2_with fail
              refine (HI6.out _).mono ?_
              rintro e v7 ⟨rfl, hb⟩
              have B7 := Lib.hid (B6.out.trans (hb.mono B6.out.size))
              clear hb
              go_wp2_with fail
              refine (HS6.out _).mono ?_
              rintro e v8 ⟨rfl, hb⟩
              have B8 := Lib.hid (B7.out.trans (hb.mono B7.out.size))
              clear hb
              have R8 := Lib.hid (HR.out.next B8.out)
              go_wp2_with fail
              refine (drawNextLyndon_c a cap zs _ R8.out HZ.out HL.out).mono ?_
              rintro e v9 ⟨_, _, _, rfl, ⟨h9, _, rfl⟩, ⟨k9, _, rfl⟩, ⟨s9, hs9, rfl⟩, hb⟩
              obtain ⟨r9, c9, hI, hS⟩ := nxf h9 k9 s9 (by unfold maxLen; omega)
              have B9 := Lib.hid (B8.out.trans (hb.mono B8.out.size))
              have HI9 := Lib.hid hI
              have HS9 := Lib.hid hS
              clear hb hI hS
              go_wp2_with fail
              refine (HI9.out _).mono ?_
              rintro e v10 ⟨rfl, hb⟩
              have B10 := Lib.hid (B9.out.trans (hb.mono B9.out.size))
              clear hb
              go_wp2_with fail
              refine (HS9.out _).mono ?_
              rintro e v11 ⟨rfl, hb⟩
              have B11 := Lib.hid (B10.out.trans (hb.mono B10.out.size))
              clear hb
              have R11 := Lib.hid (HR.out.next B11.out)
              go_wp2_with fail
              refine (drawIsLyndon_c a cap zs _ R11.out HZ.out HL.out).mono ?_
              rintro e v12 ⟨_, _, rfl, ⟨i12, _, rfl⟩, ⟨s12, hs12, rfl⟩, hb⟩
              obtain ⟨b12, c12, hI, hS⟩ := isf i12 s12 (by unfold maxLen; omega)
              have B12 := Lib.hid (B11.out.trans (hb.mono B11.out.size))
              have HI12 := Lib.hid hI
              have HS12 := Lib.hid hS
              clear hb hI hS
              go_wp2_with fail
              refine (HI12.out _).mono ?_
              rintro e v13 ⟨rfl, hb⟩
              have B13 := Lib.hid (B12.out.trans (hb.mono B12.out.size))
              clear hb
              go_wp2_with fail
              refine (HS12.out _).mono ?_
              rintro e v14 ⟨rfl, hb⟩
              have B14 := Lib.hid (B13.out.trans (hb.mono B13.out.size))
              clear hb
              have q9 : (r9.toList == r9.toList) = true := by simp
              go_wp2
              go_ret
              exact ⟨rfl, B14.out⟩
          · have HX := Lib.hid hX
            have HY := Lib.hid hY
            clear hX hY HE1 HI1 HS1
            rcases K4.out with h | ⟨b, off, rfl, hbs, ht⟩
            · cases h
            have t1 : u4.cell? ⟨b, off, none⟩ = some (.string x) := ht 0 (by simp)
            have t2 : u4.cell? ⟨b, off + 1, none⟩ = some (.string y) := ht 1 (by simp)
            have hE := str_neq_same (x ++ y)
            have hE2 := str_sameF (x ++ y)
            have hlt1 : Op.bytesLess x.toList y.toList = true := hlt
            obtain ⟨hlt2, hlt3⟩ := lt_yes hlt
            have hcat : ¬ 9223372036854775807 < x.size + y.size := by omega
            clear ht
            go_wp2_with fail
            refine (HX.out _).mono ?_
            rintro e u5 ⟨rfl, rfl⟩
            go_wp2_with fail
            refine (HY.out _).mono ?_
            rintro e u6 ⟨rfl, rfl⟩
            go_wp2
            go_quiet (fail)
            have BX := Lib.hid (below_dN2 B4.out nq)
            have RX := Lib.hid (HR.out.next BX.out)
            go_wp2_with fail
            refine (drawLyndonWords_c a cap zs _ RX.out HZ.out HL.out).mono ?_
            rintro e v1 ⟨_, _, rfl, ⟨d3, _, rfl⟩, ⟨n3, _, rfl⟩, hb⟩
            obtain ⟨ls, c3, x3, c4, hl3, hc3, hI, hS, hC⟩ := lwf d3 n3
            have B1 := Lib.hid (BX.out.trans (hb.mono BX.out.size))
            have HI3 := Lib.hid hI
            have HS3 := Lib.hid hS
            have HC3 := Lib.hid hC
            have HE3 := Lib.hid hc3
            clear hb hI hS hC hc3
            go_wp2_with fail
            refine (HI3.out _).mono ?_
            rintro e v2 ⟨a2, k2, rfl, hb, hN⟩
            have B2 := Lib.hid (B1.out.trans (hb.mono B1.out.size))
            have K2 := Lib.hid hN.rowB
            clear hb hN
            go_wp2_with fail
            refine (HS3.out _).mono ?_
            rintro e v3 ⟨a3, k3, rfl, hb, hN⟩
            have B3 := Lib.hid (B2.out.trans (hb.mono B2.out.size))
            have K3 := Lib.hid (K2.out.below hb (Nat.le_refl _))
            have hz3 := hb.size
            have M3 := Lib.hid hN.row
            clear hb hN
            go_wp2_with fail
            refine (HC3.out _).mono ?_
            rintro e v4 ⟨rfl, hb⟩
            have B4 := Lib.hid (B3.out.trans (hb.mono B3.out.size))
            have K4 := Lib.hid ((K3.out.below hb hz3).row (Nat.le_trans hz3 hb.size))
            have M4 := Lib.hid (SRow.next M3.out hb)
            clear hb hz3
            go_wp2_with fail
            refine (words5_c a2 a3 k2 k3 ls hl3 _ K4.out M4.out).mono ?_
            rintro e v5 ⟨rfl, hb⟩
            have B5 := Lib.hid (B4.out.trans (hb.mono B4.out.size))
            clear hb
            have R5 := Lib.hid (HR.out.next B5.out)
            rcases HE3.out with hne | ⟨rfl, rfl, rfl⟩
            case' inl => have hneb : (c3 == 0) = false := by rw [beq_eq_false_iff_ne]; exact hne
            all_goals
              go_wp2_with fail
              refine (drawCountLyndon_c a cap zs _ R5.out HZ.out HL.out).mono ?_
              rintro e v6 ⟨_, _, rfl, ⟨g6, _, rfl⟩, ⟨m6, _, rfl⟩, hb⟩
              obtain ⟨x6, c6, hI, hS⟩ := cnf g6 m6
              have B6 := Lib.hid (B5.out.trans (hb.mono B5.out.size))
              have HI6 := Lib.hid hI
              have HS6 := Lib.hid hS
              clear hb hI hS
              go_wp2_with fail
              refine (HI6.out _).mono ?_
              rintro e v7 ⟨rfl, hb⟩
              have B7 := Lib.hid (B6.out.trans (hb.mono B6.out.size))
              clear hb
              go_wp2_with fail
              refine (HS6.out _).mono ?_
              rintro e v8 ⟨rfl, hb⟩
              have B8 := Lib.hid (B7.out.trans (hb.mono B7.out.size))
              clear hb
              have R8 := Lib.hid (HR.out.next B8.out)
              go_wp2_with fail
              refine (drawNextLyndon_c a cap zs _ R8.out HZ.out HL.out).mono ?_
              rintro e v9 ⟨_, _, _, rfl, ⟨h9, _, rfl⟩, ⟨k9, _, rfl⟩, ⟨s9, hs9, rfl⟩, hb⟩
              obtain ⟨r9, c9, hI, hS⟩ := nxf h9 k9 s9 (by unfold maxLen; omega)
              have B9 := Lib.hid (B8.out.trans (hb.mono B8.out.size))
              have HI9 := Lib.hid hI
              have HS9 := Lib.hid hS
              clear hb hI hS
              go_wp2_with fail
              refine (HI9.out _).mono ?_
              rintro e v10 ⟨rfl, hb⟩
              have B10 := Lib.hid (B9.out.trans (hb.mono B9.out.size))
              clear hb
              go_wp2_with fail
              refine (HS9.out _).mono ?_
              rintro e v11 ⟨rfl, hb⟩
              have B11 := Lib.hid (B10.out.trans (hb.mono B10.out.size))
              clear hb
              have R11 := Lib.hid (HR.out.next B11.out)
              go_wp2_with fail
              refine (drawIsLyndon_c a cap zs _ R11.out HZ.out HL.out).mono ?_
              rintro e v12 ⟨_, _, rfl, ⟨i12, _, rfl⟩, ⟨s12, hs12, rfl⟩, hb⟩
              obtain ⟨b12, c12, hI, hS⟩ := isf i12 s12 (by unfold maxLen; omega)
              have B12 := Lib.hid (B11.out.trans (hb.mono B11.out.size))
              have HI12 := Lib.hid hI
              have HS12 := Lib.hid hS
              clear hb hI hS
              go_wp2_with fail
              refine (HI12.out _).mono ?_
              rintro e v13 ⟨rfl, hb⟩
              have B13 := Lib.hid (B12.out.trans (hb.mono B12.out.size))
              clear hb
              go_wp2_with fail
              refine (HS12.out _).mono ?_
              rintro e v14 ⟨rfl, hb⟩
              have B14 := Lib.hid (B13.out.trans (hb.mono B13.out.size))
              clear hb
              have q9 : (r9.toList == r9.toList) = true := by simp
              go_wp2
              go_ret
              exact ⟨rfl, B14.out⟩
  · have hlb : decide (4096 < (zs.length : Int)) = true := by simp only [decide_eq_true_eq]; omega
    go_wp2_with fail
    refine (big_c a cap zs.length w).mono ?_
    rw [hlb]
    rintro e w0 ⟨rfl, rfl⟩
    go_wp2
    go_ret
    exact ⟨rfl, Below.refl _ _⟩
end Go.Proofs.Ytolbgdgoambliaa
