/-
  Power sums: contracts of PowerSum, of the model.
-/
import Derived.Test.YtncodnjnndjjaaaPwE
import Derived.BigQuiet
namespace Go.Proofs.Ytncodnjnndjjaaa
open Go.RowKit Go.Shelf

/-- a number within the limit and a code -/
def tldP (n : Int) : Value := if inB n (-mxS) mxS then .tuple #[.int .i64 n, .int .i64 0] else .tuple #[.int .i64 0, .int .i64 3]
theorem l10ToldW_c (n : Int) (w : World) : Calls Try.prog 35 #[.int .i64 n] w fun e w' => e = .returned (tldP n) ∧ w' = w := by
  cases h : inB n (-mxS) mxS with
  | true =>
    have HV := Lib.hid (show tldP n = .tuple #[.int .i64 n, .int .i64 0] from by unfold tldP; rw [h]; rfl)
    have HI := Lib.hid (show inB n (-1000000000000000) 1000000000000000 = true from h)
    clear h
    go_enter Try.func35, Try.ntmps35
    go_wp2_with (go_at_call 59; refine (l01In_c _ _ _ _).mono ?_; rw [HI.out]; rintro e w' ⟨rfl, rfl⟩)
    go_ret2
    exact ⟨by rw [HV.out]; rfl, rfl⟩
  | false =>
    have HV := Lib.hid (show tldP n = .tuple #[.int .i64 0, .int .i64 3] from by unfold tldP; rw [h]; rfl)
    have HI := Lib.hid (show inB n (-1000000000000000) 1000000000000000 = false from h)
    clear h
    go_enter Try.func35, Try.ntmps35
    go_wp2_with (go_at_call 59; refine (l01In_c _ _ _ _).mono ?_; rw [HI.out]; rintro e w' ⟨rfl, rfl⟩)
    go_ret2
    exact ⟨by rw [HV.out]; rfl, rfl⟩

section
variable (lo hi lo2 hi2 : Nat) (a a2 : Option Addr) (cap cap2 : Nat) (z q : List Int) (hl : z.length ≤ 1048576) (hl2 : q.length ≤ 1048576) (w : World) (hr : IRow lo hi w a z) (hh : hi ≤ w.heap.size) (hr2 : IRow lo2 hi2 w a2 q) (hh2 : hi2 ≤ w.heap.size)
include hl hl2 hr hh hr2 hh2
set_option maxHeartbeats 2000000 in
theorem sPow_1 (hn : listB z = false ∨ (listB z = true ∧ partsB 6 q = false)) :
    Calls Try.prog 17 #[.slice a z.length cap, .slice a2 q.length cap2] w fun e w' => e = .returned (.tuple #[.int .i64 0, .int .i64 2]) ∧ Below w.heap.size w w' := by
  have _ := hh
  have _ := hh2
  have HL := Lib.hid (l10List_c lo hi a cap z hl w hr 0 (.inl rfl))
  rw [lstB_0] at HL
  have HP := Lib.hid (l10Parts_c lo2 hi2 a2 cap2 q hl2 w hr2 6)
  clear hr hr2
  rcases hn with h1 | ⟨h1, h2⟩
  · have H1 := Lib.hid h1
    clear h1
    go_enter Try.func17, Try.ntmps17
    go_wp2_with (first | (go_at_call 40; refine HL.out.mono ?_; rw [H1.out]; rintro e w' ⟨rfl, rfl⟩))
    go_ret2
    exact ⟨rfl, Below.refl _ _⟩
  · have H1 := Lib.hid h1
    have H2 := Lib.hid h2
    clear h1 h2
    go_enter Try.func17, Try.ntmps17
    go_wp2_with (first | (go_at_call 40; refine HL.out.mono ?_; rw [H1.out]; rintro e w' ⟨rfl, rfl⟩) | (go_at_call 41; refine HP.out.mono ?_; rw [H2.out]; rintro e w' ⟨rfl, rfl⟩))
    go_ret2
    exact ⟨rfl, Below.refl _ _⟩

set_option maxRecDepth 100000 in
set_option maxHeartbeats 8000000 in
theorem sPow_2 (h1 : listB z = true) (h2 : partsB 6 q = true) :
    Calls Try.prog 17 #[.slice a z.length cap, .slice a2 q.length cap2] w fun e w' => e = .returned (powP (psL z (bwA q))) ∧ Below w.heap.size w w' := by
  have hz := listB_true h1
  have hq := partsB_true h2
  obtain ⟨O, hmk, hmade⟩ := make_ints (z.length + 1) (by omega)
  have HM := Lib.hid hmade
  have HL := Lib.hid (l10List_c lo hi a cap z hl w hr 0 (.inl rfl))
  rw [lstB_0] at HL
  have HP := Lib.hid (l10Parts_c lo2 hi2 a2 cap2 q hl2 w hr2 6)
  have HR := Lib.hid hr
  have HR2 := Lib.hid hr2
  have H1 := Lib.hid h1
  have H2 := Lib.hid h2
  have HQ := Lib.hid hq.2
  have HZ := Lib.hid hz.2
  have hzl := hz.1
  have hql := hq.1
  clear hr hr2 h1 h2 hmade hz hq
  have k0 : IntKind.i64.wrap ((z.length : Int) + 1) = (z.length : Int) + 1 := IntWalk.i64_in _ (by omega)
  have k1 : IntKind.i64.wrap ((z.length : Int) - 1) = (z.length : Int) - 1 := IntWalk.i64_in _ (by omega)
  have k2 : IntKind.i64.wrap ((q.length : Int) - 1) = (q.length : Int) - 1 := IntWalk.i64_in _ (by omega)
  have hmk' : ∀ W : World, (Instr.makeSlice 29 (.int .i64 ((z.length : Int) + 1)) (.int .i64 ((z.length : Int) + 1))).run Try.prog W = .ok (.slice (some ⟨W.heap.size, 0, none⟩) (z.length + 1) (z.length + 1)) (W.alloc O) := fun W => hmk W
  clear hmk
  go_enter Try.func17, Try.ntmps17
  go_wp2_with (first | (go_at_call 40; refine HL.out.mono ?_; rw [H1.out]; rintro e w' ⟨rfl, rfl⟩) | (go_at_call 41; refine HP.out.mono ?_; rw [H2.out]; rintro e w' ⟨rfl, rfl⟩) | fail)
  go_loopw [8] (fun vi wr => ∃ k : Nat, k ≤ z.length + 1 ∧ vi = .int .i64 k ∧ Below w.heap.size w wr ∧ Made wr w.heap.size (z.length + 1) ∧ ∀ j, j < k → wr.cell? ⟨w.heap.size, j, none⟩ = some (.int .i64 1)) (fun vi _ => z.length + 1 - (intOf vi).toNat)
  case atStart => exact ⟨0, Nat.zero_le _, rfl, below1 _ _, (HM.out w).1, fun j hj => absurd hj (Nat.not_lt_zero _)⟩
  case round =>
    obtain ⟨k, hk, rfl, hB, hMd, hV⟩ := hrel
    have HB := Lib.hid hB
    have HMd := Lib.hid hMd
    have HV := Lib.hid hV
    have hgs := hMd.1
    clear hB hMd hV
    by_cases hlt : k < z.length + 1
    · obtain ⟨⟨v0, m0⟩, z0⟩ := HMd.out.2 k hlt
      have e0 : (0 : Int) ≤ (k : Int) := by omega
      have e1 : (k : Int) < (z.length : Int) + 1 := by omega
      have e2 : (k : Int) ≤ (z.length : Int) := by omega
      go_wp2
      go_roundw
      case rel =>
        refine ⟨k + 1, by omega, by go_num, HB.out.setCell (p := ⟨w.heap.size, k, none⟩) (Nat.le_refl _) _, HMd.out.set _ _, fun j hj => ?_⟩
        by_cases e : j = k
        · subst e
          exact World.cell?_setCell_same _ _ _ m0
        · rw [World.cell?_setCell_other _ _ _ _ (fun e2 => e (by injection e2 with _ e3; exact e3.symm))]
          exact HV.out j (by omega)
      case measure => simp [intOf]; omega
    · obtain rfl : k = z.length + 1 := by omega
      have e2 : ¬ ((z.length + 1 : Nat) : Int) ≤ (z.length : Int) := by omega
      have e3 : ¬ (z.length : Int) + 1 ≤ (z.length : Int) := by omega
      have hI0 : IntsIn wr w.heap.size 0 (List.replicate (z.length + 1) 1) := fun j hj => by
        rw [Nat.zero_add, List.getElem_replicate]
        exact HV.out j (by simpa using hj)
      have HI0 := Lib.hid hI0
      clear hI0 HV HMd
      obtain ⟨W0, rfl⟩ : ∃ W0 : World, W0 = wr := ⟨_, rfl⟩
      go_wp2_with fail
      go_loopw [7, 9] (fun v7 v9 wr => ∃ (j : Nat) (hj : j ≤ q.length) (F : List Int) (g : Nat), v9 = .int .i64 ((q.length : Int) - 1 - j) ∧ v7 = .slice (some ⟨g, 0, none⟩) (z.length + 1) (z.length + 1) ∧ psL z (bwd q j hj) = some F ∧ IntsIn wr g 0 F ∧ g < wr.heap.size ∧ Below w.heap.size w wr) (fun _ v9 _ => (intOf v9 + 1).toNat)
      case atStart => exact ⟨0, Nat.zero_le _, _, w.heap.size, by simp, rfl, rfl, HI0.out, hgs, HB.out⟩
      case round =>
        obtain ⟨j, hj, F, g, rfl, rfl, hF, hIF, hgF, hBr⟩ := hrel
        have HF := Lib.hid hF
        have HIF := Lib.hid hIF
        have HBr := Lib.hid hBr
        have hzr := hBr.size
        clear hF hIF hBr
        by_cases hlt : j < q.length
        · have hlt' : q.length - 1 - j < q.length := by omega
          obtain ⟨x, hx⟩ : ∃ x : Plc q, plc q (q.length - 1 - j) hlt' = x := ⟨_, rfl⟩
          obtain ⟨⟨k, pp⟩, hk, hpp⟩ := x
          have hxk : q.length - 1 - j = k := congrArg (fun y : Plc q => y.1.1) hx
          simp only at hk hpp
          have hpb := HQ.out pp (by rw [← hpp]; exact List.getElem_mem hk)
          obtain ⟨p, rfl⟩ : ∃ p : Nat, pp = p := ⟨pp.toNat, by omega⟩
          have hkk : (q.length : Int) - 1 - j = (k : Int) := by omega
          rw [hkk]
          have hsn : psL z (bwd q (j + 1) hlt) = swL z p F (bwA z) := by
            rw [bwd, hx, psL_snoc, HF.out]
            simp only [Option.bind_some, Int.toNat_natCast]
          have HSn := Lib.hid hsn
          have hgF' := psL_good HF.out
          have HG := Lib.hid hgF'
          rcases HR2.out with h0 | ⟨b2, o2, rfl, _, hb2, hi2'⟩
          · rw [h0] at hk; simp at hk
          have c2 := hi2'.below HBr.out (by omega) k hk
          rw [hpp] at c2
          have e4 : (0 : Int) ≤ (k : Int) := by omega
          have e5 : (k : Int) < (q.length : Int) := by omega
          have k4 : IntKind.i64.wrap ((k : Int) - 1) = (k : Int) - 1 := IntWalk.i64_in _ (by omega)
          have hM5 := HM.out wr
          have HM5 := Lib.hid hM5
          have hB5 := below1 wr O
          have c3 := (hB5.cell (p := ⟨b2, o2 + k, none⟩) (by show b2 < _; omega)).trans c2
          clear hsn hgF' hi2' hx hpp hM5 hB5
          obtain ⟨W1, rfl⟩ : ∃ W1 : World, W1 = wr := ⟨_, rfl⟩
          go_wp2_with fail
          go_loopw [11] (fun v11 ws => ∃ (c : Nat) (hc : c ≤ z.length) (F' : List Int), v11 = .int .i64 ((z.length : Int) - 1 - c) ∧ swL z p F (bwd z c hc) = some F' ∧ Made ws W1.heap.size (z.length + 1) ∧ IntsIn ws W1.heap.size 0 F' ∧ Below W1.heap.size W1 ws) (fun v11 _ => (intOf v11 + 1).toNat)
          case atStart => exact ⟨0, Nat.zero_le _, _, by simp, rfl, HM5.out.1, HM5.out.2, below1 _ _⟩
          case round =>
            obtain ⟨c, hc, F', rfl, hF', hMd, hI', hB'⟩ := hrel
            have HF' := Lib.hid hF'
            have HMd := Lib.hid hMd
            have HI' := Lib.hid hI'
            have HB' := Lib.hid hB'
            have hzs := hB'.size
            have hgs2 := hMd.1
            clear hF' hMd hI' hB'
            by_cases hlt2 : c < z.length
            · have hlt2' : z.length - 1 - c < z.length := by omega
              obtain ⟨x, hx⟩ : ∃ x : Plc z, plc z (z.length - 1 - c) hlt2' = x := ⟨_, rfl⟩
              obtain ⟨⟨i, v⟩, hi, hv⟩ := x
              have hxi : z.length - 1 - c = i := congrArg (fun y : Plc z => y.1.1) hx
              simp only at hi hv
              have hvb := HZ.out v (by rw [← hv]; exact List.getElem_mem hi)
              have hii : (z.length : Int) - 1 - c = (i : Int) := by omega
              rw [hii]
              have hgn := swL_good HF'.out
              have hln := hgn.1
              have hlb := HG.out.1
              have hst : swL z p F (bwd z (c + 1) hlt2) = (addW (F'.getD (i + 1) 0) (v ^ p) (F.getD (i + 1) 0)).map (fun u => F'.set i u) := by
                rw [bwd, hx, swL_snoc, HF'.out]
                rfl
              have hf1 := hgn.get (i + 1)
              have hb1 := HG.out.get (i + 1)
              have hy := ipow_bd hvb (k := p) (by omega)
              have HRw := HR.out.below (HBr.out.trans (HB'.out.mono (by omega))) hh
              rcases HRw with h0 | ⟨b3, o3, rfl, _, hb3, hi3'⟩
              · rw [h0] at hi; simp at hi
              have c4 := hi3' i hi
              rw [hv] at c4
              have c5 := (HB'.out.cell (p := ⟨b2, o2 + k, none⟩) (by show b2 < _; omega)).trans c2
              have c6 := (HIF.out.below HB'.out hgF) (i + 1) (by omega)
              have c7 := HI'.out (i + 1) (by omega)
              rw [Nat.zero_add] at c6 c7
              have g1 : F'.getD (i + 1) 0 = F'[i + 1]'(by omega) := by simp [List.getD, show i + 1 < F'.length by omega]
              have g2 : F.getD (i + 1) 0 = F[i + 1]'(by omega) := by simp [List.getD, show i + 1 < F.length by omega]
              rw [← g2] at c6
              rw [← g1] at c7
              obtain ⟨f1, e1⟩ : ∃ f1, F'.getD (i + 1) 0 = f1 := ⟨_, rfl⟩
              obtain ⟨b1, e2'⟩ : ∃ b1, F.getD (i + 1) 0 = b1 := ⟨_, rfl⟩
              rw [e1] at c7 hf1 hst
              rw [e2'] at c6 hb1 hst
              have HSt := Lib.hid hst
              have e7 : (0 : Int) ≤ (i : Int) := by omega
              have e8 : (i : Int) < (z.length : Int) := by omega
              have e9 : (i : Int) + 1 < (z.length : Int) + 1 := by omega
              have e10 : (0 : Int) ≤ (i : Int) + 1 := by omega
              have e11 : ((i : Int) + 1).toNat = i + 1 := by omega
              have e12 : (i : Int) < (z.length : Int) + 1 := by omega
              have k5 : IntKind.i64.wrap ((i : Int) + 1) = (i : Int) + 1 := IntWalk.i64_in _ (by omega)
              have k6 : IntKind.i64.wrap ((i : Int) - 1) = (i : Int) - 1 := IntWalk.i64_in _ (by omega)
              have HVb := Lib.hid hvb
              have HLn := Lib.hid hln
              clear hst g1 g2 e1 e2' hx hv hgn hln hlb hi3' hvb
              go_wp2_with fail
              go_loop [12, 13] (fun v12 v13 => ∃ e : Nat, e ≤ p ∧ v12 = .int .i64 (v ^ e) ∧ v13 = .int .i64 e) (fun _ v13 => p - (intOf v13).toNat)
              case atStart => exact ⟨0, Nat.zero_le _, by rw [Int.pow_zero], rfl⟩
              case round =>
                obtain ⟨e, he, rfl, rfl⟩ := hrel
                by_cases hep : e < p
                · have h1 := ipow_bd HVb.out (k := e + 1) (by omega)
                  have hs : v ^ e * v = v ^ (e + 1) := (Int.pow_succ v e).symm
                  obtain ⟨t, ht⟩ : ∃ t, v ^ e = t := ⟨_, rfl⟩
                  obtain ⟨r, hr⟩ : ∃ r, v ^ (e + 1) = r := ⟨_, rfl⟩
                  rw [ht, hr] at hs
                  rw [hr] at h1
                  rw [ht]
                  have HRr := Lib.hid hr
                  have k7 : IntKind.i64.wrap (t * v) = r := by rw [hs]; exact IntWalk.i64_in _ (by omega)
                  clear ht hr hs
                  go_wp2
                  go_round
                  case rel => exact ⟨e + 1, by omega, by rw [HRr.out], by go_num⟩
                  case measure => simp [intOf]; omega
                · obtain rfl : e = p := by omega
                  obtain ⟨y, hyy⟩ : ∃ y, v ^ e = y := ⟨_, rfl⟩
                  rw [hyy] at hy HSt ⊢
                  clear hyy
                  have hM : mxS = 1000000000000000 := rfl
                  obtain ⟨zz, hzz⟩ : ∃ zz, max y (-y) = zz := ⟨_, rfl⟩
                  obtain ⟨bb, hbb⟩ : ∃ bb, max b1 (-b1) = bb := ⟨_, rfl⟩
                  have hzb : 0 ≤ zz ∧ zz ≤ 10000000000 := by omega
                  have k7 : IntKind.i64.wrap (-y) = -y := IntWalk.i64_in _ (by omega)
                  have k8 : IntKind.i64.wrap (-b1) = -b1 := IntWalk.i64_in _ (by omega)
                  have HG1 := Lib.hid (fun h => mulW_bd (a := y) hb1 h)
                  have HA1 := Lib.hid (fun h1 h2 => addW_1 (s := f1) (a := y) (b := b1) h1 h2)
                  have HA2 := Lib.hid (fun h1 h2 => addW_2 (s := f1) (a := y) (b := b1) h1 h2)
                  have HA3 := Lib.hid (fun h1 h2 => addW_3 (s := f1) (a := y) (b := b1) h1 h2)
                  rw [hzz] at HG1 HA1 HA2 HA3
                  by_cases hy0 : y = 0
                  · have hz0 : ¬ 0 < zz := by omega
                    have hno : ¬ (0 < zz ∧ inB b1 (-(mxS / zz)) (mxS / zz) = false) := fun h => hz0 h.1
                    have q1 : (y != 0) = false := by simp [hy0]
                    have HY0 := Lib.hid hy0
                    clear hy0
                    have hab := HG1.out hno
                    obtain ⟨pr, hpr⟩ : ∃ pr, y * b1 = pr := ⟨_, rfl⟩
                    have HA2' := Lib.hid (HA2.out hno)
                    have HA3' := Lib.hid (HA3.out hno)
                    rw [hpr] at hab HA2' HA3'
                    have k9 : IntKind.i64.wrap (y * b1) = pr := by rw [hpr]; exact IntWalk.i64_in _ (by omega)
                    have k10 : IntKind.i64.wrap (f1 + pr) = f1 + pr := IntWalk.i64_in _ (by omega)
                    have hB9 : Below w.heap.size w wr := HBr.out.trans (HB'.out.mono hzr)
                    have HB9 := Lib.hid hB9
                    have HToldP := Lib.hid (fun W => l10ToldW_c (f1 + pr) W)
                    cases hin : inB (f1 + pr) (-mxS) mxS with
                    | false =>
                      have ha := HA2'.out hin
                      have HNo : Hid (powP (psL z (bwA q)) = .tuple #[.int .i64 0, .int .i64 3]) := Lib.hid (by
                        have h1 : swL z e F (bwA z) = none := swL_stop hlt2 (HSt.out.trans (by rw [ha]; rfl))
                        have h2 : psL z (bwA q) = none := psL_stop hlt (HSn.out.trans h1)
                        rw [h2]; rfl)
                      have HTl := Lib.hid (show tldP (f1 + pr) = .tuple #[.int .i64 0, .int .i64 3] from by unfold tldP; rw [hin]; rfl)
                      rw [HTl.out] at HToldP
                      clear hM hzb hab hno hin ha hpr HG1 HA1 HA2 HA3 HA2' HA3' hf1 hb1 hy hB9
                      go_wp2_with fail
                      go_quiet (fail)
                      go_wp2_with fail
                      go_quiet ((go_at_call 35; refine (HToldP.out _).mono ?_; rintro e w' ⟨rfl, rfl⟩; exact ⟨rfl, _, rfl⟩))
                      go_wp2
                      go_ret2
                      exact ⟨by rw [HNo.out]; rfl, below_drewN HB9.out _⟩
                    | true =>
                      have ha := HA3'.out hin
                      have HNx : Hid (swL z e F (bwd z (c + 1) hlt2) = some (F'.set i (f1 + pr))) := Lib.hid (by rw [HSt.out, ha]; rfl)
                      have HTl := Lib.hid (show tldP (f1 + pr) = .tuple #[.int .i64 (f1 + pr), .int .i64 0] from by unfold tldP; rw [hin]; rfl)
                      rw [HTl.out] at HToldP
                      obtain ⟨⟨v0, m0⟩, z0⟩ := HMd.out.2 i (by omega)
                      clear hM hzb hab hno hin ha hpr HG1 HA1 HA2 HA3 HA2' HA3' hf1 hb1 hy hB9
                      go_wp2_with fail
                      go_quiet (fail)
                      go_wp2_with fail
                      go_quiet ((go_at_call 35; refine (HToldP.out _).mono ?_; rintro e w' ⟨rfl, rfl⟩; exact ⟨rfl, _, rfl⟩))
                      go_wp2
                      go_roundw
                      case rel => exact ⟨c + 1, hlt2, _, by rw [show (i : Int) - 1 = (z.length : Int) - 1 - ((c + 1 : Nat) : Int) from by omega], HNx.out, HMd.out.set _ _, HI'.out.upd (by rw [HLn.out]; exact HMd.out) (by rw [HLn.out]; omega) _, (below_drewN HB'.out _).setCell (p := ⟨W1.heap.size, i, none⟩) (Nat.le_refl _) _⟩
                      case measure => simp [intOf]
                  · have hz0 : 0 < zz := by omega
                    obtain ⟨m, hm⟩ : ∃ m, mxS / zz = m := ⟨_, rfl⟩
                    have hmb : 0 ≤ m ∧ m ≤ 1000000000000000 := by
                      have h1 : 0 ≤ mxS / zz := Int.ediv_nonneg (by decide) (by omega)
                      have h2 : mxS / zz ≤ mxS := Int.ediv_le_self _ (by decide)
                      omega
                    have q2 := tdiv_pos_pos zz
                    rw [hm] at q2 HG1 HA1 HA2 HA3
                    have q1 : (y != 0) = true := by simp [hy0]
                    have q0 : zz ≠ 0 := by omega
                    have n3 : IntKind.i64.wrap (Int.tdiv 1000000000000000 zz) = m := by rw [q2]; exact IntWalk.i64_in _ (by omega)
                    have n4 : 1000000000000000 / zz = m := hm
                    clear q2 hm
                    by_cases hgt : m < bb
                    · have hbi : inB b1 (-m) m = false := inB_no (by omega)
                      have ha := HA1.out hz0 hbi
                      have HNo : Hid (powP (psL z (bwA q)) = .tuple #[.int .i64 0, .int .i64 3]) := Lib.hid (by
                        have h1 : swL z e F (bwA z) = none := swL_stop hlt2 (HSt.out.trans (by rw [ha]; rfl))
                        have h2 : psL z (bwA q) = none := psL_stop hlt (HSn.out.trans h1)
                        rw [h2]; rfl)
                      have HB9 := Lib.hid (HBr.out.trans (HB'.out.mono hzr))
                      clear hM hzb hmb hbi ha HG1 HA1 HA2 HA3 hf1 hb1 hy
                      go_wp2_with fail
                      go_quiet (fail)
                      go_wp2
                      go_ret2
                      exact ⟨by rw [HNo.out]; rfl, below_drewN HB9.out _⟩
                    · have hno : ¬ (0 < zz ∧ inB b1 (-m) m = false) := fun h => by
                        have h2 := inB_false h.2
                        omega
                      have hab := HG1.out hno
                      obtain ⟨pr, hpr⟩ : ∃ pr, y * b1 = pr := ⟨_, rfl⟩
                      have HA2' := Lib.hid (HA2.out hno)
                      have HA3' := Lib.hid (HA3.out hno)
                      rw [hpr] at hab HA2' HA3'
                      have k9 : IntKind.i64.wrap (y * b1) = pr := by rw [hpr]; exact IntWalk.i64_in _ (by omega)
                      have k10 : IntKind.i64.wrap (f1 + pr) = f1 + pr := IntWalk.i64_in _ (by omega)
                      have hB9 : Below w.heap.size w wr := HBr.out.trans (HB'.out.mono hzr)
                      have HB9 := Lib.hid hB9
                      have HToldP := Lib.hid (fun W => l10ToldW_c (f1 + pr) W)
                      cases hin : inB (f1 + pr) (-mxS) mxS with
                      | false =>
                        have ha := HA2'.out hin
                        have HNo : Hid (powP (psL z (bwA q)) = .tuple #[.int .i64 0, .int .i64 3]) := Lib.hid (by
                          have h1 : swL z e F (bwA z) = none := swL_stop hlt2 (HSt.out.trans (by rw [ha]; rfl))
                          have h2 : psL z (bwA q) = none := psL_stop hlt (HSn.out.trans h1)
                          rw [h2]; rfl)
                        have HTl := Lib.hid (show tldP (f1 + pr) = .tuple #[.int .i64 0, .int .i64 3] from by unfold tldP; rw [hin]; rfl)
                        rw [HTl.out] at HToldP
                        clear hM hzb hab hno hin ha hpr HG1 HA1 HA2 HA3 HA2' HA3' hf1 hb1 hy hB9
                        go_wp2_with fail
                        go_quiet (fail)
                        go_wp2_with fail
                        go_quiet ((go_at_call 35; refine (HToldP.out _).mono ?_; rintro e w' ⟨rfl, rfl⟩; exact ⟨rfl, _, rfl⟩))
                        go_wp2
                        go_ret2
                        exact ⟨by rw [HNo.out]; rfl, below_drewN HB9.out _⟩
                      | true =>
                        have ha := HA3'.out hin
                        have HNx : Hid (swL z e F (bwd z (c + 1) hlt2) = some (F'.set i (f1 + pr))) := Lib.hid (by rw [HSt.out, ha]; rfl)
                        have HTl := Lib.hid (show tldP (f1 + pr) = .tuple #[.int .i64 (f1 + pr), .int .i64 0] from by unfold tldP; rw [hin]; rfl)
                        rw [HTl.out] at HToldP
                        obtain ⟨⟨v0, m0⟩, z0⟩ := HMd.out.2 i (by omega)
                        clear hM hzb hab hno hin ha hpr HG1 HA1 HA2 HA3 HA2' HA3' hf1 hb1 hy hB9
                        go_wp2_with fail
                        go_quiet (fail)
                        go_wp2_with fail
                        go_quiet ((go_at_call 35; refine (HToldP.out _).mono ?_; rintro e w' ⟨rfl, rfl⟩; exact ⟨rfl, _, rfl⟩))
                        go_wp2
                        go_roundw
                        case rel => exact ⟨c + 1, hlt2, _, by rw [show (i : Int) - 1 = (z.length : Int) - 1 - ((c + 1 : Nat) : Int) from by omega], HNx.out, HMd.out.set _ _, HI'.out.upd (by rw [HLn.out]; exact HMd.out) (by rw [HLn.out]; omega) _, (below_drewN HB'.out _).setCell (p := ⟨W1.heap.size, i, none⟩) (Nat.le_refl _) _⟩
                        case measure => simp [intOf]
            · obtain rfl : c = z.length := by omega
              have e6 : (z.length : Int) - 1 - (z.length : Int) = -1 := by omega
              rw [e6]
              have hps : psL z (bwd q (j + 1) hlt) = some F' := HSn.out.trans HF'.out
              have HPs := Lib.hid hps
              clear hps
              go_wp2
              go_roundw
              case rel => exact ⟨j + 1, hlt, F', W1.heap.size, by rw [show (k : Int) - 1 = (q.length : Int) - 1 - ((j + 1 : Nat) : Int) from by omega], rfl, HPs.out, HI'.out, hgs2, HBr.out.trans (HB'.out.mono hzr)⟩
              case measure => simp [intOf]
        · obtain rfl : j = q.length := by omega
          have e6 : (q.length : Int) - 1 - (q.length : Int) = -1 := by omega
          rw [e6]
          have hlF := (psL_good HF.out).1
          have s6 := HIF.out 0 (by omega)
          rw [Nat.zero_add] at s6
          have hv : F.getD 0 0 = F[0]'(by omega) := by simp [List.getD, show 0 < F.length by omega]
          rw [← hv] at s6
          have e0 : (0 : Int) < (z.length : Int) + 1 := by omega
          obtain ⟨v, hv2⟩ : ∃ v, F.getD 0 0 = v := ⟨_, rfl⟩
          rw [hv2] at s6
          have HV2 : Hid (powP (psL z (bwA q)) = .tuple #[.int .i64 v, .int .i64 0]) := Lib.hid (by
            show powP (psL z (bwd q q.length (Nat.le_refl _))) = _
            rw [HF.out, ← hv2]; rfl)
          clear hv hv2
          go_wp2
          go_ret2
          exact ⟨by rw [HV2.out]; rfl, HBr.out⟩
end
end Go.Proofs.Ytncodnjnndjjaaa
