/-
  The program's ValueOfSeries, at any rows: the value of a series at tables.
-/
import Derived.Test.YtknigggjnjkhbaaFmP
import Derived.Test.YtknigggjnjkhbaaPwS
import Derived.Test.YtknigggjnjkhbaaConst
namespace Go.Proofs.Ytknigggjnjkhbaa
open Go.RowKit
set_option linter.unusedVariables false
set_option linter.unusedSimpArgs false

/-- what the value of a series comes to: a matrix of fractions in new memory, or nothing and a code -/
def ValPost (n : Nat) (o : Option QF) (W : World) (e : Ending) (w' : World) : Prop :=
  match o with
  | none => e = .returned (.tuple #[.slice none 0 0, .int .i64 3]) ∧ Below W.heap.size W w'
  | some F => ∃ (Y : Lay) (c : Nat), e = .returned (.tuple #[.slice (some ⟨Y.h, 0, none⟩) n c, .int .i64 0]) ∧ Below W.heap.size W w' ∧ FM w' W.heap.size w'.heap.size n Y F
theorem ser_wordV {L V : Int} {ts : List Tm} (h : serB L V ts = true) : ∀ t ∈ ts, wordB L t.s.data.toList = true ∧ isF t.n t.d = true := fun t ht => by
  have h1 := ser_term h t ht
  simp only [termB, Bool.and_eq_true, decide_eq_true_eq] at h1
  exact ⟨h1.1.2, h1.2.1⟩
section
variable (lo hi : Nat) (L V : Int) (aT : Option Addr) (cT : Nat) (ts : Tabs) (hl : ts.length ≤ 1048576) (hs3 : sz3 ts ≤ 1048576) (a : Option Addr) (cX : Nat) (xs : List Tm) (hlx : xs.length ≤ 1048576) (hsx : ∀ i (h : i < xs.length), (xs[i]).s.size ≤ maxLen) (w : World) (hr : TRow lo hi w aT ts) (hh : hi ≤ w.heap.size) (hx : Row w a xs)
include hl hs3 hlx hsx hr hh hx

set_option maxRecDepth 100000 in
set_option maxHeartbeats 4000000 in
theorem iVos_1 (h : (serB L V xs && tabsB L ts) = false) : Calls Try.prog 10 #[.agg #[.int .i64 L, .int .i64 V, .slice a xs.length cX], .slice aT ts.length cT] w fun e w' => e = .returned (.tuple #[.slice none 0 0, .int .i64 1]) ∧ Below w.heap.size w w' := by
  have HX := Lib.hid hx
  have HS := Lib.hid hsx
  have HR := Lib.hid hr
  have HB0 := Lib.hid (below1 w (.cells #[.int .i64 L, .int .i64 V, .slice a xs.length cX] 33))
  clear hx hsx hr
  cases h1 : serB L V xs with
  | false =>
    have H1 := Lib.hid h1
    clear h h1
    go_enter Try.func10, Try.ntmps10
    go_wp2_with fail
    refine (iIs_row L V a cX xs hlx HS.out _ (HX.out.below HB0.out)).mono ?_
    rw [H1.out]
    rintro e w1 ⟨rfl, hb1⟩
    have HB1 := Lib.hid (HB0.out.trans (hb1.mono (by simp)))
    clear hb1
    go_wp2
    go_ret2
    exact ⟨rfl, HB1.out⟩
  | true =>
    have H1 := Lib.hid h1
    rw [h1, Bool.true_and] at h
    have H2 := Lib.hid h
    clear h h1
    go_enter Try.func10, Try.ntmps10
    go_wp2_with fail
    refine (iIs_row L V a cX xs hlx HS.out _ (HX.out.below HB0.out)).mono ?_
    rw [H1.out]
    rintro e w1 ⟨rfl, hb1⟩
    have HB1 := Lib.hid (HB0.out.trans (hb1.mono (by simp)))
    have x0 : w1.cell? ⟨w.heap.size, 0, none⟩ = some (.int .i64 L) := (hb1.cell (p := ⟨w.heap.size, 0, none⟩) (by simp)).trans (by go_simp)
    clear hb1
    go_wp2_with fail
    refine (iAreT_c lo hi L aT cT ts hl hs3 w1 (HR.out.below HB1.out hh)).mono ?_
    rw [H2.out]
    rintro e w2 ⟨rfl, rfl⟩
    go_wp2
    go_ret2
    exact ⟨rfl, HB1.out⟩

set_option maxRecDepth 100000 in
set_option maxHeartbeats 8000000 in
theorem iVos_2 (h1 : serB L V xs = true) (hT : tabsB L ts = true) : Calls Try.prog 10 #[.agg #[.int .i64 L, .int .i64 V, .slice a xs.length cX], .slice aT ts.length cT] w (ValPost (wid ts) (valQ (wid ts) ts xs xs.length) w) := by
  have hq := tabs_sq hT
  obtain ⟨t1, t2, _, _⟩ := tabsB_true hT
  have hb := inB_true t1
  have hl3 : ts.length ≤ 3 := by omega
  have hpos : 0 < ts.length := by omega
  obtain ⟨b, off, a', c', ea, hc0, hI0⟩ := hr.get (Below.refl hi w) (Nat.le_refl _) hpos
  have hw0 : (ts[0]).length = wid ts := by unfold wid; rw [getD_at hpos]
  rw [hw0, Nat.add_zero] at hc0
  have hn := hq.1
  have hbw : b < w.heap.size := addr_lt hc0
  have HX := Lib.hid hx
  have HS := Lib.hid hsx
  have HR := Lib.hid hr
  have HB0 := Lib.hid (below1 w (.cells #[.int .i64 L, .int .i64 V, .slice a xs.length cX] 33))
  have H1 := Lib.hid h1
  have HTb := Lib.hid hT
  have HWd := Lib.hid (fun i (h : i < xs.length) => (show wordB L (xs[i]).s.data.toList = true ∧ (xs[i]).s.size ≤ 5 from ⟨(ser_wordV h1 _ (List.getElem_mem h)).1, ser_small h1 _ (List.getElem_mem h)⟩))
  have HFr := Lib.hid (fun i (h : i < xs.length) => (ser_wordV h1 _ (List.getElem_mem h)).2)
  have HPr := Lib.hid (fun (s : ByteArray) (hw : wordB L s.data.toList = true) (hz : s.size ≤ 5) W (hW : Below w.heap.size w W) => productAlong_c L lo hi aT cT ts hT s hw hz W (hr.below hW hh) (Nat.le_trans hh hW.size))
  have HAl := Lib.hid (fun s P (h : alongK (wid ts) ts s s.size = some P) => alongK_bd h)
  have HZ := Lib.hid (show valQ (wid ts) ts xs 0 = some zeroQ from rfl)
  have HNx := Lib.hid (fun k F (hk : k < xs.length) (h : valQ (wid ts) ts xs k = some F) => valQ_next hk h)
  have HDd := Lib.hid (fun k (hk : k < xs.length) (h : valQ (wid ts) ts xs (k + 1) = none) => valQ_dead h hk)
  have HGd := Lib.hid (fun k F (h : valQ (wid ts) ts xs k = some F) => GoodQ.val h)
  clear hq hI0 hw0 hx hsx hr h1 hT t1 t2
  subst ea
  generalize wid ts = n at *
  obtain ⟨o, ho⟩ : ∃ o, valQ n ts xs xs.length = o := ⟨_, rfl⟩
  rw [ho]
  have HOut := Lib.hid ho
  clear ho
  go_enter Try.func10, Try.ntmps10
  go_wp2_with fail
  refine (iIs_row L V a cX xs hlx HS.out _ (HX.out.below HB0.out)).mono ?_
  rw [H1.out]
  rintro e w1 ⟨rfl, hb1⟩
  have HB1 := Lib.hid (HB0.out.trans (hb1.mono (by simp)))
  have hz1 : w.heap.size < w1.heap.size := by have := hb1.size; simp at this; omega
  have x0 : w1.cell? ⟨w.heap.size, 0, none⟩ = some (.int .i64 L) := (hb1.cell (p := ⟨w.heap.size, 0, none⟩) (by simp)).trans (by go_simp)
  have x2 : w1.cell? ⟨w.heap.size, 2, none⟩ = some (.slice a xs.length cX) := (hb1.cell (p := ⟨w.heap.size, 2, none⟩) (by simp)).trans (by go_simp)
  have c1 : w1.cell? ⟨b, off, none⟩ = some (.slice a' n c') := (HB1.out.cell (p := ⟨b, off, none⟩) hbw).trans hc0
  clear hb1 hc0
  go_wp2_with fail
  refine (iAreT_c lo hi L (some ⟨b, off, none⟩) cT ts hl hs3 w1 (HR.out.below HB1.out hh)).mono ?_
  rw [HTb.out]
  rintro e w' ⟨rfl, rfl⟩
  have hb1' : b < w1.heap.size := by omega
  have KS := Lib.hid (show ∀ w', Below w1.heap.size w1 w' → w'.cell? ⟨b, off, none⟩ = some (.slice a' n c') from fun w' hb => (hb.cell (p := ⟨b, off, none⟩) hb1').trans c1)
  have HWh := Lib.hid (fun W (hW : Below w1.heap.size w1 W) => wholeFraction_c 0 W)
  have HSq := Lib.hid (fun W (hW : Below w1.heap.size w1 W) => (show Calls Try.prog 30 #[.int .i64 n, .agg #[.int .i64 0, .int .i64 1]] W (fun e w' => ∃ (Y : Lay) (c : Nat), e = .returned (.slice (some ⟨Y.h, 0, none⟩) n c) ∧ Below W.heap.size W w' ∧ FM w' w1.heap.size w'.heap.size n Y zeroQ) from (squareOfF_c n hn 0 1 W).mono fun e w' h => by
    obtain ⟨Y, c, h1, h2, h3⟩ := h
    exact ⟨Y, c, h1, h2, h3.mono hW.size (Nat.le_refl _) (Nat.le_refl _)⟩))
  go_upto_region 3 with fail
  go_cut [6] (fun s6 wy => ∃ (Y : Lay) (c : Nat), s6 = .slice (some ⟨Y.h, 0, none⟩) n c ∧ Below w1.heap.size w1 wy ∧ FM wy w1.heap.size wy.heap.size n Y zeroQ)
  case first =>
    go_region_held3 (fun w' => w'.cell? ⟨b, off, none⟩ = some (.slice a' n c'))
      ((refine KS.out _ ?_; repeat' (first | with_reducible assumption | with_reducible exact Below.refl _ _ | (with_reducible refine Below.drew ?_) | (with_reducible refine Below.setCell ?_ (by (try dsimp only); omega) _) | (with_reducible refine Below.alloc ?_ (by (try simp only [World.size_setCell]); (try simp only [World.size_drew]); (try simp only [World.size_alloc]); (try simp only [World.size_setCell]); (try simp only [World.size_alloc]); omega) _))))
      (first
        | (go_at_call 31; (with_reducible refine (HWh.out _ ?_).mono ?_); (focus repeat' (first | with_reducible assumption | with_reducible exact Below.refl _ _ | (with_reducible refine Below.drew ?_) | (with_reducible refine Below.setCell ?_ (by (try dsimp only); omega) _) | (with_reducible refine Below.alloc ?_ (by (try simp only [World.size_setCell]); (try simp only [World.size_drew]); (try simp only [World.size_alloc]); (try simp only [World.size_setCell]); (try simp only [World.size_alloc]); omega) _))); rintro e w5 ⟨rfl, hb0⟩; have hb5 : Below w1.heap.size w1 w5 := below_step (by repeat' (first | with_reducible assumption | with_reducible exact Below.refl _ _ | (with_reducible refine Below.drew ?_) | (with_reducible refine Below.setCell ?_ (by (try dsimp only); omega) _) | (with_reducible refine Below.alloc ?_ (by (try simp only [World.size_setCell]); (try simp only [World.size_drew]); (try simp only [World.size_alloc]); (try simp only [World.size_setCell]); (try simp only [World.size_alloc]); omega) _))) hb0 (Nat.le_refl _))
        | (go_at_call 30; (with_reducible refine (HSq.out _ ?_).mono ?_); (focus repeat' (first | with_reducible assumption | with_reducible exact Below.refl _ _ | (with_reducible refine Below.drew ?_) | (with_reducible refine Below.setCell ?_ (by (try dsimp only); omega) _) | (with_reducible refine Below.alloc ?_ (by (try simp only [World.size_setCell]); (try simp only [World.size_drew]); (try simp only [World.size_alloc]); (try simp only [World.size_setCell]); (try simp only [World.size_alloc]); omega) _))); rintro e w6 ⟨Y, c6, rfl, hb0, hF6⟩; have hb6 : Below w1.heap.size w1 w6 := below_step (by repeat' (first | with_reducible assumption | with_reducible exact Below.refl _ _ | (with_reducible refine Below.drew ?_) | (with_reducible refine Below.setCell ?_ (by (try dsimp only); omega) _) | (with_reducible refine Below.alloc ?_ (by (try simp only [World.size_setCell]); (try simp only [World.size_drew]); (try simp only [World.size_alloc]); (try simp only [World.size_setCell]); (try simp only [World.size_alloc]); omega) _))) hb0 (Nat.le_refl _); have HF6 := Lib.hid hF6; clear hF6)
        | fail)
    all_goals (go_wp2_with fail; go_meet)
    all_goals exact ⟨Y, c6, rfl, hb6, HF6.out⟩
  case rest =>
    obtain ⟨Y, cS, rfl, hbc, hFc⟩ := hcut
    obtain ⟨w2, rfl⟩ : ∃ w2 : World, w2 = wc := ⟨_, rfl⟩
    have HB2 := Lib.hid (HB1.out.trans (hbc.mono (by omega)))
    have HF2 := Lib.hid hFc
    have hz2 := hbc.size
    have y2 := (hbc.cell (p := ⟨w.heap.size, 2, none⟩) hz1).trans x2
    have HBc := Lib.hid hbc
    clear hbc hFc x0 x2 c1 KS HWh HSq
    go_wp2_with fail
    go_loopw [31] (fun v31 wr => ∃ (k : Nat) (F : QF), k ≤ xs.length ∧ v31 = .int .i64 k ∧ valQ n ts xs k = some F ∧ FM wr w1.heap.size w2.heap.size n Y F ∧ Below w1.heap.size w1 wr) (fun v31 _ => xs.length - (intOf v31).toNat)
    case atStart => exact ⟨0, zeroQ, Nat.zero_le _, rfl, HZ.out, HF2.out, HBc.out⟩
    case round =>
      obtain ⟨k, F, hk, rfl, hval, hFM, hBr⟩ := hrel
      have HVal := Lib.hid hval
      have HFM := Lib.hid hFM
      have HBr := Lib.hid hBr
      have HBw := Lib.hid (HB1.out.trans (hBr.mono (by omega)))
      have hzr := hBr.size
      have hzq := hFM.2.2.1
      clear hval hFM hBr
      by_cases hlt : k < xs.length
      · obtain ⟨hwd, hz5⟩ := HWd.out k hlt
        have hfr := HFr.out k hlt
        have c0 : ∃ b off, a = some ⟨b, off, none⟩ ∧ b < w.heap.size ∧ wr.cell? ⟨b, off + k * 3, none⟩ = some (.string (xs[k]).s) ∧ wr.cell? ⟨b, off + k * 3 + 1, none⟩ = some (.int .i64 (xs[k]).n) ∧ wr.cell? ⟨b, off + k * 3 + 2, none⟩ = some (.int .i64 (xs[k]).d) := by
          rcases HX.out with h | ⟨b, off, h1, h2, h3⟩
          · rw [h] at hlt; simp at hlt
          · obtain ⟨q0, q1, q2⟩ := h3.below HBw.out h2 k hlt
            exact ⟨b, off, h1, h2, q0, q1, q2⟩
        obtain ⟨bx, ox, rfl, hbx, q0, q1, q2⟩ := c0
        have hbxr : bx < wr.heap.size := by omega
        have HNk := Lib.hid (HNx.out k F hlt HVal.out)
        have HDk := Lib.hid (fun h => HOut.out.symm.trans (HDd.out k hlt h))
        have HPk := Lib.hid (fun W hW => HPr.out (xs[k]).s hwd hz5 W hW)
        have HAk := Lib.hid (HAl.out (xs[k]).s)
        obtain ⟨t, ht⟩ : ∃ t, xs[k] = t := ⟨_, rfl⟩
        rw [ht] at hfr q0 q1 q2 HNk HPk HAk
        obtain ⟨s, nn, d⟩ := t
        simp only at hfr q0 q1 q2 HNk HPk HAk
        clear ht hwd hz5
        have HBt := Lib.hid (below1 wr (.cells #[.string s, .int .i64 nn, .int .i64 d] 60))
        go_wp2_with fail
        refine (HPk.out _ (HBw.out.trans (HBt.out.mono (by omega)))).mono ?_
        cases hal : alongK n ts s s.size with
        | none =>
          have HN := Lib.hid (HDk.out (by rw [HNk.out, hal]; rfl))
          rintro e w3 ⟨rfl, hb3⟩
          have HB3 := Lib.hid ((HBw.out.trans (HBt.out.mono (by omega))).trans (hb3.mono (by simp; omega)))
          clear hb3 q0 q1 q2 hal
          go_wp2
          go_ret2
          rw [HN.out]
          exact ⟨rfl, HB3.out⟩
        | some P =>
          rintro e w3 ⟨aP, cP, rfl, hb3, hGr⟩
          have HPd := Lib.hid (HAk.out P hal)
          have hb3' : Below (wr.heap.size + 1) (wr.alloc (.cells #[.string s, .int .i64 nn, .int .i64 d] 60)) w3 := by simpa using hb3
          have hz3 : wr.heap.size < w3.heap.size := by have := hb3'.size; simp at this; omega
          have HB3 := Lib.hid (HBr.out.trans ((HBt.out.mono (by omega)).trans (hb3'.mono (by omega))))
          have HF3 := Lib.hid ((HFM.out.next HBt.out).below hb3' (by omega))
          have HRw := Lib.hid (show PRow (wr.heap.size + 1) w3.heap.size w3 aP (tabF n P) from by have h := hGr.row; simpa using h)
          have u1 : w3.cell? ⟨wr.heap.size, 1, none⟩ = some (.int .i64 nn) := (hb3'.cell (p := ⟨wr.heap.size, 1, none⟩) (Nat.lt_succ_self _)).trans (by go_simp)
          have u2 : w3.cell? ⟨wr.heap.size, 2, none⟩ = some (.int .i64 d) := (hb3'.cell (p := ⟨wr.heap.size, 2, none⟩) (Nat.lt_succ_self _)).trans (by go_simp)
          have HAd := Lib.hid (addRows_c w1.heap.size w2.heap.size n hn Y F (HGd.out k F HVal.out) P HPd.out nn d hfr cS (wr.heap.size + 1) w3.heap.size aP cP w3 (by omega) (Nat.le_refl _) HF3.out HRw.out)
          rw [hal, Option.bind_some] at HNk
          clear hb3 hb3' hGr hfr q0 q1 q2 hal
          go_wp2_with fail
          refine HAd.out.mono ?_
          cases hm : matQ n P (nn, d) n F with
          | none =>
            have HN := Lib.hid (HDk.out (HNk.out.trans hm))
            rintro e w4 ⟨rfl, hb4⟩
            have HB4 := Lib.hid (HB1.out.trans ((HB3.out.trans hb4).mono (by omega)))
            clear hb4 hm
            go_wp2
            go_ret2
            rw [HN.out]
            exact ⟨rfl, HB4.out⟩
          | some G =>
            have HVn := Lib.hid (HNk.out.trans hm)
            rintro e w4 ⟨rfl, hF4, hb4⟩
            have HF4 := Lib.hid hF4
            have HB4 := Lib.hid (HB3.out.trans hb4)
            clear hb4 hF4 hm
            go_wp2
            go_roundw
            case rel => exact ⟨k + 1, G, by omega, by go_num, HVn.out, HF4.out, HB4.out⟩
            case measure => simp [intOf]; omega
      · obtain rfl : k = xs.length := by omega
        have HN := Lib.hid (HOut.out.symm.trans HVal.out)
        go_wp2
        go_ret2
        rw [HN.out]
        exact ⟨Y, cS, rfl, HBw.out, HFM.out.mono (by omega) hzq (Nat.le_refl _)⟩
end
end Go.Proofs.Ytknigggjnjkhbaa
