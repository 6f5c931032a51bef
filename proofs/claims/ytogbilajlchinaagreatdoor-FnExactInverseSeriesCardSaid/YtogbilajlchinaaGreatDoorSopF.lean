/-
  The program's sum of powers: its contract.
  The program's multiples, series less the unit, exponentials and logarithms of values: their contracts.
  The program's exponentials and logarithms of values: their contracts.
-/
import Derived.Test.YtogbilajlchinaaGreatDoorPows
import Derived.Test.YtogbilajlchinaaGreatDoorComV
import Derived.Deep.RegionHeld2
namespace Go.Proofs.YtogbilajlchinaaGreatDoor
open Go.RowKit

theorem powV_goodW {ws : List ByteArray} (hu : GoodV ws unitF) {base : VF} : ∀ {k : Nat} {p : VF}, powV base ws k = some p → GoodV ws p
  | 0, p, h => by rw [powV] at h; injection h with h; rw [← h]; exact hu
  | k + 1, p, h => by
    rw [powV] at h
    obtain ⟨q, _, h2⟩ := Option.bind_eq_some_iff.1 h
    exact GoodV.prodV h2

set_option maxRecDepth 100000 in
set_option maxHeartbeats 8000000 in
theorem sumOfPowers_c (L V : Int) (A : Option Addr) (cap : Nat) (ws : List ByteArray) (hl : ws.length ≤ 100000) (hs : ∀ s ∈ ws, s.size ≤ 1000) (hu : GoodV ws unitF) (y : VF) (hy : GoodV ws y) (b1 n1 : Nat) (f : Nat → Int × Int) (m : Nat) (hm : m ≤ 6) (hf : ∀ k, k < m → isF (f k).1 (f k).2 = true) (aN : Option Addr) (cN : Nat) (w : World) (hr : SRow w A ws) (hA : ∀ p, A = some p → p.block < w.heap.size) (m1 : MapV w b1 n1 y) (hN : NewR 0 w.heap.size w aN (numL f m)) :
    Calls Tryz.prog 47 #[.agg #[.int .i64 L, .int .i64 V, .slice A ws.length cap], .map (some b1), .slice aN m cN] w (FewPost (sumK y ws f m) (m * ws.length) w) := by
  have hmm := @run_makeMap Tryz.prog
  obtain ⟨o, ho⟩ : ∃ o, sumK y ws f m = o := ⟨_, rfl⟩
  rw [ho]
  have HOut := Lib.hid ho
  have HR := Lib.hid hr
  have HS := Lib.hid hs
  have HU := Lib.hid hu
  have HY := Lib.hid (show ∀ s p, y s = some p → isF p.1 p.2 = true from fun s p e => (hy s p e).2.1)
  have HM1 := Lib.hid m1
  have HA := Lib.hid hA
  have HN := Lib.hid hN
  have HFr := Lib.hid hf
  have hbl1 := m1.lt
  clear hr hs hy m1 hA hN hf ho hu
  go_enter Tryz.func47, Tryz.ntmps47
  go_wp2_with fail
  refine (unitValues_c _).mono ?_
  rintro e w2 ⟨b2, rfl, hb2m, hb2, hM2⟩
  clear hmm
  have hb2' : Below (w.heap.size + 1 + 1) ((w.alloc (.cells #[.int .i64 L, .int .i64 V, .slice A ws.length cap] 56)).alloc (.map #[] 0)) w2 := by simpa using hb2
  have hb2l : w.heap.size + 1 + 1 ≤ b2 := by simpa using hb2m
  have HS0 := Lib.hid ((MapV.made (w.alloc (.cells #[.int .i64 L, .int .i64 V, .slice A ws.length cap] 56))).below hb2' (by simp))
  have HB2 := Lib.hid (show Below (w.heap.size + 1) (w.alloc (.cells #[.int .i64 L, .int .i64 V, .slice A ws.length cap] 56)) w2 from ((Below.refl _ _).alloc (by simp) _).trans (hb2'.mono (by omega)))
  have HM2 := Lib.hid hM2
  have hz2 : w.heap.size + 1 + 1 ≤ w2.heap.size := by have := hb2'.size; simp at this; omega
  clear hb2 hb2' hb2m hM2
  go_wp2_with fail
  go_loopw [8, 15] (fun vp vk wr => ∃ (k : Nat) (s p : VF) (b n : Nat), k ≤ m ∧ vk = .int .i64 k ∧ vp = .map (some b) ∧ sumK y ws f k = some s ∧ powV y ws (k - 1) = some p ∧ w.heap.size + 1 < b ∧ n ≤ 900000 ∧ MapV wr b n p ∧ MapV wr (w.heap.size + 1) (k * ws.length) s ∧ Below (w.heap.size + 1) (w.alloc (.cells #[.int .i64 L, .int .i64 V, .slice A ws.length cap] 56)) wr) (fun _ vk _ => m - (intOf vk).toNat)
  case atStart => exact ⟨0, noneF, unitF, b2, 1, Nat.zero_le _, rfl, rfl, rfl, rfl, by omega, by omega, HM2.out, by rw [Nat.zero_mul]; have h := HS0.out; simp only [World.size_alloc] at h; exact h, HB2.out⟩
  case round =>
    obtain ⟨k, s, p, b, n, hk, rfl, rfl, hsk, hpk, hbw, hnb, hMp, hMs, hB⟩ := hrel
    have HNb := Lib.hid hnb
    have HSk := Lib.hid hsk
    have HPk := Lib.hid hpk
    have HMp := Lib.hid hMp
    have HMs := Lib.hid hMs
    have HB := Lib.hid hB
    have hzr := hB.size
    simp only [World.size_alloc] at hzr
    have hbb := hMp.lt
    have hkm : k * ws.length ≤ 6 * 100000 := Nat.mul_le_mul (by omega) hl
    have HGs := Lib.hid (sumK_good hsk)
    have HGp := Lib.hid (powV_goodW HU.out hpk)
    clear hsk hpk hMp hMs hB
    obtain ⟨wo, rfl⟩ : ∃ wo : World, wo = wr := ⟨_, rfl⟩
    by_cases hlt : k < m
    · have hBw := Lib.hid ((below1 w (.cells #[.int .i64 L, .int .i64 V, .slice A ws.length cap] 56)).trans (HB.out.mono (Nat.le_succ _)))
      have hx : ∀ j, wo.cell? ⟨w.heap.size, j, none⟩ = (w.alloc (.cells #[.int .i64 L, .int .i64 V, .slice A ws.length cap] 56)).cell? ⟨w.heap.size, j, none⟩ := fun j => HB.out.cell (p := ⟨w.heap.size, j, none⟩) (Nat.lt_succ_self _)
      have s0 : wo.cell? ⟨w.heap.size, 0, none⟩ = some (.int .i64 L) := (hx 0).trans (by go_simp)
      have s1 : wo.cell? ⟨w.heap.size, 1, none⟩ = some (.int .i64 V) := (hx 1).trans (by go_simp)
      have s2 : wo.cell? ⟨w.heap.size, 2, none⟩ = some (.slice A ws.length cap) := (hx 2).trans (by go_simp)
      have hwo : w.heap.size < wo.heap.size := by omega
      rcases HN.out.below hBw.out (Nat.le_refl _) with h | ⟨g, rfl, _, hgl, hFr⟩
      · exfalso
        have := numL_length f m
        rw [h] at this
        simp at this
        omega
      obtain ⟨c0, c1⟩ := hFr k (by rw [numL_length]; exact hlt)
      rw [numL_get] at c0 c1
      simp only [Nat.zero_add] at c0 c1
      have HIf := Lib.hid (HFr.out k hlt)
      have HNx := Lib.hid (fun q (hq : powV y ws k = some q) => sumK_next (f := f) HSk.out hq)
      have HNo := Lib.hid (fun (hq : powV y ws k = none) => sumK_dead (sumK_noP (f := f) hq) (show k + 1 ≤ m from hlt))
      have HDd := Lib.hid (fun (hq : sumK y ws f (k + 1) = none) => sumK_dead hq (show k + 1 ≤ m from hlt))
      obtain ⟨fa, hfa⟩ : ∃ fa, (f k).1 = fa := ⟨_, rfl⟩
      obtain ⟨fb, hfb⟩ : ∃ fb, (f k).2 = fb := ⟨_, rfl⟩
      rw [hfa] at c0 HIf
      rw [hfb] at c1 HIf
      simp only [hfa, hfb] at HNx
      clear hx hFr hfa hfb
      cases hq : powV y ws k with
      | none =>
        have HF := Lib.hid (HNo.out hq)
        have hk0 : k ≠ 0 := by
          intro e
          subst e
          rw [powV] at hq
          cases hq
        have hPn : prodV p y ws = none := by
          have := powV_next (k := k - 1) HPk.out
          rw [Nat.sub_add_cancel (by omega)] at this
          rw [← this]; exact hq
        have HPr := Lib.hid (fun W h1 h2 h3 => productFew_c L V A cap ws (by omega) HS.out p y (fun s q e => (HGp.out s q e).2.1) HY.out b n b1 n1 W h1 h2 h3)
        rw [hPn] at HPr
        have hki : (0 : Int) < (k : Int) := by omega
        clear hq hPn
        go_wp2_with fail
        refine (HPr.out _ ((HR.out.below hBw.out (Nat.le_refl _)).below (below1 wo _) (by omega)) (HMp.out.alloc _) ((HM1.out.below hBw.out hbl1).alloc _)).mono ?_
        rintro e w3 ⟨rfl, hb3⟩
        have HB3 := Lib.hid (hBw.out.trans (((below1 wo (.cells #[.int .i64 fa, .int .i64 fb] 47)).mono (by omega)).trans (hb3.mono (by simp; omega))))
        clear hb3
        go_wp2
        have e : o = none := HOut.out.symm.trans HF.out
        rw [e]
        exact ⟨rfl, rfl, HB3.out⟩
      | some p' =>
        have HAd := Lib.hid (HNx.out p' hq)
        have HGp' := Lib.hid (powV_goodW HU.out hq)
        have HQ := Lib.hid hq
        clear HNx HNo
        by_cases hk0 : k = 0
        · have hpp : p' = p := by
            have h1 := HPk.out
            have h2 := hq
            subst hk0
            exact Option.some.inj (h2.symm.trans h1)
          have hki : ¬ (0 : Int) < (k : Int) := by omega
          subst hpp
          clear hq hk0
          have hnle : n ≤ 900000 := HNb.out
          have HAm := Lib.hid (addMultiple_c L V A cap ws hl HS.out s p' HGs.out (fun t q e => (HGp'.out t q e).2.1) fa fb HIf.out (w.heap.size + 1) (k * ws.length) b n (by omega) (by omega) (wo.alloc (.cells #[.int .i64 fa, .int .i64 fb] 47)) ((HR.out.below hBw.out (Nat.le_refl _)).below (below1 wo _) (by omega)) (fun q e => by have := HA.out q e; omega) (HMs.out.alloc _) (HMp.out.alloc _))
          go_wp2_with fail
          refine HAm.out.mono ?_
          cases hs : addK p' fa fb ws s with
          | none =>
            rintro e w5 ⟨rfl, hG⟩
            have HF := Lib.hid (HDd.out (HAd.out.trans hs))
            have HB5 := Lib.hid ((hBw.out.trans ((below1 wo _).mono (by omega))).trans (below_of_grown hG (fun g e => by injection e with e; omega) (by simp; omega)))
            clear hG hs
            go_wp2
            have e : o = none := HOut.out.symm.trans HF.out
            rw [e]
            exact ⟨rfl, rfl, HB5.out⟩
          | some s' =>
            rintro e w5 ⟨rfl, hM5, hG⟩
            have HSn := Lib.hid (HAd.out.trans hs)
            have HB5 := Lib.hid ((HB.out.trans ((below1 wo _).mono (by omega))).trans (below_of_grown (B := w.heap.size + 1) hG (fun g e => by injection e with e; omega) (by simp; omega)))
            have HM5 := Lib.hid (show MapV w5 (w.heap.size + 1) ((k + 1) * ws.length) s' from by rw [Nat.add_mul, Nat.one_mul]; exact hM5)
            have HP5 := Lib.hid (MapV.grown (HMp.out.alloc _) hG (by intro e; injection e with e; omega))
            clear hG hs hM5
            go_wp2
            go_roundw
            case rel => exact ⟨k + 1, s', p', b, n, by omega, by go_num, rfl, HSn.out, by rw [Nat.add_sub_cancel]; exact HQ.out, by omega, hnle, HP5.out, HM5.out, HB5.out⟩
            case measure => simp [intOf]; omega
        · have hki : (0 : Int) < (k : Int) := by omega
          have hPn : prodV p y ws = some p' := by
            have := powV_next (k := k - 1) HPk.out
            rw [Nat.sub_add_cancel (by omega)] at this
            rw [← this]; exact hq
          have HPr := Lib.hid (fun W h1 h2 h3 => productFew_c L V A cap ws (by omega) HS.out p y (fun s q e => (HGp.out s q e).2.1) HY.out b n b1 n1 W h1 h2 h3)
          rw [hPn] at HPr
          clear hq hPn
          go_wp2_with fail
          refine (HPr.out _ ((HR.out.below hBw.out (Nat.le_refl _)).below (below1 wo _) (by omega)) (HMp.out.alloc _) ((HM1.out.below hBw.out hbl1).alloc _)).mono ?_
          rintro e w3 ⟨b3, n3, rfl, hb3l, hb3, hn3, hM3⟩
          have hb3' : Below wo.heap.size wo w3 := (below1 wo (.cells #[.int .i64 fa, .int .i64 fb] 47)).trans (hb3.mono (by simp))
          have hz3 := hb3'.size
          have hb3w : wo.heap.size < b3 := by have := hb3l; simp at this; omega
          have HB3 := Lib.hid (hBw.out.trans (hb3'.mono (by omega)))
          have HB31 := Lib.hid (HB.out.trans (hb3'.mono (by omega)))
          have HMs3 := Lib.hid (HMs.out.below hb3' (by omega))
          have HMp3 := Lib.hid hM3
          have hc3 := bcellB hb3
          have d0 : w3.cell? ⟨wo.heap.size, 0, none⟩ = some (.int .i64 fa) := (hc3.1 _ _ (by simp)).trans (by go_simp)
          have d1 : w3.cell? ⟨wo.heap.size, 1, none⟩ = some (.int .i64 fb) := (hc3.1 _ _ (by simp)).trans (by go_simp)
          have e0 : w3.cell? ⟨w.heap.size, 0, none⟩ = some (.int .i64 L) := (hb3'.cell (p := ⟨w.heap.size, 0, none⟩) hwo).trans s0
          have e1 : w3.cell? ⟨w.heap.size, 1, none⟩ = some (.int .i64 V) := (hb3'.cell (p := ⟨w.heap.size, 1, none⟩) hwo).trans s1
          have e2 : w3.cell? ⟨w.heap.size, 2, none⟩ = some (.slice A ws.length cap) := (hb3'.cell (p := ⟨w.heap.size, 2, none⟩) hwo).trans s2
          have hnle : n3 ≤ 900000 := by omega
          clear hb3 hb3' hM3 hc3 hb3l
          have HAm := Lib.hid (addMultiple_c L V A cap ws hl HS.out s p' HGs.out (fun t q e => (HGp'.out t q e).2.1) fa fb HIf.out (w.heap.size + 1) (k * ws.length) b3 n3 (by omega) (by omega) w3 (HR.out.below HB3.out (Nat.le_refl _)) (fun q e => by have := HA.out q e; omega) HMs3.out HMp3.out)
          go_wp2_with fail
          refine HAm.out.mono ?_
          cases hs : addK p' fa fb ws s with
          | none =>
            rintro e w5 ⟨rfl, hG⟩
            have HF := Lib.hid (HDd.out (HAd.out.trans hs))
            have HB5 := Lib.hid (HB3.out.trans (below_of_grown hG (fun g e => by injection e with e; omega) (by omega)))
            clear hG hs
            go_wp2
            have e : o = none := HOut.out.symm.trans HF.out
            rw [e]
            exact ⟨rfl, rfl, HB5.out⟩
          | some s' =>
            rintro e w5 ⟨rfl, hM5, hG⟩
            have HSn := Lib.hid (HAd.out.trans hs)
            have HB5 := Lib.hid (HB31.out.trans (below_of_grown (B := w.heap.size + 1) hG (fun g e => by injection e with e; omega) (by omega)))
            have HM5 := Lib.hid (show MapV w5 (w.heap.size + 1) ((k + 1) * ws.length) s' from by rw [Nat.add_mul, Nat.one_mul]; exact hM5)
            have HP5 := Lib.hid (MapV.grown HMp3.out hG (by intro e; injection e with e; omega))
            clear hG hs hM5
            go_wp2
            go_roundw
            case rel => exact ⟨k + 1, s', p', b3, n3, by omega, by go_num, rfl, HSn.out, by rw [Nat.add_sub_cancel]; exact HQ.out, by omega, hnle, HP5.out, HM5.out, HB5.out⟩
            case measure => simp [intOf]; omega
    · obtain rfl : k = m := by omega
      have HO2 := Lib.hid (HOut.out.symm.trans HSk.out)
      go_wp2
      rw [HO2.out]
      go_ret
      exact ⟨w.heap.size + 1, k * ws.length, rfl, by omega, (below1 w _).trans (HB.out.mono (Nat.le_succ _)), Nat.le_refl _, HMs.out⟩
end Go.Proofs.YtogbilajlchinaaGreatDoor

namespace Go.Proofs.YtogbilajlchinaaGreatDoor
open Go.RowKit

/-- a series' values times a number, less the unit -/
def lessV (x : VF) (a b : Int) (ws : List ByteArray) : Option VF := (addK x a b ws noneF).bind fun h => addK unitF (-1) 1 ws h
theorem lessV_none {x : VF} {a b : Int} {ws : List ByteArray} (h : addK x a b ws noneF = none) : lessV x a b ws = none := by unfold lessV; rw [h]; rfl
theorem lessV_some {x h : VF} {a b : Int} {ws : List ByteArray} (e : addK x a b ws noneF = some h) : lessV x a b ws = addK unitF (-1) 1 ws h := by unfold lessV; rw [e]; rfl
theorem lessV_good {x y : VF} {a b : Int} {ws : List ByteArray} (e : lessV x a b ws = some y) : GoodV ws y := by
  unfold lessV at e
  obtain ⟨h, h1, h2⟩ := Option.bind_eq_some_iff.1 e
  exact GoodV.addK (GoodV.addK (good_none ws) (fun _ h => h) h1) (fun _ h => h) h2
def expV (x : VF) (ws : List ByteArray) (N : Nat) : Option VF := sumK x ws expF (N + 1)
def logV (x : VF) (ws : List ByteArray) (N : Nat) : Option VF := (lessV x 1 1 ws).bind fun y => sumK y ws logF (N + 1)
theorem dead_few {f : FuncId} {args : Array Value} {w : World} {m : Nat} {R : Ending → World → Prop} (v : Value) (h : Calls Tryz.prog f args w (FewPost none m w)) (hp : ∀ w', Below w.heap.size w w' → R (.panicked [misP 3]) w') (_h : Hid False → R (.returned v) w) : Calls Tryz.prog f args w R := by
  refine h.mono ?_
  rintro e w' ⟨rfl, hb⟩
  exact hp w' hb

section
variable (L V : Int) (A : Option Addr) (cap : Nat) (ws : List ByteArray) (hl : ws.length ≤ 100000) (hs : ∀ s ∈ ws, s.size ≤ 1000) (x : VF) (hx : GoodV ws x) (b1 n1 : Nat) (w : World) (hr : SRow w A ws) (hA : ∀ p, A = some p → p.block < w.heap.size) (m1 : MapV w b1 n1 x)
include hl hs hx hr hA m1
set_option maxRecDepth 100000 in
set_option maxHeartbeats 4000000 in
theorem multiple_c (a b : Int) (ha : isF a b = true) :
    Calls Tryz.prog 45 #[.agg #[.int .i64 L, .int .i64 V, .slice A ws.length cap], .map (some b1), .agg #[.int .i64 a, .int .i64 b]] w (FewPost (addK x a b ws noneF) ws.length w) := by
  have hmm := @run_makeMap Tryz.prog
  obtain ⟨o, ho⟩ : ∃ o, addK x a b ws noneF = o := ⟨_, rfl⟩
  rw [ho]
  have HO := Lib.hid ho
  have HR := Lib.hid hr
  have HS := Lib.hid hs
  have HX := Lib.hid (show ∀ s p, x s = some p → isF p.1 p.2 = true from fun s p e => (hx s p e).2.1)
  have HM1 := Lib.hid m1
  have HA := Lib.hid hA
  have hbl1 := m1.lt
  clear hr hs hx m1 hA ho
  go_enter Tryz.func45, Tryz.ntmps45
  go_wp2_with fail
  have HB3 := Lib.hid (below3 w (.cells #[.int .i64 L, .int .i64 V, .slice A ws.length cap] 56) (.cells #[.int .i64 a, .int .i64 b] 47) (.map #[] 0))
  have hmade := MapV.made ((w.alloc (.cells #[.int .i64 L, .int .i64 V, .slice A ws.length cap] 56)).alloc (.cells #[.int .i64 a, .int .i64 b] 47))
  simp only [World.size_alloc] at hmade
  have HAm := Lib.hid (addMultiple_c L V A cap ws hl HS.out noneF x (good_none ws) HX.out a b ha (w.heap.size + 1 + 1) 0 b1 n1 (by omega) (by omega) _ (HR.out.below HB3.out (Nat.le_refl _)) (fun q e => by have := HA.out q e; omega) hmade (HM1.out.below HB3.out hbl1))
  rw [HO.out] at HAm
  clear hmm hmade
  refine HAm.out.mono ?_
  cases o with
  | none =>
    rintro e w5 ⟨rfl, hG⟩
    have HB5 := Lib.hid (HB3.out.trans (below_of_grown hG (fun g e => by injection e with e; omega) (by simp; omega)))
    clear hG
    go_wp2
    exact ⟨rfl, rfl, HB5.out⟩
  | some h =>
    rintro e w5 ⟨rfl, hM5, hG⟩
    have HB5 := Lib.hid (HB3.out.trans (below_of_grown hG (fun g e => by injection e with e; omega) (by simp; omega)))
    have HM5 := Lib.hid hM5
    clear hG hM5
    go_wp2
    go_ret
    exact ⟨w.heap.size + 1 + 1, 0 + ws.length, rfl, by omega, HB5.out, by omega, HM5.out⟩

set_option maxRecDepth 100000 in
set_option maxHeartbeats 4000000 in
theorem lessUnit_1 (h1 : addK x 1 1 ws noneF = none) :
    Calls Tryz.prog 44 #[.agg #[.int .i64 L, .int .i64 V, .slice A ws.length cap], .map (some b1)] w (FewPost none (ws.length + ws.length) w) := by
  have HE := Lib.hid h1
  have HR := Lib.hid hr
  have HS := Lib.hid hs
  have HX := Lib.hid hx
  have HM1 := Lib.hid m1
  have HA := Lib.hid hA
  have hbl1 := m1.lt
  have HB0 := Lib.hid (below1 w (.cells #[.int .i64 L, .int .i64 V, .slice A ws.length cap] 56))
  have KS := Lib.hid (show ∀ w', Below (w.heap.size + 1) (w.alloc (.cells #[.int .i64 L, .int .i64 V, .slice A ws.length cap] 56)) w' → (w'.cell? ⟨w.heap.size, 0, none⟩ = some (.int .i64 L) ∧ w'.cell? ⟨w.heap.size, 1, none⟩ = some (.int .i64 V) ∧ w'.cell? ⟨w.heap.size, 2, none⟩ = some (.slice A ws.length cap)) from fun w' hw => ⟨(hw.cell (p := ⟨w.heap.size, 0, none⟩) (Nat.lt_succ_self _)).trans (by go_simp), (hw.cell (p := ⟨w.heap.size, 1, none⟩) (Nat.lt_succ_self _)).trans (by go_simp), (hw.cell (p := ⟨w.heap.size, 2, none⟩) (Nat.lt_succ_self _)).trans (by go_simp)⟩)
  clear hr hs hx m1 hA h1
  go_enter Tryz.func44, Tryz.ntmps44
  go_upto_region 1 with fail
  go_region_held2 (fun w' => w'.cell? ⟨w.heap.size, 0, none⟩ = some (.int .i64 L) ∧ w'.cell? ⟨w.heap.size, 1, none⟩ = some (.int .i64 V) ∧ w'.cell? ⟨w.heap.size, 2, none⟩ = some (.slice A ws.length cap))
    (first | (exact KS.out _ (Below.drew (Below.refl _ _))) | (exact KS.out _ hbz) | (exact KS.out _ hb2) | (exact KS.out _ hb3) | fail)
    (first
      | (go_at_call 43; refine (wholeFraction_c _ _).mono ?_; rintro e w2 ⟨rfl, hb0⟩; have hb2 : Below (w.heap.size + 1) (w.alloc (.cells #[.int .i64 L, .int .i64 V, .slice A ws.length cap] 56)) w2 := ⟨hb0.os, hb0.tape, hb0.output, by have := hb0.size; simpa using this, fun j hj => hb0.block j (by simpa using hj)⟩)
      | (go_at_call 45; have hMu := multiple_c L V A cap ws hl HS.out x HX.out b1 n1 w2 (HR.out.below (HB0.out.trans (hb2.mono (Nat.le_succ _))) (Nat.le_refl _)) (fun q e => Nat.lt_of_lt_of_le (HA.out q e) (HB0.out.trans (hb2.mono (Nat.le_succ _))).size) (HM1.out.below (HB0.out.trans (hb2.mono (Nat.le_succ _))) hbl1) 1 1 (by decide); rw [HE.out] at hMu; refine dead_few (.map none) hMu (fun w3 hb3 => ⟨rfl, ⟨rfl, HB0.out.trans ((hb2.mono (Nat.le_succ _)).trans (hb3.mono (HB0.out.trans (hb2.mono (Nat.le_succ _))).size))⟩⟩) ?_; intro hF)
      | fail)
  all_goals exact hF.out.elim
set_option maxRecDepth 100000 in
set_option maxHeartbeats 4000000 in
theorem lessUnit_2 (hu : GoodV ws unitF) (h : VF) (h1 : addK x 1 1 ws noneF = some h) (h2' : addK unitF (-1) 1 ws h = none) :
    Calls Tryz.prog 44 #[.agg #[.int .i64 L, .int .i64 V, .slice A ws.length cap], .map (some b1)] w (FewPost none (ws.length + ws.length) w) := by
  have HE := Lib.hid h1
  have HK := Lib.hid h2'
  have HG1 := Lib.hid (GoodV.addK (good_none ws) (fun _ h => h) h1)
  have HG2 := Lib.hid (show ∀ s p, unitF s = some p → isF p.1 p.2 = true from fun s p e => (hu s p e).2.1)
  have HR := Lib.hid hr
  have HS := Lib.hid hs
  have HX := Lib.hid hx
  have HM1 := Lib.hid m1
  have HA := Lib.hid hA
  have hbl1 := m1.lt
  have HB0 := Lib.hid (below1 w (.cells #[.int .i64 L, .int .i64 V, .slice A ws.length cap] 56))
  have KS := Lib.hid (show ∀ w', Below (w.heap.size + 1) (w.alloc (.cells #[.int .i64 L, .int .i64 V, .slice A ws.length cap] 56)) w' → (w'.cell? ⟨w.heap.size, 0, none⟩ = some (.int .i64 L) ∧ w'.cell? ⟨w.heap.size, 1, none⟩ = some (.int .i64 V) ∧ w'.cell? ⟨w.heap.size, 2, none⟩ = some (.slice A ws.length cap)) from fun w' hw => ⟨(hw.cell (p := ⟨w.heap.size, 0, none⟩) (Nat.lt_succ_self _)).trans (by go_simp), (hw.cell (p := ⟨w.heap.size, 1, none⟩) (Nat.lt_succ_self _)).trans (by go_simp), (hw.cell (p := ⟨w.heap.size, 2, none⟩) (Nat.lt_succ_self _)).trans (by go_simp)⟩)
  clear hr hs hx m1 hA h1 h2' hu
  go_enter Tryz.func44, Tryz.ntmps44
  go_upto_region 1 with fail
  go_cut [5] (fun v wy => ∃ mm nn, v = .map (some mm) ∧ w.heap.size + 1 ≤ mm ∧ Below (w.heap.size + 1) (w.alloc (.cells #[.int .i64 L, .int .i64 V, .slice A ws.length cap] 56)) wy ∧ nn ≤ ws.length ∧ MapV wy mm nn h)
  case first =>
    go_region_held3 (fun w' => w'.cell? ⟨w.heap.size, 0, none⟩ = some (.int .i64 L) ∧ w'.cell? ⟨w.heap.size, 1, none⟩ = some (.int .i64 V) ∧ w'.cell? ⟨w.heap.size, 2, none⟩ = some (.slice A ws.length cap))
      (first | (exact KS.out _ (Below.drew (Below.refl _ _))) | (exact KS.out _ hb2) | (exact KS.out _ hb3) | fail)
      (first
        | (go_at_call 43; refine (wholeFraction_c _ _).mono ?_; rintro e w2 ⟨rfl, hb0⟩; have hb2 : Below (w.heap.size + 1) (w.alloc (.cells #[.int .i64 L, .int .i64 V, .slice A ws.length cap] 56)) w2 := ⟨hb0.os, hb0.tape, hb0.output, by have := hb0.size; simpa using this, fun j hj => hb0.block j (by simpa using hj)⟩)
        | (go_at_call 45; have hMu := multiple_c L V A cap ws hl HS.out x HX.out b1 n1 w2 (HR.out.below (HB0.out.trans (hb2.mono (Nat.le_succ _))) (Nat.le_refl _)) (fun q e => Nat.lt_of_lt_of_le (HA.out q e) (HB0.out.trans (hb2.mono (Nat.le_succ _))).size) (HM1.out.below (HB0.out.trans (hb2.mono (Nat.le_succ _))) hbl1) 1 1 (by decide); rw [HE.out] at hMu; (with_reducible refine hMu.mono ?_); rintro e w3 ⟨mm, nn, rfl, hmm, hb3', hnn, hM3⟩; have hb3 := hb2.trans (hb3'.mono (show w.heap.size + 1 ≤ w2.heap.size by have := hb2.size; simpa using this)); have hmw : w.heap.size + 1 ≤ mm := Nat.le_trans (by have := hb2.size; simpa using this) hmm)
        | fail)
    all_goals (go_wp2_with fail; go_meet)
    all_goals exact ⟨mm, nn, rfl, hmw, hb3, hnn, hM3⟩
  case rest =>
    obtain ⟨mm, nn, rfl, hmw, hbc, hnn, hMc⟩ := hcut
    obtain ⟨w1, rfl⟩ : ∃ w1 : World, w1 = wc := ⟨_, rfl⟩
    have hz1 : w.heap.size + 1 ≤ w1.heap.size := by have := hbc.size; simpa using this
    have HW := Lib.hid (HB0.out.trans (hbc.mono (Nat.le_succ _)))
    have hM := Lib.hid hMc
    have hlm := hMc.lt
    have KT := Lib.hid (show ∀ w', Below w1.heap.size w1 w' → (w'.cell? ⟨w.heap.size, 0, none⟩ = some (.int .i64 L) ∧ w'.cell? ⟨w.heap.size, 1, none⟩ = some (.int .i64 V) ∧ w'.cell? ⟨w.heap.size, 2, none⟩ = some (.slice A ws.length cap)) from fun w' hw => KS.out w' (hbc.trans (hw.mono hz1)))
    have HR1 := Lib.hid (HR.out.below HW.out (Nat.le_refl _))
    have hwm : w.heap.size ≠ mm := by omega
    have e0 := (KT.out w1 (Below.refl _ _)).1
    have e1 := (KT.out w1 (Below.refl _ _)).2.1
    have e2 := (KT.out w1 (Below.refl _ _)).2.2
    clear hMc hbc
    go_upto_region 2 with fail
    go_region_held2 (fun w' => w'.cell? ⟨w.heap.size, 0, none⟩ = some (.int .i64 L) ∧ w'.cell? ⟨w.heap.size, 1, none⟩ = some (.int .i64 V) ∧ w'.cell? ⟨w.heap.size, 2, none⟩ = some (.slice A ws.length cap))
      (first | (exact KT.out _ (Below.drew (Below.refl _ _))) | (exact KT.out _ hbz) | (exact KT.out _ hb2) | fail)
      (first
        | (go_at_call 71; (with_reducible refine (unitValues_c w1.drew).mono ?_); rintro e w2 ⟨m2, rfl, hm2, hb2', hM2⟩; have hb2 : Below w1.heap.size w1 w2 := ⟨hb2'.os, hb2'.tape, hb2'.output, hb2'.size, hb2'.block⟩; have hm2' : w1.heap.size ≤ m2 := hm2)
        | (go_at_call 43; refine (wholeFraction_c _ w1.drew).mono ?_; rintro e w2 ⟨rfl, hb0⟩; have hb2 : Below w1.heap.size w1 w2 := ⟨hb0.os, hb0.tape, hb0.output, hb0.size, hb0.block⟩)
        | (go_at_call 43; refine (wholeFraction_c _ w2).mono ?_; rintro e wz ⟨rfl, hb0⟩; have hbz := hb2.trans (hb0.mono hb2.size); have hMz := hM2.below hb0 hM2.lt)
        | (go_at_call 71; (with_reducible refine (unitValues_c w2).mono ?_); rintro e wz ⟨m2, rfl, hm2, hb2', hMz⟩; have hbz := hb2.trans (hb2'.mono hb2.size); have hm2' : w1.heap.size ≤ m2 := Nat.le_trans hb2.size hm2)
        | (go_at_call 95; have hAd := addMultiple_c L V A cap ws hl HS.out h unitF HG1.out HG2.out (-1) 1 (by decide) mm nn m2 _ (by omega) (show m2 ≠ mm by omega) wz (HR1.out.below hbz (Nat.le_refl _)) (fun p e => by have := HA.out p e; omega) (hM.out.below hbz hlm) hMz; rw [HK.out] at hAd; refine dead_add hAd (fun w3 hb3 => ⟨rfl, ⟨rfl, HW.out.trans ((hbz.mono (by omega)).trans (below_of_grown hb3 (fun g e => by injection e with e; omega) (by have := hbz.size; omega)))⟩⟩) ?_; intro hF)
        | fail)
    all_goals exact hF.out.elim
set_option maxRecDepth 100000 in
set_option maxHeartbeats 4000000 in
theorem lessUnit_3 (hu : GoodV ws unitF) (h : VF) (h1 : addK x 1 1 ws noneF = some h) (h2 : VF) (h2' : addK unitF (-1) 1 ws h = some h2) :
    Calls Tryz.prog 44 #[.agg #[.int .i64 L, .int .i64 V, .slice A ws.length cap], .map (some b1)] w (FewPost (some h2) (ws.length + ws.length) w) := by
  have HE := Lib.hid h1
  have HK := Lib.hid h2'
  have HG1 := Lib.hid (GoodV.addK (good_none ws) (fun _ h => h) h1)
  have HG2 := Lib.hid (show ∀ s p, unitF s = some p → isF p.1 p.2 = true from fun s p e => (hu s p e).2.1)
  have HR := Lib.hid hr
  have HS := Lib.hid hs
  have HX := Lib.hid hx
  have HM1 := Lib.hid m1
  have HA := Lib.hid hA
  have hbl1 := m1.lt
  have HB0 := Lib.hid (below1 w (.cells #[.int .i64 L, .int .i64 V, .slice A ws.length cap] 56))
  have KS := Lib.hid (show ∀ w', Below (w.heap.size + 1) (w.alloc (.cells #[.int .i64 L, .int .i64 V, .slice A ws.length cap] 56)) w' → (w'.cell? ⟨w.heap.size, 0, none⟩ = some (.int .i64 L) ∧ w'.cell? ⟨w.heap.size, 1, none⟩ = some (.int .i64 V) ∧ w'.cell? ⟨w.heap.size, 2, none⟩ = some (.slice A ws.length cap)) from fun w' hw => ⟨(hw.cell (p := ⟨w.heap.size, 0, none⟩) (Nat.lt_succ_self _)).trans (by go_simp), (hw.cell (p := ⟨w.heap.size, 1, none⟩) (Nat.lt_succ_self _)).trans (by go_simp), (hw.cell (p := ⟨w.heap.size, 2, none⟩) (Nat.lt_succ_self _)).trans (by go_simp)⟩)
  clear hr hs hx m1 hA h1 h2' hu
  go_enter Tryz.func44, Tryz.ntmps44
  go_upto_region 1 with fail
  go_cut [5] (fun v wy => ∃ mm nn, v = .map (some mm) ∧ w.heap.size + 1 ≤ mm ∧ Below (w.heap.size + 1) (w.alloc (.cells #[.int .i64 L, .int .i64 V, .slice A ws.length cap] 56)) wy ∧ nn ≤ ws.length ∧ MapV wy mm nn h)
  case first =>
    go_region_held3 (fun w' => w'.cell? ⟨w.heap.size, 0, none⟩ = some (.int .i64 L) ∧ w'.cell? ⟨w.heap.size, 1, none⟩ = some (.int .i64 V) ∧ w'.cell? ⟨w.heap.size, 2, none⟩ = some (.slice A ws.length cap))
      (first | (exact KS.out _ (Below.drew (Below.refl _ _))) | (exact KS.out _ hb2) | (exact KS.out _ hb3) | fail)
      (first
        | (go_at_call 43; refine (wholeFraction_c _ _).mono ?_; rintro e w2 ⟨rfl, hb0⟩; have hb2 : Below (w.heap.size + 1) (w.alloc (.cells #[.int .i64 L, .int .i64 V, .slice A ws.length cap] 56)) w2 := ⟨hb0.os, hb0.tape, hb0.output, by have := hb0.size; simpa using this, fun j hj => hb0.block j (by simpa using hj)⟩)
        | (go_at_call 45; have hMu := multiple_c L V A cap ws hl HS.out x HX.out b1 n1 w2 (HR.out.below (HB0.out.trans (hb2.mono (Nat.le_succ _))) (Nat.le_refl _)) (fun q e => Nat.lt_of_lt_of_le (HA.out q e) (HB0.out.trans (hb2.mono (Nat.le_succ _))).size) (HM1.out.below (HB0.out.trans (hb2.mono (Nat.le_succ _))) hbl1) 1 1 (by decide); rw [HE.out] at hMu; (with_reducible refine hMu.mono ?_); rintro e w3 ⟨mm, nn, rfl, hmm, hb3', hnn, hM3⟩; have hb3 := hb2.trans (hb3'.mono (show w.heap.size + 1 ≤ w2.heap.size by have := hb2.size; simpa using this)); have hmw : w.heap.size + 1 ≤ mm := Nat.le_trans (by have := hb2.size; simpa using this) hmm)
        | fail)
    all_goals (go_wp2_with fail; go_meet)
    all_goals exact ⟨mm, nn, rfl, hmw, hb3, hnn, hM3⟩
  case rest =>
    obtain ⟨mm, nn, rfl, hmw, hbc, hnn, hMc⟩ := hcut
    obtain ⟨w1, rfl⟩ : ∃ w1 : World, w1 = wc := ⟨_, rfl⟩
    have hz1 : w.heap.size + 1 ≤ w1.heap.size := by have := hbc.size; simpa using this
    have HW := Lib.hid (HB0.out.trans (hbc.mono (Nat.le_succ _)))
    have hM := Lib.hid hMc
    have hlm := hMc.lt
    have KT := Lib.hid (show ∀ w', Below w1.heap.size w1 w' → (w'.cell? ⟨w.heap.size, 0, none⟩ = some (.int .i64 L) ∧ w'.cell? ⟨w.heap.size, 1, none⟩ = some (.int .i64 V) ∧ w'.cell? ⟨w.heap.size, 2, none⟩ = some (.slice A ws.length cap)) from fun w' hw => KS.out w' (hbc.trans (hw.mono hz1)))
    have HR1 := Lib.hid (HR.out.below HW.out (Nat.le_refl _))
    have hwm : w.heap.size ≠ mm := by omega
    have e0 := (KT.out w1 (Below.refl _ _)).1
    have e1 := (KT.out w1 (Below.refl _ _)).2.1
    have e2 := (KT.out w1 (Below.refl _ _)).2.2
    clear hMc hbc
    go_upto_region 2 with fail
    go_region_held3 (fun w' => w'.cell? ⟨w.heap.size, 0, none⟩ = some (.int .i64 L) ∧ w'.cell? ⟨w.heap.size, 1, none⟩ = some (.int .i64 V) ∧ w'.cell? ⟨w.heap.size, 2, none⟩ = some (.slice A ws.length cap))
      (first | exact ⟨z0, z1, z2⟩ | (exact KT.out _ (Below.drew (Below.refl _ _))) | (exact KT.out _ hbz) | (exact KT.out _ hb2) | fail)
      (first
        | (go_at_call 71; (with_reducible refine (unitValues_c w1.drew).mono ?_); rintro e w2 ⟨m2, rfl, hm2, hb2', hM2⟩; have hb2 : Below w1.heap.size w1 w2 := ⟨hb2'.os, hb2'.tape, hb2'.output, hb2'.size, hb2'.block⟩; have hm2' : w1.heap.size ≤ m2 := hm2)
        | (go_at_call 43; refine (wholeFraction_c _ w1.drew).mono ?_; rintro e w2 ⟨rfl, hb0⟩; have hb2 : Below w1.heap.size w1 w2 := ⟨hb0.os, hb0.tape, hb0.output, hb0.size, hb0.block⟩)
        | (go_at_call 43; refine (wholeFraction_c _ w2).mono ?_; rintro e wz ⟨rfl, hb0⟩; have hbz := hb2.trans (hb0.mono hb2.size); have hMz := hM2.below hb0 hM2.lt)
        | (go_at_call 71; (with_reducible refine (unitValues_c w2).mono ?_); rintro e wz ⟨m2, rfl, hm2, hb2', hMz⟩; have hbz := hb2.trans (hb2'.mono hb2.size); have hm2' : w1.heap.size ≤ m2 := Nat.le_trans hb2.size hm2)
        | (go_at_call 95; have hAd := addMultiple_c L V A cap ws hl HS.out h unitF HG1.out HG2.out (-1) 1 (by decide) mm nn m2 _ (by omega) (show m2 ≠ mm by omega) wz (HR1.out.below hbz (Nat.le_refl _)) (fun p e => by have := HA.out p e; omega) (hM.out.below hbz hlm) hMz; rw [HK.out] at hAd; (with_reducible refine hAd.mono ?_); rintro e w5 ⟨rfl, hM5, hG5⟩; have hb5 : Below w.heap.size w w5 := HW.out.trans ((hbz.mono (by omega)).trans (below_of_grown hG5 (fun g e => by injection e with e; omega) (by have := hbz.size; omega))); have z0 := (gr_cell (i := 0) hG5 (by have := hbz.size; omega) hwm).trans (KT.out _ hbz).1; have z1 := (gr_cell (i := 1) hG5 (by have := hbz.size; omega) hwm).trans (KT.out _ hbz).2.1; have z2 := (gr_cell (i := 2) hG5 (by have := hbz.size; omega) hwm).trans (KT.out _ hbz).2.2)
        | fail)
    all_goals
      have HM5 := Lib.hid hM5
      have HB5 := Lib.hid hb5
      clear hM5 hG5 hb5 z0 z1 z2 e0 e1 e2
      go_wp2
      go_ret
      exact ⟨mm, nn + ws.length, rfl, by omega, HB5.out, by omega, HM5.out⟩
theorem lessUnit_c (hu : GoodV ws unitF) :
    Calls Tryz.prog 44 #[.agg #[.int .i64 L, .int .i64 V, .slice A ws.length cap], .map (some b1)] w (FewPost (lessV x 1 1 ws) (ws.length + ws.length) w) := by
  cases h1 : addK x 1 1 ws noneF with
  | none => rw [lessV_none h1]; exact lessUnit_1 L V A cap ws hl hs x hx b1 n1 w hr hA m1 h1
  | some h =>
    rw [lessV_some h1]
    cases h2 : addK unitF (-1) 1 ws h with
    | none => exact lessUnit_2 L V A cap ws hl hs x hx b1 n1 w hr hA m1 hu h h1 h2
    | some g => exact lessUnit_3 L V A cap ws hl hs x hx b1 n1 w hr hA m1 hu h h1 g h2
end
end Go.Proofs.YtogbilajlchinaaGreatDoor

namespace Go.Proofs.YtogbilajlchinaaGreatDoor
open Go.RowKit

/-- a function that returns the first numbers, in a row of its own -/
def NumsF (f : Nat → Int × Int) (m : Nat) (W : World) (e : Ending) (w' : World) : Prop := ∃ (a : Option Addr) (c : Nat), e = .returned (.slice a m c) ∧ Below W.heap.size W w' ∧ NewR W.heap.size w'.heap.size w' a (numL f m)
theorem NumsF.of {f : Nat → Int × Int} {m : Nat} {W : World} : ∀ e w', NumsR (numL f m) W e w' → NumsF f m W e w' := by
  rintro e w' ⟨a, c, he, h1, h2⟩
  rw [numL_length] at he
  exact ⟨a, c, he, h1, h2⟩
theorem below_up {B C : Nat} {W1 W2 w' : World} (h : Below B W1 W2) (hz : B ≤ W2.heap.size) (hb : Below C W2 w') (hC : C = W2.heap.size) : Below B W1 w' := h.trans (hb.mono (by omega))

section
variable (L : Int) (N : Nat) (hN : N ≤ 5) (A : Option Addr) (cap : Nat) (ws : List ByteArray) (hl : ws.length ≤ 100000) (hs : ∀ s ∈ ws, s.size ≤ 1000) (hu : GoodV ws unitF) (x : VF) (hx : GoodV ws x) (b1 n1 : Nat) (w : World) (hr : SRow w A ws) (hA : ∀ p, A = some p → p.block < w.heap.size) (m1 : MapV w b1 n1 x)
include hN hl hs hu hx hr hA m1
set_option maxRecDepth 100000 in
set_option maxHeartbeats 4000000 in
theorem exponential_1 (h1 : expV x ws N = none) :
    Calls Tryz.prog 54 #[.agg #[.int .i64 L, .int .i64 N, .slice A ws.length cap], .map (some b1)] w (FewPost none ((N + 1) * ws.length) w) := by
  have HE := Lib.hid (show sumK x ws expF (N + 1) = none from h1)
  have HR := Lib.hid hr
  have HS := Lib.hid hs
  have HU := Lib.hid hu
  have HX := Lib.hid hx
  have HM1 := Lib.hid m1
  have HA := Lib.hid hA
  have hbl1 := m1.lt
  have HB0 := Lib.hid (below1 w (.cells #[.int .i64 L, .int .i64 N, .slice A ws.length cap] 56))
  have hz0 : (w.alloc (.cells #[.int .i64 L, .int .i64 N, .slice A ws.length cap] 56)).heap.size = w.heap.size + 1 := by simp
  have KS := Lib.hid (show ∀ w', Below (w.heap.size + 1) (w.alloc (.cells #[.int .i64 L, .int .i64 N, .slice A ws.length cap] 56)) w' → (w'.cell? ⟨w.heap.size, 0, none⟩ = some (.int .i64 L) ∧ w'.cell? ⟨w.heap.size, 1, none⟩ = some (.int .i64 N) ∧ w'.cell? ⟨w.heap.size, 2, none⟩ = some (.slice A ws.length cap)) from fun w' hw => ⟨(hw.cell (p := ⟨w.heap.size, 0, none⟩) (Nat.lt_succ_self _)).trans (by go_simp), (hw.cell (p := ⟨w.heap.size, 1, none⟩) (Nat.lt_succ_self _)).trans (by go_simp), (hw.cell (p := ⟨w.heap.size, 2, none⟩) (Nat.lt_succ_self _)).trans (by go_simp)⟩)
  clear hr hs hx m1 hA h1 hu
  go_enter Tryz.func54, Tryz.ntmps54
  go_upto_region 1 with fail
  go_region_held2 (fun w' => w'.cell? ⟨w.heap.size, 0, none⟩ = some (.int .i64 L) ∧ w'.cell? ⟨w.heap.size, 1, none⟩ = some (.int .i64 N) ∧ w'.cell? ⟨w.heap.size, 2, none⟩ = some (.slice A ws.length cap))
    (first | (exact KS.out _ (Below.drew (Below.refl _ _))) | (exact KS.out _ hb2) | (exact KS.out _ hb9) | fail)
    (first
      | (go_at_call 98; refine ((expNumbers_c N hN _).mono NumsF.of).mono ?_; rintro e w2 ⟨aN, cN, rfl, hb0, hNr⟩; have hb2 : Below (w.heap.size + 1) (w.alloc (.cells #[.int .i64 L, .int .i64 N, .slice A ws.length cap] 56)) w2 := ⟨hb0.os, hb0.tape, hb0.output, by have := hb0.size; simpa using this, fun j hj => hb0.block j (by simpa using hj)⟩)
      | (go_at_call 47; have hSp := sumOfPowers_c L N A cap ws hl HS.out HU.out x HX.out b1 n1 expF (N + 1) (by omega) (fun k hk => expF_isF (by omega)) aN cN w2 (HR.out.below (HB0.out.trans (hb2.mono (Nat.le_succ _))) (Nat.le_refl _)) (fun q e => Nat.lt_of_lt_of_le (HA.out q e) (HB0.out.trans (hb2.mono (Nat.le_succ _))).size) (HM1.out.below (HB0.out.trans (hb2.mono (Nat.le_succ _))) hbl1) (hNr.mono (Nat.zero_le _) (Nat.le_refl _)); rw [HE.out] at hSp; refine dead_few (.map none) hSp (fun w9 hb9 => ⟨rfl, ⟨rfl, HB0.out.trans ((hb2.mono (Nat.le_succ _)).trans (hb9.mono (HB0.out.trans (hb2.mono (Nat.le_succ _))).size))⟩⟩) ?_; intro hF)
      | fail)
  all_goals exact hF.out.elim
set_option maxRecDepth 100000 in
set_option maxHeartbeats 4000000 in
theorem exponential_2 (h : VF) (h1 : expV x ws N = some h) :
    Calls Tryz.prog 54 #[.agg #[.int .i64 L, .int .i64 N, .slice A ws.length cap], .map (some b1)] w (FewPost (some h) ((N + 1) * ws.length) w) := by
  have HE := Lib.hid (show sumK x ws expF (N + 1) = some h from h1)
  have HR := Lib.hid hr
  have HS := Lib.hid hs
  have HU := Lib.hid hu
  have HX := Lib.hid hx
  have HM1 := Lib.hid m1
  have HA := Lib.hid hA
  have hbl1 := m1.lt
  have HB0 := Lib.hid (below1 w (.cells #[.int .i64 L, .int .i64 N, .slice A ws.length cap] 56))
  have hz0 : (w.alloc (.cells #[.int .i64 L, .int .i64 N, .slice A ws.length cap] 56)).heap.size = w.heap.size + 1 := by simp
  have KS := Lib.hid (show ∀ w', Below (w.heap.size + 1) (w.alloc (.cells #[.int .i64 L, .int .i64 N, .slice A ws.length cap] 56)) w' → (w'.cell? ⟨w.heap.size, 0, none⟩ = some (.int .i64 L) ∧ w'.cell? ⟨w.heap.size, 1, none⟩ = some (.int .i64 N) ∧ w'.cell? ⟨w.heap.size, 2, none⟩ = some (.slice A ws.length cap)) from fun w' hw => ⟨(hw.cell (p := ⟨w.heap.size, 0, none⟩) (Nat.lt_succ_self _)).trans (by go_simp), (hw.cell (p := ⟨w.heap.size, 1, none⟩) (Nat.lt_succ_self _)).trans (by go_simp), (hw.cell (p := ⟨w.heap.size, 2, none⟩) (Nat.lt_succ_self _)).trans (by go_simp)⟩)
  clear hr hs hx m1 hA h1 hu
  go_enter Tryz.func54, Tryz.ntmps54
  go_upto_region 1 with fail
  go_region_held3 (fun w' => w'.cell? ⟨w.heap.size, 0, none⟩ = some (.int .i64 L) ∧ w'.cell? ⟨w.heap.size, 1, none⟩ = some (.int .i64 N) ∧ w'.cell? ⟨w.heap.size, 2, none⟩ = some (.slice A ws.length cap))
    (first | (exact KS.out _ (Below.drew (Below.refl _ _))) | (exact KS.out _ hb2) | (exact KS.out _ hb9) | fail)
    (first
      | (go_at_call 98; refine ((expNumbers_c N hN _).mono NumsF.of).mono ?_; rintro e w2 ⟨aN, cN, rfl, hb0, hNr⟩; have hb2 : Below (w.heap.size + 1) (w.alloc (.cells #[.int .i64 L, .int .i64 N, .slice A ws.length cap] 56)) w2 := ⟨hb0.os, hb0.tape, hb0.output, by have := hb0.size; simpa using this, fun j hj => hb0.block j (by simpa using hj)⟩)
      | (go_at_call 47; have hSp := sumOfPowers_c L N A cap ws hl HS.out HU.out x HX.out b1 n1 expF (N + 1) (by omega) (fun k hk => expF_isF (by omega)) aN cN w2 (HR.out.below (HB0.out.trans (hb2.mono (Nat.le_succ _))) (Nat.le_refl _)) (fun q e => Nat.lt_of_lt_of_le (HA.out q e) (HB0.out.trans (hb2.mono (Nat.le_succ _))).size) (HM1.out.below (HB0.out.trans (hb2.mono (Nat.le_succ _))) hbl1) (hNr.mono (Nat.zero_le _) (Nat.le_refl _)); rw [HE.out] at hSp; (with_reducible refine hSp.mono ?_); rintro e w9 ⟨mm, nn, rfl, hmm, hb9', hnn, hM9⟩; have hb9 := hb2.trans (hb9'.mono (show w.heap.size + 1 ≤ w2.heap.size by have := hb2.size; simpa using this)); have hmw : w.heap.size + 1 ≤ mm := Nat.le_trans (show w.heap.size + 1 ≤ w2.heap.size by have := hb2.size; simpa using this) hmm)
      | fail)
  all_goals
    have HM9 := Lib.hid hM9
    have HB9 := Lib.hid (HB0.out.trans (hb9.mono (Nat.le_succ _)))
    have hz9 := hb9.size
    clear hM9 hb9
    go_wp2
    go_ret
    exact ⟨mm, nn, rfl, by omega, HB9.out, hnn, HM9.out⟩
theorem exponential_c :
    Calls Tryz.prog 54 #[.agg #[.int .i64 L, .int .i64 N, .slice A ws.length cap], .map (some b1)] w (FewPost (expV x ws N) ((N + 1) * ws.length) w) := by
  cases h1 : expV x ws N with
  | none => exact exponential_1 L N hN A cap ws hl hs hu x hx b1 n1 w hr hA m1 h1
  | some h => exact exponential_2 L N hN A cap ws hl hs hu x hx b1 n1 w hr hA m1 h h1
set_option maxRecDepth 100000 in
set_option maxHeartbeats 4000000 in
theorem logarithm_1 (hy : lessV x 1 1 ws = none) :
    Calls Tryz.prog 58 #[.agg #[.int .i64 L, .int .i64 N, .slice A ws.length cap], .map (some b1)] w (FewPost none ((N + 1) * ws.length) w) := by
  have _hN := hN
  have HY := Lib.hid hy
  have HR := Lib.hid hr
  have HS := Lib.hid hs
  have HU := Lib.hid hu
  have HX := Lib.hid hx
  have HM1 := Lib.hid m1
  have HA := Lib.hid hA
  have hbl1 := m1.lt
  have HB0 := Lib.hid (below1 w (.cells #[.int .i64 L, .int .i64 N, .slice A ws.length cap] 56))
  have hz0 : (w.alloc (.cells #[.int .i64 L, .int .i64 N, .slice A ws.length cap] 56)).heap.size = w.heap.size + 1 := by simp
  have KS := Lib.hid (show ∀ w', Below (w.heap.size + 1) (w.alloc (.cells #[.int .i64 L, .int .i64 N, .slice A ws.length cap] 56)) w' → (w'.cell? ⟨w.heap.size, 0, none⟩ = some (.int .i64 L) ∧ w'.cell? ⟨w.heap.size, 1, none⟩ = some (.int .i64 N) ∧ w'.cell? ⟨w.heap.size, 2, none⟩ = some (.slice A ws.length cap)) from fun w' hw => ⟨(hw.cell (p := ⟨w.heap.size, 0, none⟩) (Nat.lt_succ_self _)).trans (by go_simp), (hw.cell (p := ⟨w.heap.size, 1, none⟩) (Nat.lt_succ_self _)).trans (by go_simp), (hw.cell (p := ⟨w.heap.size, 2, none⟩) (Nat.lt_succ_self _)).trans (by go_simp)⟩)
  clear hr hs hx m1 hA hu hy
  go_enter Tryz.func58, Tryz.ntmps58
  go_upto_region 1 with fail
  go_region_held2 (fun w' => w'.cell? ⟨w.heap.size, 0, none⟩ = some (.int .i64 L) ∧ w'.cell? ⟨w.heap.size, 1, none⟩ = some (.int .i64 N) ∧ w'.cell? ⟨w.heap.size, 2, none⟩ = some (.slice A ws.length cap))
    (first | (exact KS.out _ (Below.drew (Below.refl _ _))) | (exact KS.out _ hb9) | (exact KS.out _ hb3) | (exact KS.out _ hb2) | fail)
    (first
      | (go_at_call 44; have hLu := lessUnit_c L N A cap ws hl HS.out x HX.out b1 n1 (w.alloc (.cells #[.int .i64 L, .int .i64 N, .slice A ws.length cap] 56)).drew (show SRow (w.alloc (.cells #[.int .i64 L, .int .i64 N, .slice A ws.length cap] 56)).drew A ws from HR.out.below HB0.out.drew (Nat.le_refl _)) (fun q e => by have := HA.out q e; show q.block < (w.alloc (.cells #[.int .i64 L, .int .i64 N, .slice A ws.length cap] 56)).heap.size; omega) (show MapV (w.alloc (.cells #[.int .i64 L, .int .i64 N, .slice A ws.length cap] 56)).drew b1 n1 x from HM1.out.alloc (.cells #[.int .i64 L, .int .i64 N, .slice A ws.length cap] 56)) HU.out; rw [HY.out] at hLu; refine dead_few (.map none) hLu (fun w9 hb9 => ⟨rfl, ⟨rfl, HB0.out.trans (show Below w.heap.size (w.alloc (.cells #[.int .i64 L, .int .i64 N, .slice A ws.length cap] 56)) w9 from ⟨hb9.os, hb9.tape, hb9.output, hb9.size, fun j hj => hb9.block j (by show j < (w.alloc (.cells #[.int .i64 L, .int .i64 N, .slice A ws.length cap] 56)).heap.size; omega)⟩)⟩⟩) ?_; intro hF)
      | (go_at_call 99; refine dead_call hF (.slice none 0 0) ?_)
      | (go_at_call 47; refine dead_call hF (.map none) ?_)
      | (go_at_call 99; refine ((logNumbers_c N hN _).mono NumsF.of).mono ?_; rintro e w2 ⟨aN, cN, rfl, hb0, hNr⟩; have hb2 : Below (w.heap.size + 1) (w.alloc (.cells #[.int .i64 L, .int .i64 N, .slice A ws.length cap] 56)) w2 := ⟨hb0.os, hb0.tape, hb0.output, by have := hb0.size; simpa using this, fun j hj => hb0.block j (by simpa using hj)⟩)
      | (go_at_call 44; have hLu := lessUnit_c L N A cap ws hl HS.out x HX.out b1 n1 w2 (HR.out.below (HB0.out.trans (hb2.mono (Nat.le_succ _))) (Nat.le_refl _)) (fun q e => Nat.lt_of_lt_of_le (HA.out q e) (HB0.out.trans (hb2.mono (Nat.le_succ _))).size) (HM1.out.below (HB0.out.trans (hb2.mono (Nat.le_succ _))) hbl1) HU.out; rw [HY.out] at hLu; refine dead_few (.map none) hLu (fun w9 hb9 => ⟨rfl, ⟨rfl, HB0.out.trans ((hb2.mono (Nat.le_succ _)).trans (hb9.mono (HB0.out.trans (hb2.mono (Nat.le_succ _))).size))⟩⟩) ?_; intro hF)
      | fail)
  all_goals exact hF.out.elim
set_option maxRecDepth 100000 in
set_option maxHeartbeats 4000000 in
theorem logarithm_2 (y : VF) (hy : lessV x 1 1 ws = some y) (h1 : sumK y ws logF (N + 1) = none) :
    Calls Tryz.prog 58 #[.agg #[.int .i64 L, .int .i64 N, .slice A ws.length cap], .map (some b1)] w (FewPost none ((N + 1) * ws.length) w) := by
  have HY := Lib.hid hy
  have HE := Lib.hid h1
  have HGy := Lib.hid (lessV_good hy)
  have HR := Lib.hid hr
  have HS := Lib.hid hs
  have HU := Lib.hid hu
  have HX := Lib.hid hx
  have HM1 := Lib.hid m1
  have HA := Lib.hid hA
  have hbl1 := m1.lt
  have HB0 := Lib.hid (below1 w (.cells #[.int .i64 L, .int .i64 N, .slice A ws.length cap] 56))
  have hz0 : (w.alloc (.cells #[.int .i64 L, .int .i64 N, .slice A ws.length cap] 56)).heap.size = w.heap.size + 1 := by simp
  have KS := Lib.hid (show ∀ w', Below (w.heap.size + 1) (w.alloc (.cells #[.int .i64 L, .int .i64 N, .slice A ws.length cap] 56)) w' → (w'.cell? ⟨w.heap.size, 0, none⟩ = some (.int .i64 L) ∧ w'.cell? ⟨w.heap.size, 1, none⟩ = some (.int .i64 N) ∧ w'.cell? ⟨w.heap.size, 2, none⟩ = some (.slice A ws.length cap)) from fun w' hw => ⟨(hw.cell (p := ⟨w.heap.size, 0, none⟩) (Nat.lt_succ_self _)).trans (by go_simp), (hw.cell (p := ⟨w.heap.size, 1, none⟩) (Nat.lt_succ_self _)).trans (by go_simp), (hw.cell (p := ⟨w.heap.size, 2, none⟩) (Nat.lt_succ_self _)).trans (by go_simp)⟩)
  clear hr hs hx m1 hA hu hy h1
  go_enter Tryz.func58, Tryz.ntmps58
  go_upto_region 1 with fail
  go_region_held2 (fun w' => w'.cell? ⟨w.heap.size, 0, none⟩ = some (.int .i64 L) ∧ w'.cell? ⟨w.heap.size, 1, none⟩ = some (.int .i64 N) ∧ w'.cell? ⟨w.heap.size, 2, none⟩ = some (.slice A ws.length cap))
    (first | (exact KS.out _ (Below.drew (Below.refl _ _))) | (exact KS.out _ hb9) | (exact KS.out _ hb3) | (exact KS.out _ hb2) | fail)
    (first
      | (go_at_call 44; have hLu := lessUnit_c L N A cap ws hl HS.out x HX.out b1 n1 (w.alloc (.cells #[.int .i64 L, .int .i64 N, .slice A ws.length cap] 56)).drew (show SRow (w.alloc (.cells #[.int .i64 L, .int .i64 N, .slice A ws.length cap] 56)).drew A ws from HR.out.below HB0.out.drew (Nat.le_refl _)) (fun q e => by have := HA.out q e; show q.block < (w.alloc (.cells #[.int .i64 L, .int .i64 N, .slice A ws.length cap] 56)).heap.size; omega) (show MapV (w.alloc (.cells #[.int .i64 L, .int .i64 N, .slice A ws.length cap] 56)).drew b1 n1 x from HM1.out.alloc (.cells #[.int .i64 L, .int .i64 N, .slice A ws.length cap] 56)) HU.out; rw [HY.out] at hLu; (with_reducible refine hLu.mono ?_); rintro e w2 ⟨my, ny, rfl, hmy, hbL, hny, hMy⟩; have hb2 : Below (w.heap.size + 1) (w.alloc (.cells #[.int .i64 L, .int .i64 N, .slice A ws.length cap] 56)) w2 := ⟨hbL.os, hbL.tape, hbL.output, by have := hbL.size; simpa using this, fun j hj => hbL.block j (by simpa using hj)⟩)
      | (go_at_call 99; refine ((logNumbers_c N hN _).mono NumsF.of).mono ?_; rintro e w2 ⟨aN, cN, rfl, hb0, hNr⟩; have hb2 : Below (w.heap.size + 1) (w.alloc (.cells #[.int .i64 L, .int .i64 N, .slice A ws.length cap] 56)) w2 := ⟨hb0.os, hb0.tape, hb0.output, by have := hb0.size; simpa using this, fun j hj => hb0.block j (by simpa using hj)⟩)
      | (go_at_call 99; refine ((logNumbers_c N hN w2).mono NumsF.of).mono ?_; rintro e w3 ⟨aN, cN, rfl, hb0, hNr⟩; have hb3 := hb2.trans (hb0.mono (show w.heap.size + 1 ≤ w2.heap.size by have := hb2.size; simpa using this)); have hMy := hMy.below hb0 hMy.lt)
      | (go_at_call 44; have hLu := lessUnit_c L N A cap ws hl HS.out x HX.out b1 n1 w2 (HR.out.below (HB0.out.trans (hb2.mono (Nat.le_succ _))) (Nat.le_refl _)) (fun q e => Nat.lt_of_lt_of_le (HA.out q e) (HB0.out.trans (hb2.mono (Nat.le_succ _))).size) (HM1.out.below (HB0.out.trans (hb2.mono (Nat.le_succ _))) hbl1) HU.out; rw [HY.out] at hLu; (with_reducible refine hLu.mono ?_); rintro e w3 ⟨my, ny, rfl, hmy, hbL, hny, hMy⟩; have hb3 := hb2.trans (hbL.mono (show w.heap.size + 1 ≤ w2.heap.size by have := hb2.size; simpa using this)); have hNr := (hNr.below hbL (Nat.le_refl _)).mono (lo' := 0) (hi' := w3.heap.size) (Nat.zero_le _) hbL.size)
      | (go_at_call 47; have hSp := sumOfPowers_c L N A cap ws hl HS.out HU.out y HGy.out my ny logF (N + 1) (by omega) (fun k hk => logF_isF (by omega)) aN cN w3 (HR.out.below (HB0.out.trans (hb3.mono (Nat.le_succ _))) (Nat.le_refl _)) (fun q e => Nat.lt_of_lt_of_le (HA.out q e) (HB0.out.trans (hb3.mono (Nat.le_succ _))).size) hMy (hNr.mono (Nat.zero_le _) (Nat.le_refl _)); rw [HE.out] at hSp; refine dead_few (.map none) hSp (fun w9 hb9 => ⟨rfl, ⟨rfl, HB0.out.trans ((hb3.mono (Nat.le_succ _)).trans (hb9.mono (HB0.out.trans (hb3.mono (Nat.le_succ _))).size))⟩⟩) ?_; intro hF)
      | fail)
  all_goals exact hF.out.elim
set_option maxRecDepth 100000 in
set_option maxHeartbeats 4000000 in
theorem logarithm_3 (y : VF) (hy : lessV x 1 1 ws = some y) (h : VF) (h1 : sumK y ws logF (N + 1) = some h) :
    Calls Tryz.prog 58 #[.agg #[.int .i64 L, .int .i64 N, .slice A ws.length cap], .map (some b1)] w (FewPost (some h) ((N + 1) * ws.length) w) := by
  have HY := Lib.hid hy
  have HE := Lib.hid h1
  have HGy := Lib.hid (lessV_good hy)
  have HR := Lib.hid hr
  have HS := Lib.hid hs
  have HU := Lib.hid hu
  have HX := Lib.hid hx
  have HM1 := Lib.hid m1
  have HA := Lib.hid hA
  have hbl1 := m1.lt
  have HB0 := Lib.hid (below1 w (.cells #[.int .i64 L, .int .i64 N, .slice A ws.length cap] 56))
  have hz0 : (w.alloc (.cells #[.int .i64 L, .int .i64 N, .slice A ws.length cap] 56)).heap.size = w.heap.size + 1 := by simp
  have KS := Lib.hid (show ∀ w', Below (w.heap.size + 1) (w.alloc (.cells #[.int .i64 L, .int .i64 N, .slice A ws.length cap] 56)) w' → (w'.cell? ⟨w.heap.size, 0, none⟩ = some (.int .i64 L) ∧ w'.cell? ⟨w.heap.size, 1, none⟩ = some (.int .i64 N) ∧ w'.cell? ⟨w.heap.size, 2, none⟩ = some (.slice A ws.length cap)) from fun w' hw => ⟨(hw.cell (p := ⟨w.heap.size, 0, none⟩) (Nat.lt_succ_self _)).trans (by go_simp), (hw.cell (p := ⟨w.heap.size, 1, none⟩) (Nat.lt_succ_self _)).trans (by go_simp), (hw.cell (p := ⟨w.heap.size, 2, none⟩) (Nat.lt_succ_self _)).trans (by go_simp)⟩)
  clear hr hs hx m1 hA hu hy h1
  go_enter Tryz.func58, Tryz.ntmps58
  go_upto_region 1 with fail
  go_region_held3 (fun w' => w'.cell? ⟨w.heap.size, 0, none⟩ = some (.int .i64 L) ∧ w'.cell? ⟨w.heap.size, 1, none⟩ = some (.int .i64 N) ∧ w'.cell? ⟨w.heap.size, 2, none⟩ = some (.slice A ws.length cap))
    (first | (exact KS.out _ (Below.drew (Below.refl _ _))) | (exact KS.out _ hb9) | (exact KS.out _ hb3) | (exact KS.out _ hb2) | fail)
    (first
      | (go_at_call 44; have hLu := lessUnit_c L N A cap ws hl HS.out x HX.out b1 n1 (w.alloc (.cells #[.int .i64 L, .int .i64 N, .slice A ws.length cap] 56)).drew (show SRow (w.alloc (.cells #[.int .i64 L, .int .i64 N, .slice A ws.length cap] 56)).drew A ws from HR.out.below HB0.out.drew (Nat.le_refl _)) (fun q e => by have := HA.out q e; show q.block < (w.alloc (.cells #[.int .i64 L, .int .i64 N, .slice A ws.length cap] 56)).heap.size; omega) (show MapV (w.alloc (.cells #[.int .i64 L, .int .i64 N, .slice A ws.length cap] 56)).drew b1 n1 x from HM1.out.alloc (.cells #[.int .i64 L, .int .i64 N, .slice A ws.length cap] 56)) HU.out; rw [HY.out] at hLu; (with_reducible refine hLu.mono ?_); rintro e w2 ⟨my, ny, rfl, hmy, hbL, hny, hMy⟩; have hb2 : Below (w.heap.size + 1) (w.alloc (.cells #[.int .i64 L, .int .i64 N, .slice A ws.length cap] 56)) w2 := ⟨hbL.os, hbL.tape, hbL.output, by have := hbL.size; simpa using this, fun j hj => hbL.block j (by simpa using hj)⟩)
      | (go_at_call 99; refine ((logNumbers_c N hN _).mono NumsF.of).mono ?_; rintro e w2 ⟨aN, cN, rfl, hb0, hNr⟩; have hb2 : Below (w.heap.size + 1) (w.alloc (.cells #[.int .i64 L, .int .i64 N, .slice A ws.length cap] 56)) w2 := ⟨hb0.os, hb0.tape, hb0.output, by have := hb0.size; simpa using this, fun j hj => hb0.block j (by simpa using hj)⟩)
      | (go_at_call 99; refine ((logNumbers_c N hN w2).mono NumsF.of).mono ?_; rintro e w3 ⟨aN, cN, rfl, hb0, hNr⟩; have hb3 := hb2.trans (hb0.mono (show w.heap.size + 1 ≤ w2.heap.size by have := hb2.size; simpa using this)); have hMy := hMy.below hb0 hMy.lt)
      | (go_at_call 44; have hLu := lessUnit_c L N A cap ws hl HS.out x HX.out b1 n1 w2 (HR.out.below (HB0.out.trans (hb2.mono (Nat.le_succ _))) (Nat.le_refl _)) (fun q e => Nat.lt_of_lt_of_le (HA.out q e) (HB0.out.trans (hb2.mono (Nat.le_succ _))).size) (HM1.out.below (HB0.out.trans (hb2.mono (Nat.le_succ _))) hbl1) HU.out; rw [HY.out] at hLu; (with_reducible refine hLu.mono ?_); rintro e w3 ⟨my, ny, rfl, hmy, hbL, hny, hMy⟩; have hb3 := hb2.trans (hbL.mono (show w.heap.size + 1 ≤ w2.heap.size by have := hb2.size; simpa using this)); have hNr := (hNr.below hbL (Nat.le_refl _)).mono (lo' := 0) (hi' := w3.heap.size) (Nat.zero_le _) hbL.size)
      | (go_at_call 47; have hSp := sumOfPowers_c L N A cap ws hl HS.out HU.out y HGy.out my ny logF (N + 1) (by omega) (fun k hk => logF_isF (by omega)) aN cN w3 (HR.out.below (HB0.out.trans (hb3.mono (Nat.le_succ _))) (Nat.le_refl _)) (fun q e => Nat.lt_of_lt_of_le (HA.out q e) (HB0.out.trans (hb3.mono (Nat.le_succ _))).size) hMy (hNr.mono (Nat.zero_le _) (Nat.le_refl _)); rw [HE.out] at hSp; (with_reducible refine hSp.mono ?_); rintro e w9 ⟨mm, nn, rfl, hmm, hb9', hnn, hM9⟩; have hb9 := hb3.trans (hb9'.mono (show w.heap.size + 1 ≤ w3.heap.size by have := hb3.size; simpa using this)); have hmw : w.heap.size + 1 ≤ mm := Nat.le_trans (show w.heap.size + 1 ≤ w3.heap.size by have := hb3.size; simpa using this) hmm)
      | fail)
  all_goals
    have HM9 := Lib.hid hM9
    have HB9 := Lib.hid (HB0.out.trans (hb9.mono (Nat.le_succ _)))
    have hz9 := hb9.size
    clear hM9 hb9
    go_wp2
    go_ret
    exact ⟨mm, nn, rfl, by omega, HB9.out, hnn, HM9.out⟩
theorem logarithm_c :
    Calls Tryz.prog 58 #[.agg #[.int .i64 L, .int .i64 N, .slice A ws.length cap], .map (some b1)] w (FewPost (logV x ws N) ((N + 1) * ws.length) w) := by
  cases hy : lessV x 1 1 ws with
  | none =>
    rw [show logV x ws N = none by unfold logV; rw [hy]; rfl]
    exact logarithm_1 L N hN A cap ws hl hs hu x hx b1 n1 w hr hA m1 hy
  | some y =>
    rw [show logV x ws N = sumK y ws logF (N + 1) by unfold logV; rw [hy]; rfl]
    cases h1 : sumK y ws logF (N + 1) with
    | none => exact logarithm_2 L N hN A cap ws hl hs hu x hx b1 n1 w hr hA m1 y hy h1
    | some h => exact logarithm_3 L N hN A cap ws hl hs hu x hx b1 n1 w hr hA m1 y hy h h1
end
end Go.Proofs.YtogbilajlchinaaGreatDoor
