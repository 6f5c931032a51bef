/-
  The model's commutator of two series, and the plain mathematics of commutators.
  The program's commutator of maps of values: two products, and one is taken from the other; or a fraction does not fit and the call panics.
-/
import Derived.Test.YteljpgoaaelbfaaGreatDoorTimes
import Derived.Test.YteljpgoaaelbfaaGreatDoorAddL
import Derived.Deep.RegionHeld2
namespace Go.Proofs.YteljpgoaaelbfaaGreatDoor
open Go.RowKit

/-- the commutator of values by word, if all fits -/
def commV (f g : VF) (ws : List ByteArray) : Option VF := (prodV f g ws).bind fun h1 => (prodV g f ws).bind fun h2 => addK h2 (-1) 1 ws h1
def commL (f g : VF) (ws : List ByteArray) : Option (List Tm) := (commV f g ws).map fun h => termsOf h ws
def lessL2 : Option (List Tm) → Option (List Tm) → Option (List Tm)
  | some p, some q => (scaledL (-1) 1 q).bind fun us => putAll p us
  | _, _ => none
theorem commL_eq {f g : VF} {ws : List ByteArray} (hv : ws.Pairwise lessW) : commL f g ws = lessL2 (prodL f g ws) (prodL g f ws) := by
  rw [prodL_V, prodL_V]
  unfold commL commV
  cases prodV f g ws with
  | none => rfl
  | some h1 =>
    cases prodV g f ws with
    | none => rfl
    | some h2 => exact (addK_put hv (fun s h => h) h1).symm
theorem GoodV.commV {f g h : VF} {ws : List ByteArray} (e : commV f g ws = some h) : GoodV ws h := by
  unfold Go.Proofs.YteljpgoaaelbfaaGreatDoor.commV at e
  obtain ⟨h1, e1, e2⟩ := Option.bind_eq_some_iff.1 e
  obtain ⟨h2, e3, e4⟩ := Option.bind_eq_some_iff.1 e2
  exact (GoodV.prodV e1).addK (fun s hs => hs) e4
theorem prodL_bd {f g : VF} {ws : List ByteArray} (hl : ws.length ≤ 1048576) {p : List Tm} (e : prodL f g ws = some p) : p.length ≤ 1048576 ∧ ∀ t ∈ p, bdT t := by
  rw [prodL_V] at e
  obtain ⟨h, e1, rfl⟩ := Option.map_eq_some_iff.1 e
  refine ⟨Nat.le_trans (termsOf_len h ws) hl, fun t ht => ?_⟩
  have hg := (GoodV.prodV e1) t.s (t.n, t.d) (termsOf_iff.1 ht).2
  have := isF_abs hg.2.1
  exact ⟨this.1, this.2.1⟩

theorem tri_stored {g : Nat} {u v t x y z : Value} {w' : World} (h0 : w'.cell? ⟨g, 0, none⟩ = some u) (h1 : w'.cell? ⟨g, 1, none⟩ = some v) (h2 : w'.cell? ⟨g, 2, none⟩ = some t) :
    (((w'.setCell ⟨g, 0, none⟩ x).setCell ⟨g, 1, none⟩ y).setCell ⟨g, 2, none⟩ z).cell? ⟨g, 0, none⟩ = some x ∧ (((w'.setCell ⟨g, 0, none⟩ x).setCell ⟨g, 1, none⟩ y).setCell ⟨g, 2, none⟩ z).cell? ⟨g, 1, none⟩ = some y ∧ (((w'.setCell ⟨g, 0, none⟩ x).setCell ⟨g, 1, none⟩ y).setCell ⟨g, 2, none⟩ z).cell? ⟨g, 2, none⟩ = some z := by
  have hp := pair_stored (x := x) (y := y) h0 h1
  have n2 : (⟨g, 2, none⟩ : Addr) ≠ ⟨g, 0, none⟩ := by simp
  have n3 : (⟨g, 2, none⟩ : Addr) ≠ ⟨g, 1, none⟩ := by simp
  have e : ((w'.setCell ⟨g, 0, none⟩ x).setCell ⟨g, 1, none⟩ y).cell? ⟨g, 2, none⟩ = some t := (World.cell?_setCell_other _ _ _ _ n3.symm).trans ((World.cell?_setCell_other _ _ _ _ n2.symm).trans h2)
  exact ⟨(World.cell?_setCell_other _ _ _ _ n2).trans hp.1, (World.cell?_setCell_other _ _ _ _ n3).trans hp.2, World.cell?_setCell_same _ _ _ e⟩
theorem far_tri {g n o : Nat} {u v t : Value} {w' : World} (h : n < g) : (((w'.setCell ⟨g, 0, none⟩ u).setCell ⟨g, 1, none⟩ v).setCell ⟨g, 2, none⟩ t).cell? ⟨n, o, none⟩ = w'.cell? ⟨n, o, none⟩ := by
  rw [World.cell?_setCell_far _ _ _ _ (by show g ≠ n; omega), World.cell?_setCell_far _ _ _ _ (by show g ≠ n; omega), World.cell?_setCell_far _ _ _ _ (by show g ≠ n; omega)]
def AddCut (wb : World) (x y z : Value) (ok : Bool) (v10 v11 : Value) (wy : World) : Prop :=
  ∃ g, v10 = .pointer (some ⟨g, 0, none⟩) ∧ v11 = .bool ok ∧ wb.heap.size ≤ g ∧ g < wy.heap.size ∧ Below wb.heap.size wb wy ∧ wy.cell? ⟨g, 0, none⟩ = some x ∧ wy.cell? ⟨g, 1, none⟩ = some y ∧ wy.cell? ⟨g, 2, none⟩ = some z

end Go.Proofs.YteljpgoaaelbfaaGreatDoor

namespace Go.Proofs.YteljpgoaaelbfaaGreatDoor
open Go.RowKit

/-- what a product comes to, with the count of its map's room -/
def FewPost (r : Option VF) (m : Nat) (W : World) (e : Ending) (w' : World) : Prop :=
  match r with
  | none => e = .panicked [misP 3] ∧ Below W.heap.size W w'
  | some h => ∃ b n, e = .returned (.map (some b)) ∧ W.heap.size ≤ b ∧ Below W.heap.size W w' ∧ n ≤ m ∧ MapV w' b n h
theorem dead_add {f : FuncId} {args : Array Value} {w : World} {b n : Nat} {R : Ending → World → Prop} (h : Calls Tryz.prog f args w (AddPost none b n w)) (hp : ∀ w', w.grownBy w' (some b) → R (.panicked [misP 3]) w') (_h : Hid False → R (.returned (.tuple #[])) w) : Calls Tryz.prog f args w R := by
  refine h.mono ?_
  rintro e w' ⟨rfl, hb⟩
  exact hp w' hb
set_option maxRecDepth 100000 in
set_option maxHeartbeats 4000000 in
theorem productFew_c (L V : Int) (a : Option Addr) (cap : Nat) (ws : List ByteArray) (hl : ws.length ≤ 1048575) (hs : ∀ s ∈ ws, s.size ≤ 1000) (f g : VF) (hf : ∀ s p, f s = some p → isF p.1 p.2 = true) (hg : ∀ s p, g s = some p → isF p.1 p.2 = true) (b1 n1 b2 n2 : Nat) (w : World) (hr : SRow w a ws) (m1 : MapV w b1 n1 f) (m2 : MapV w b2 n2 g) :
    Calls Tryz.prog 66 #[.agg #[.int .i64 L, .int .i64 V, .slice a ws.length cap], .map (some b1), .map (some b2)] w (FewPost (prodV f g ws) ws.length w) := by
  have hmm := @run_makeMap Tryz.prog
  have HR := Lib.hid hr
  have HS := Lib.hid hs
  have HF1 := Lib.hid hf
  have HF2 := Lib.hid hg
  have HM1 := Lib.hid m1
  have HM2 := Lib.hid m2
  have hb1 := m1.lt
  have hb2 := m2.lt
  clear hr hs hf hg m1 m2
  go_enter Tryz.func66, Tryz.ntmps66
  go_wp2_with fail
  clear hmm
  go_loopw [14] (fun vi wr => ∃ (k : Nat), k ≤ ws.length ∧ vi = .int .i64 k ∧ prodOk f g (ws.take k) = true ∧ Below w.heap.size w wr ∧ MapV wr (w.heap.size + 1) k (onL (ws.take k) (prodF f g))) (fun vi _ => ws.length - (intOf vi).toNat)
  case atStart => exact ⟨0, Nat.zero_le _, rfl, rfl, below2 _ _ _, by
    have h := MapV.made (w.alloc (.cells #[.int .i64 L, .int .i64 V, .slice a ws.length cap] 50))
    rw [World.size_alloc] at h
    exact h.congr (fun s => rfl)⟩
  case round =>
    obtain ⟨k, hk, rfl, hP, hB, hM⟩ := hrel
    have HP := Lib.hid hP
    have HB := Lib.hid hB
    have HM := Lib.hid hM
    have hzm := hM.lt
    clear hP hB hM
    by_cases hlt : k < ws.length
    · rcases HR.out with h | ⟨b0, off, rfl, hb0, ht⟩
      · rw [h] at hlt; simp at hlt
      have c0 := ht.below HB.out hb0 k hlt
      have hsz := HS.out _ (List.getElem_mem hlt)
      have HO := Lib.hid (onL_snoc hlt (prodF f g))
      have HPs := Lib.hid (prodOk_snoc (f := f) (g := g) hlt)
      have HNo := Lib.hid (fun h => prodV_none (prodOk_no (f := f) (g := g) (List.getElem_mem hlt) h))
      obtain ⟨s, hse⟩ : ∃ s, ws[k] = s := ⟨_, rfl⟩
      rw [hse] at c0 hsz HO HPs HNo
      have hsm : s.size ≤ maxLen := by unfold maxLen; omega
      clear hse ht
      go_wp2_with fail
      refine (productAt_c f g HF1.out HF2.out b1 n1 b2 n2 s hsz _ (HM1.out.below HB.out hb1) (HM2.out.below HB.out hb2)).mono ?_
      cases hpa : prodAt f g s with
      | none =>
        rintro e w1 ⟨rfl, hb⟩
        have HW := Lib.hid (HB.out.trans (hb.mono HB.out.size))
        clear hb
        go_wp2
        rw [HNo.out hpa]
        exact ⟨rfl, rfl, HW.out⟩
      | some p =>
        obtain ⟨x, d⟩ := p
        have HPF := Lib.hid (prodF_some hpa)
        have hF : isF x d = true := cutsUp_isF hpa
        have HPA := Lib.hid hpa
        rintro e w1 ⟨rfl, hb⟩
        have HW := Lib.hid (HB.out.trans (hb.mono HB.out.size))
        have HMw := Lib.hid (HM.out.below hb hzm)
        clear hb hpa c0
        simp only
        go_wp2_with fail
        refine (put_c (w.heap.size + 1) k (onL (ws.take k) (prodF f g)) s x d hF (by omega) hsm _ HMw.out).mono ?_
        rintro e w2 ⟨rfl, hM2, hG2⟩
        have HM2' := Lib.hid (show MapV w2 (w.heap.size + 1) (k + 1) (onL (ws.take (k + 1)) (prodF f g)) from by rw [HO.out, HPF.out]; exact hM2)
        have HB2 := Lib.hid (HW.out.trans (below_of_grown (B := w.heap.size) hG2 (fun g h => by cases h; omega) HW.out.size))
        have HP2 := Lib.hid (show prodOk f g (ws.take (k + 1)) = true from by rw [HPs.out, HP.out, HPA.out]; rfl)
        clear hM2 hG2
        go_wp2
        go_roundw
        case rel => exact ⟨k + 1, by omega, by go_num, HP2.out, HB2.out, HM2'.out⟩
        case measure => simp [intOf]; omega
    · obtain rfl : k = ws.length := by omega
      have hP := HP.out
      have hM := HM.out
      rw [List.take_length] at hP hM
      have HV := Lib.hid (prodV_some hP)
      have HMf := Lib.hid hM
      clear hP hM
      go_wp2
      rw [HV.out]
      go_ret
      exact ⟨w.heap.size + 1, ws.length, rfl, Nat.le_succ _, HB.out, Nat.le_refl _, HMf.out⟩

end Go.Proofs.YteljpgoaaelbfaaGreatDoor
