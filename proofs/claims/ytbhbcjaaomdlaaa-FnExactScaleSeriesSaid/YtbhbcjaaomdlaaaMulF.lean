/-
  The program's multiplesOf: the product by a fraction of each value that terms have, as a map.
-/
import Derived.Test.YtbhbcjaaomdlaaaMapF
import Derived.Test.YtbhbcjaaomdlaaaOps
import Derived.Test.YtbhbcjaaomdlaaaRes
namespace Go.Proofs.Ytbhbcjaaomdlaaa
open Go.RowKit

/-- a product of fractions -/
def prodF (p q : Int) (x : Int × Int) : Int × Int := (fN (x.1 * p) (x.2 * q), fD (x.1 * p) (x.2 * q))
/-- the map after some terms -/
def mulF (ts : List Tm) (p q : Int) : Nat → Int × Int → Option (Int × Int)
  | 0 => fun _ => none
  | k + 1 => match ts[k]? with
    | none => mulF ts p q k
    | some t => putF (mulF ts p q k) (t.n, t.d) (some (prodF p q (t.n, t.d)))
theorem mulF_succ {ts : List Tm} {p q : Int} {k : Nat} (h : k < ts.length) : mulF ts p q (k + 1) = putF (mulF ts p q k) ((ts[k]).n, (ts[k]).d) (some (prodF p q ((ts[k]).n, (ts[k]).d))) := by
  simp only [mulF, List.getElem?_eq_getElem h]
theorem mulF_some {ts : List Tm} {p q : Int} : ∀ (k : Nat), k ≤ ts.length → ∀ x v, mulF ts p q k x = some v → v = prodF p q x ∧ ∃ i, ∃ h : i < ts.length, i < k ∧ x = ((ts[i]).n, (ts[i]).d)
  | 0, _, x, v, h => by simp [mulF] at h
  | k + 1, hk, x, v, h => by
    have hlt : k < ts.length := by omega
    rw [mulF_succ hlt] at h
    unfold putF at h
    by_cases e : x = ((ts[k]).n, (ts[k]).d)
    · rw [if_pos e] at h
      injection h with h
      exact ⟨by rw [← h, e], k, hlt, by omega, e⟩
    · rw [if_neg e] at h
      obtain ⟨h1, i, hi, hik, h2⟩ := mulF_some k (by omega) x v h
      exact ⟨h1, i, hi, by omega, h2⟩
theorem mulF_known {ts : List Tm} {p q : Int} {k : Nat} (h : k < ts.length) {v : Int × Int} (hv : mulF ts p q k ((ts[k]).n, (ts[k]).d) = some v) : mulF ts p q (k + 1) = mulF ts p q k := by
  rw [mulF_succ h]
  funext x
  unfold putF
  by_cases e : x = ((ts[k]).n, (ts[k]).d)
  · rw [if_pos e, e, hv, (mulF_some k (by omega) _ _ hv).1]
  · rw [if_neg e]
theorem mulF_at {ts : List Tm} {p q : Int} : ∀ (k : Nat), k ≤ ts.length → ∀ i, i < k → ∀ h : i < ts.length, mulF ts p q k ((ts[i]).n, (ts[i]).d) = some (prodF p q ((ts[i]).n, (ts[i]).d))
  | 0, _, i, hi, _ => by omega
  | k + 1, hk, i, hi, h => by
    have hlt : k < ts.length := by omega
    rw [mulF_succ hlt]
    unfold putF
    by_cases e : ((ts[i]).n, (ts[i]).d) = ((ts[k]).n, (ts[k]).d)
    · rw [if_pos e, e]
    · rw [if_neg e]
      have : i ≠ k := fun h => e (by subst h; rfl)
      exact mulF_at k (by omega) i (by omega) h
/-- all products are fractions -/
def okAll (ts : List Tm) (p q : Int) : Bool := ts.all fun t => fOk (t.n * p) (t.d * q)

theorem ok_next {ts : List Tm} {p q : Int} {k : Nat} (hk : k < ts.length) (hO : ∀ i (h : i < ts.length), i < k → fOk ((ts[i]).n * p) ((ts[i]).d * q) = true) (h : fOk ((ts[k]).n * p) ((ts[k]).d * q) = true) : ∀ i (h : i < ts.length), i < k + 1 → fOk ((ts[i]).n * p) ((ts[i]).d * q) = true := fun i hi hik => by
  by_cases e : i = k
  · subst e
    exact h
  · exact hO i hi (by omega)
theorem ok_known {ts : List Tm} {p q : Int} {k : Nat} (hk : k < ts.length) (hO : ∀ i (h : i < ts.length), i < k → fOk ((ts[i]).n * p) ((ts[i]).d * q) = true) {v : Int × Int} (hv : mulF ts p q k ((ts[k]).n, (ts[k]).d) = some v) : ∀ i (h : i < ts.length), i < k + 1 → fOk ((ts[i]).n * p) ((ts[i]).d * q) = true := by
  refine ok_next hk hO ?_
  obtain ⟨_, i, hi, hik, he⟩ := mulF_some k (by omega) _ _ hv
  injection he with e1 e2
  rw [e1, e2]
  exact hO i hi hik
theorem okAll_true {ts : List Tm} {p q : Int} (hO : ∀ i (h : i < ts.length), i < ts.length → fOk ((ts[i]).n * p) ((ts[i]).d * q) = true) : okAll ts p q = true := by
  unfold okAll
  rw [List.all_eq_true]
  intro t ht
  obtain ⟨i, hi, rfl⟩ := List.getElem_of_mem ht
  exact hO i hi hi
theorem okAll_false {ts : List Tm} {p q : Int} {k : Nat} (hk : k < ts.length) (h : fOk ((ts[k]).n * p) ((ts[k]).d * q) = false) : okAll ts p q = false := by
  unfold okAll
  rw [List.all_eq_false]
  exact ⟨ts[k], List.getElem_mem hk, by rw [h]; simp⟩

def MulPost (ts : List Tm) (p q : Int) (W : World) (e : Ending) (w' : World) : Prop :=
  Below W.heap.size W w' ∧ (okAll ts p q = true → ∃ b, e = .returned (.tuple #[.map (some b), .int .i64 0]) ∧ W.heap.size ≤ b ∧ MapF w' b ts.length (mulF ts p q ts.length)) ∧ (okAll ts p q = false → e = .returned (.tuple #[.map none, .int .i64 3]))

set_option maxRecDepth 100000 in
set_option maxHeartbeats 4000000 in
theorem multiplesOf_c (p q : Int) (hpq : isF p q = true) (a : Option Addr) (cap : Nat) (ts : List Tm) (hl : ts.length ≤ 1048576) (hF : ∀ t ∈ ts, isF t.n t.d = true) (w : World) (hr : Row w a ts) :
    Calls Try.prog 33 #[.slice a ts.length cap, .agg #[.int .i64 p, .int .i64 q]] w (MulPost ts p q w) := by
  have hmm := @run_makeMap Try.prog
  have HR := Lib.hid hr
  have HF := Lib.hid hF
  have HQ := Lib.hid hpq
  clear hr hF hpq
  go_enter Try.func33, Try.ntmps33
  go_wp2
  clear hmm
  go_loopw [16] (fun vi wr => ∃ k : Nat, k ≤ ts.length ∧ vi = .int .i64 k ∧ Below (w.heap.size + 1) (w.alloc (.cells #[.int .i64 p, .int .i64 q] 38)) wr ∧ w.heap.size + 1 < wr.heap.size ∧ MapF wr (w.heap.size + 1) k (mulF ts p q k) ∧ ∀ i (h : i < ts.length), i < k → fOk ((ts[i]).n * p) ((ts[i]).d * q) = true) (fun vi _ => ts.length - (intOf vi).toNat)
  case atStart =>
    refine ⟨0, Nat.zero_le _, rfl, ?_, by simp, ?_, fun i h hi => by omega⟩
    · have h := below1 (w.alloc (.cells #[.int .i64 p, .int .i64 q] 38)) (.map #[] 0)
      rw [World.size_alloc] at h
      exact h
    · have h := MapF.made (w.alloc (.cells #[.int .i64 p, .int .i64 q] 38))
      rw [World.size_alloc] at h
      exact h
  case round =>
    obtain ⟨k, hk, rfl, hB, hz, hM, hO⟩ := hrel
    have HB := Lib.hid hB
    have HM := Lib.hid hM
    have HO := Lib.hid hO
    have HW : Hid (Below w.heap.size w wr) := Lib.hid ((below1 w (.cells #[.int .i64 p, .int .i64 q] 38)).trans (hB.mono (by omega)))
    have q0 : wr.cell? ⟨w.heap.size, 0, none⟩ = some (.int .i64 p) := (hB.cell (p := ⟨w.heap.size, 0, none⟩) (Nat.lt_succ_self _)).trans (by go_simp)
    have q1 : wr.cell? ⟨w.heap.size, 1, none⟩ = some (.int .i64 q) := (hB.cell (p := ⟨w.heap.size, 1, none⟩) (Nat.lt_succ_self _)).trans (by go_simp)
    have hz0 : w.heap.size < wr.heap.size := by omega
    have hz1 : w.heap.size < wr.heap.size + 1 := by omega
    clear hB hM hO
    by_cases hlt : k < ts.length
    · rcases HR.out with h | ⟨b, off, rfl, hb, ht⟩
      · rw [h] at hlt; simp at hlt
      obtain ⟨c0, c1, c2⟩ := ht.below HW.out hb k hlt
      have hv := HF.out _ (List.getElem_mem hlt)
      have HV := Lib.hid (mulF_succ (p := p) (q := q) hlt)
      have HK := Lib.hid (fun v hv => mulF_known (p := p) (q := q) hlt (v := v) hv)
      have HOk := Lib.hid (fun v hv => ok_known (p := p) (q := q) hlt HO.out (v := v) hv)
      have HOn := Lib.hid (fun h => ok_next (p := p) (q := q) hlt HO.out h)
      have HOf := Lib.hid (fun h => okAll_false (p := p) (q := q) hlt h)
      obtain ⟨s, n, d, het⟩ : ∃ s n d, ts[k] = ⟨s, n, d⟩ := ⟨_, _, _, rfl⟩
      rw [het] at c0 c1 c2 hv HV HK HOk HOn HOf
      simp only at c0 c1 c2 hv HV HK HOk HOn HOf
      have hF2 := isF_out hv
      have hsm : SmallF (n, d) := ⟨by simp only; omega, by simp only; omega⟩
      have HSm := Lib.hid hsm
      have hmr : mulR n d p q = (fN (n * p) (d * q), fD (n * p) (d * q), fC (n * p) (d * q)) := by rw [mulR_y hv HQ.out]; rfl
      have hmu := fun W => iMul_c_y n d p q hv HQ.out W
      simp only [hmr] at hmu
      have HMu := Lib.hid hmu
      clear hmu hmr
      clear het ht hv hF2 hsm
      cases hf : mulF ts p q k (n, d) with
      | some v =>
        have hOk := HOk.out v hf
        have hKn := HK.out v hf
        obtain ⟨x, y⟩ := v
        have HFf := Lib.hid hf
        have HOk2 := Lib.hid hOk
        have HKn := Lib.hid hKn
        clear hf hOk hKn
        go_wp2_with (at_lookup; refine wpList_lookF rfl _ _ rfl rfl (HM.out.alloc _) n d rfl HSm.out ?_; rw [HFf.out]; simp only [lookV])
        go_roundw
        case rel => exact ⟨k + 1, by omega, by go_num, HB.out.trans ((below2 wr _ _).mono (by omega)), by simp; omega, by rw [HKn.out]; exact ((HM.out.alloc _).alloc _).mono (Nat.le_succ _), HOk2.out⟩
        case measure => simp [intOf]; omega
      | none =>
        have HFf := Lib.hid hf
        clear hf
        go_wp2_with (first | (at_lookup; refine wpList_lookF rfl _ _ rfl rfl (HM.out.alloc _) n d rfl HSm.out ?_; rw [HFf.out]; simp only [lookV]) | fail)
        refine (HMu.out _).mono ?_
        rintro e w2 ⟨rfl, hb2⟩
        have hW2 := hb2
        simp only [World.size_alloc] at hW2
        have t1 : w2.cell? ⟨wr.heap.size, 1, none⟩ = some (.int .i64 n) := (hW2.cell (p := ⟨wr.heap.size, 1, none⟩) (show wr.heap.size < wr.heap.size + 1 + 1 by omega)).trans (by go_simp)
        have t2 : w2.cell? ⟨wr.heap.size, 2, none⟩ = some (.int .i64 d) := (hW2.cell (p := ⟨wr.heap.size, 2, none⟩) (show wr.heap.size < wr.heap.size + 1 + 1 by omega)).trans (by go_simp)
        have hz2 := hW2.size
        simp only [World.size_alloc] at hz2
        have HB2 := Lib.hid (HB.out.trans (((below2 wr (.cells #[.string s, .int .i64 n, .int .i64 d] 60) (.cells #[.int .i64 0, .int .i64 0] 38)).mono (by omega)).trans (hW2.mono (by omega))))
        have HM2 := Lib.hid (((HM.out.alloc (.cells #[.string s, .int .i64 n, .int .i64 d] 60)).alloc (.cells #[.int .i64 0, .int .i64 0] 38)).below hW2 (by omega))
        have hz3 : w.heap.size + 1 < w2.heap.size := by omega
        have hz4 : wr.heap.size < w2.heap.size := by omega
        clear hb2 hW2
        cases hok : fOk (n * p) (d * q) with
        | false =>
          have hfC : fC (n * p) (d * q) = 3 := by simp [fC, hok]
          rw [hfC]
          have HE := Lib.hid (HOf.out hok)
          go_wp2
          go_ret2
          exact ⟨(below1 w _).trans ((HB2.out.trans ((below1 w2 _).mono (by omega))).mono (by omega)), fun h => absurd (HE.out.symm.trans h) (by simp), fun _ => rfl⟩
        | true =>
          have hfC : fC (n * p) (d * q) = 0 := by simp [fC, hok]
          rw [hfC]
          have HE := Lib.hid (HOn.out hok)
          go_wp2_with (refine wpList_putF rfl _ _ _ rfl rfl (HM2.out.alloc _) (by unfold maxLen; omega) n d rfl HSm.out (fN (n * p) (d * q)) (fD (n * p) (d * q)) rfl ?_)
          intro w3 hM3 hG3
          have HM3 := Lib.hid (show MapF w3 (w.heap.size + 1) (k + 1) (mulF ts p q (k + 1)) from by rw [HV.out]; exact hM3)
          have HB3 := Lib.hid ((HB2.out.trans ((below1 w2 (.cells #[.int .i64 (fN (n * p) (d * q)), .int .i64 (fD (n * p) (d * q))] 38)).mono (by omega))).trans (below_of_grown (B := w.heap.size + 1) hG3 (fun g h => by cases h; omega) (by simp; omega)))
          have hz5 : w.heap.size + 1 < w3.heap.size := by have := hG3.size; simp at this; omega
          clear hM3 hG3
          go_wp2
          go_roundw
          case rel => exact ⟨k + 1, by omega, by go_num, HB3.out, hz5, HM3.out, HE.out⟩
          case measure => simp [intOf]; omega
    · obtain rfl : k = ts.length := by omega
      go_wp2
      go_ret2
      exact ⟨HW.out, fun _ => ⟨w.heap.size + 1, rfl, by omega, HM.out⟩, fun h => absurd ((okAll_true HO.out).symm.trans h) (by simp)⟩
end Go.Proofs.Ytbhbcjaaomdlaaa
