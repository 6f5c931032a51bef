/-
  Lists of terms compared, and AreSignaturesEqual: contracts of the program and of the model.
-/
import Derived.Test.YtoeednnkadmjpaaDoorAreC
import Derived.BigQuiet
namespace Go.Proofs.YtoeednnkadmjpaaDoor
open Go.RowKit

theorem eqT_all {x y : List Tm} (hl : x.length = y.length) (h : ∀ i (h1 : i < x.length) (h2 : i < y.length), x[i] = y[i]) : x = y := List.ext_getElem hl h
theorem toList_ne {a b : ByteArray} (h : ¬ a = b) : ¬ a.toList = b.toList := fun e => h (by rw [ByteArray.toList_eq, ByteArray.toList_eq] at e; exact ByteArray.ext (Array.toList_inj.1 e))
theorem ret_b2 {a b : Bool} (h : a = b) : Ending.returned (.bool a) = .returned (.bool b) := by rw [h]

set_option maxRecDepth 100000 in
set_option maxHeartbeats 4000000 in
theorem slicesEqT_c (a1 a2 : Option Addr) (c1 c2 : Nat) (xs ys : List Tm) (hx : xs.length ≤ 1048576) (_hy : ys.length ≤ 1048576) (b : Bool) (hb : b = true ↔ xs = ys) (w : World) (h1 : Row w a1 xs) (h2 : Row w a2 ys) :
    Calls Tryd.prog 71 #[.slice a1 xs.length c1, .slice a2 ys.length c2] w fun e w' => e = .returned (.bool b) ∧ Below w.heap.size w w' := by
  have H1 := Lib.hid h1
  have H2 := Lib.hid h2
  have HBb := Lib.hid hb
  clear h1 h2 hb
  by_cases hlen : xs.length = ys.length
  · have HLn := Lib.hid hlen
    rw [← hlen]
    clear hlen
    go_enter Tryd.func71, Tryd.ntmps71
    go_wp2
    go_loopw [13] (fun vi wr => ∃ k : Nat, k ≤ xs.length ∧ vi = .int .i64 k ∧ Below w.heap.size w wr ∧ Hid (∀ i (h1 : i < xs.length) (h2 : i < ys.length), i < k → xs[i] = ys[i])) (fun vi _ => xs.length - (intOf vi).toNat)
    case atStart => exact ⟨0, Nat.zero_le _, rfl, Below.refl _ _, Lib.hid (fun i _ _ h => absurd h (Nat.not_lt_zero _))⟩
    case round =>
      obtain ⟨k, hk, rfl, hB, hY⟩ := hrel
      have HB := Lib.hid hB
      by_cases hlt : k < xs.length
      · have hlt2 : k < ys.length := by have := HLn.out; omega
        rcases H1.out with h | ⟨b1, o1, rfl, hb1, t1⟩
        · rw [h] at hlt; simp at hlt
        rcases H2.out with h | ⟨b2, o2, rfl, hb2, t2⟩
        · rw [h] at hlt2; simp at hlt2
        obtain ⟨m0, m1, m2⟩ := (t1.below hB (by omega)) k hlt
        obtain ⟨l0, l1, l2⟩ := (t2.below hB (by omega)) k hlt2
        have HNe := Lib.hid (fun (hne : xs[k] ≠ ys[k]) => show b = false from by
          cases hbb : b with
          | false => rfl
          | true => exact absurd (by have := HBb.out.1 hbb; subst this; rfl) hne)
        have HYe := Lib.hid (fun (he : xs[k] = ys[k]) i (h1 : i < xs.length) (h2 : i < ys.length) (hik : i < k + 1) => show xs[i] = ys[i] from by
          by_cases e : i < k
          · exact hY.out i h1 h2 e
          · obtain rfl : i = k := by omega
            exact he)
        obtain ⟨p, hp⟩ : ∃ p, xs[k] = p := ⟨_, rfl⟩
        obtain ⟨q, hq⟩ : ∃ q, ys[k] = q := ⟨_, rfl⟩
        rw [hp] at m0 m1 m2 HNe HYe
        rw [hq] at l0 l1 l2 HNe HYe
        obtain ⟨s1, n1, d1⟩ := p
        obtain ⟨s2, n2, d2⟩ := q
        simp only at m0 m1 m2 l0 l1 l2
        have f0 : (0 : Int) ≤ (k : Int) := by omega
        have f1 : (k : Int) < (xs.length : Int) := by omega
        clear hp hq t1 t2
        clear hB
        by_cases hpq : s1 = s2 ∧ n1 = n2 ∧ d1 = d2
        · obtain ⟨rfl, rfl, rfl⟩ := hpq
          have HG := Lib.hid (HYe.out rfl)
          go_wp2
          go_quiet (fail)
          go_wp2
          go_roundw
          case rel => exact ⟨k + 1, by omega, by go_num, below_drewN HB.out _, Lib.hid HG.out⟩
          case measure => simp [intOf]; omega
        · have HG := Lib.hid (HNe.out (fun e => by injection e with e1 e2 e3; exact hpq ⟨e1, e2, e3⟩))
          by_cases hs : s1 = s2
          · subst hs
            by_cases hn : n1 = n2
            · subst hn
              have hd : ¬ d1 = d2 := fun e => hpq ⟨rfl, rfl, e⟩
              clear hpq
              go_wp2
              go_quiet (fail)
              go_wp2
              go_ret
              exact ⟨ret_b2 HG.out.symm, below_drewN HB.out _⟩
            · clear hpq
              go_wp2
              go_quiet (fail)
              go_wp2
              go_ret
              exact ⟨ret_b2 HG.out.symm, below_drewN HB.out _⟩
          · have hsl := toList_ne hs
            clear hpq
            go_wp2
            go_quiet (fail)
            go_wp2
            go_ret
            exact ⟨ret_b2 HG.out.symm, below_drewN HB.out _⟩
      · have HG := Lib.hid (show b = true from HBb.out.2 (eqT_all HLn.out (fun i h1 h2 => hY.out i h1 h2 (by omega))))
        go_wp2
        go_ret
        exact ⟨ret_b2 HG.out.symm, HB.out⟩
  · have HG := Lib.hid (show b = false from by
      cases hbb : b with
      | false => rfl
      | true => exact absurd (by rw [HBb.out.1 hbb]) hlen)
    have hne : ¬ (xs.length : Int) = (ys.length : Int) := by omega
    have hb0 : ((xs.length : Int) != (ys.length : Int)) = true := by simpa using hne
    go_enter Tryd.func71, Tryd.ntmps71
    go_wp2
    go_ret
    exact ⟨ret_b2 HG.out.symm, Below.refl _ _⟩

set_option maxRecDepth 100000 in
set_option maxHeartbeats 4000000 in
theorem l04Same_c (X1 Y1 X2 Y2 : Int) (a1 a2 : Option Addr) (c1 c2 : Nat) (xs ys : List Tm) (hx : xs.length ≤ 1048576) (_hy : ys.length ≤ 1048576) (b : Bool) (hb : b = true ↔ xs = ys) (w : World) (h1 : Row w a1 xs) (h2 : Row w a2 ys) :
    Calls Tryd.prog 67 #[.agg #[.int .i64 X1, .int .i64 Y1, .slice a1 xs.length c1], .agg #[.int .i64 X2, .int .i64 Y2, .slice a2 ys.length c2]] w fun e w' => e = .returned (.bool b) ∧ Below w.heap.size w w' := by
  have H1 := Lib.hid h1
  have H2 := Lib.hid h2
  have HBb := Lib.hid hb
  clear h1 h2 hb
  by_cases hlen : xs.length = ys.length
  · have HLn := Lib.hid hlen
    rw [← hlen]
    clear hlen
    go_enter Tryd.func67, Tryd.ntmps67
    go_wp2
    go_loopw [5] (fun vi wr => ∃ k : Nat, k ≤ xs.length ∧ vi = .int .i64 k ∧ Below (w.heap.size + 1 + 1) ((w.alloc (.cells #[.int .i64 X1, .int .i64 Y1, .slice a1 xs.length c1] 24)).alloc (.cells #[.int .i64 X2, .int .i64 Y2, .slice a2 xs.length c2] 24)) wr ∧ Hid (∀ i (h1 : i < xs.length) (h2 : i < ys.length), i < k → xs[i] = ys[i])) (fun vi _ => xs.length - (intOf vi).toNat)
    case atStart => exact ⟨0, Nat.zero_le _, rfl, by have h := Below.refl ((w.alloc (.cells #[.int .i64 X1, .int .i64 Y1, .slice a1 xs.length c1] 24)).alloc (.cells #[.int .i64 X2, .int .i64 Y2, .slice a2 xs.length c2] 24)).heap.size ((w.alloc (.cells #[.int .i64 X1, .int .i64 Y1, .slice a1 xs.length c1] 24)).alloc (.cells #[.int .i64 X2, .int .i64 Y2, .slice a2 xs.length c2] 24)); simpa using h, Lib.hid (fun i _ _ h => absurd h (Nat.not_lt_zero _))⟩
    case round =>
      obtain ⟨k, hk, rfl, hB, hY⟩ := hrel
      have HB := Lib.hid hB
      have hB0 : Below w.heap.size w wr := (below2 w _ _).trans (hB.mono (by omega))
      have HB0 := Lib.hid hB0
      have hzr : w.heap.size + 1 + 1 ≤ wr.heap.size := by have := hB.size; simpa using this
      have x2 : wr.cell? ⟨w.heap.size, 2, none⟩ = some (.slice a1 xs.length c1) := (hB.cell (p := ⟨w.heap.size, 2, none⟩) (by show w.heap.size < _; omega)).trans (by go_simp)
      have y2 : wr.cell? ⟨w.heap.size + 1, 2, none⟩ = some (.slice a2 xs.length c2) := (hB.cell (p := ⟨w.heap.size + 1, 2, none⟩) (by show w.heap.size + 1 < _; omega)).trans (by go_simp)
      have hz0 : w.heap.size < wr.heap.size := by omega
      have hz1 : w.heap.size + 1 < wr.heap.size := by omega
      by_cases hlt : k < xs.length
      · have hlt2 : k < ys.length := by have := HLn.out; omega
        rcases H1.out with h | ⟨b1, o1, rfl, hb1, t1⟩
        · rw [h] at hlt; simp at hlt
        rcases H2.out with h | ⟨b2, o2, rfl, hb2, t2⟩
        · rw [h] at hlt2; simp at hlt2
        obtain ⟨m0, m1, m2⟩ := (t1.below hB0 (by omega)) k hlt
        obtain ⟨l0, l1, l2⟩ := (t2.below hB0 (by omega)) k hlt2
        have HNe := Lib.hid (fun (hne : xs[k] ≠ ys[k]) => show b = false from by
          cases hbb : b with
          | false => rfl
          | true => exact absurd (by have := HBb.out.1 hbb; subst this; rfl) hne)
        have HYe := Lib.hid (fun (he : xs[k] = ys[k]) i (h1 : i < xs.length) (h2 : i < ys.length) (hik : i < k + 1) => show xs[i] = ys[i] from by
          by_cases e : i < k
          · exact hY.out i h1 h2 e
          · obtain rfl : i = k := by omega
            exact he)
        obtain ⟨p, hp⟩ : ∃ p, xs[k] = p := ⟨_, rfl⟩
        obtain ⟨q, hq⟩ : ∃ q, ys[k] = q := ⟨_, rfl⟩
        rw [hp] at m0 m1 m2 HNe HYe
        rw [hq] at l0 l1 l2 HNe HYe
        obtain ⟨s1, n1, d1⟩ := p
        obtain ⟨s2, n2, d2⟩ := q
        simp only at m0 m1 m2 l0 l1 l2
        have f0 : (0 : Int) ≤ (k : Int) := by omega
        have f1 : (k : Int) < (xs.length : Int) := by omega
        clear hp hq t1 t2
        clear hB hB0
        by_cases hpq : s1 = s2 ∧ n1 = n2 ∧ d1 = d2
        · obtain ⟨rfl, rfl, rfl⟩ := hpq
          have HG := Lib.hid (HYe.out rfl)
          go_wp2
          go_quiet (fail)
          go_wp2
          go_roundw
          case rel => exact ⟨k + 1, by omega, by go_num, below_drewN HB.out _, Lib.hid HG.out⟩
          case measure => simp [intOf]; omega
        · have HG := Lib.hid (HNe.out (fun e => by injection e with e1 e2 e3; exact hpq ⟨e1, e2, e3⟩))
          by_cases hs : s1 = s2
          · subst hs
            by_cases hn : n1 = n2
            · subst hn
              have hd : ¬ d1 = d2 := fun e => hpq ⟨rfl, rfl, e⟩
              clear hpq
              go_wp2
              go_quiet (fail)
              go_wp2
              go_ret
              exact ⟨ret_b2 HG.out.symm, below_drewN HB0.out _⟩
            · clear hpq
              go_wp2
              go_quiet (fail)
              go_wp2
              go_ret
              exact ⟨ret_b2 HG.out.symm, below_drewN HB0.out _⟩
          · have hsl := toList_ne hs
            clear hpq
            go_wp2
            go_quiet (fail)
            go_wp2
            go_ret
            exact ⟨ret_b2 HG.out.symm, below_drewN HB0.out _⟩
      · have HG := Lib.hid (show b = true from HBb.out.2 (eqT_all HLn.out (fun i h1 h2 => hY.out i h1 h2 (by omega))))
        clear hB hB0
        go_wp2
        go_ret
        exact ⟨ret_b2 HG.out.symm, HB0.out⟩
  · have HG := Lib.hid (show b = false from by
      cases hbb : b with
      | false => rfl
      | true => exact absurd (by rw [HBb.out.1 hbb]) hlen)
    have hne : ¬ (xs.length : Int) = (ys.length : Int) := by omega
    have hb0 : ((xs.length : Int) != (ys.length : Int)) = true := by simpa using hne
    go_enter Tryd.func67, Tryd.ntmps67
    go_wp2
    go_ret
    exact ⟨ret_b2 HG.out.symm, below2 w _ _⟩
end Go.Proofs.YtoeednnkadmjpaaDoor
