/-
  Contracts of TableCommutator and DoTablesCommute, of the program and of its model.
-/
import Derived.Test.YtngpnbdndkddlaaDoorComS
import Derived.Test.YtngpnbdndkddlaaDoorPwS
namespace Go.Proofs.YtngpnbdndkddlaaDoor
open Go.RowKit

theorem tab_ent {lo hi : Nat} {w : World} {a : Option Addr} {ts : Tabs} {D : Int} (hT : tabsB D ts = true) (hr : TRow lo hi w a ts) {q : Nat} (hq : q < ts.length) :
    ∃ b off a' c', a = some ⟨b, off, none⟩ ∧ w.cell? ⟨b, off + q, none⟩ = some (.slice a' (wid ts) c') ∧ PRow lo hi w a' (tabF (wid ts) (tF ts q)) := by
  have h := (tabs_sq hT).2 q hq
  obtain ⟨b, off, a', c', e, c0, hP⟩ := hr.get (Below.refl hi w) (Nat.le_refl _) hq
  have ht : tF ts q = entF ts[q] := by unfold tF; rw [getD_at hq]
  refine ⟨b, off, a', c', e, ?_, ?_⟩
  · rw [h.1.1] at c0; exact c0
  · rw [ht, ← h.2.1]; exact hP
theorem tab_bd {ts : Tabs} {D : Int} (hT : tabsB D ts = true) {q : Nat} (hq : q < ts.length) : BdF (wid ts) 1000 (tF ts q) := by
  have ht : tF ts q = entF ts[q] := by unfold tF; rw [getD_at hq]
  rw [ht]; exact ((tabs_sq hT).2 q hq).2.2
theorem nullT_no {n : Nat} {F : MF} (i j : Nat) (hi : i < n) (hj : j < n) (h : ¬ F i j = 0) : nullT n F = false := by
  have hl := tabF_length n F
  have hr := tabF_rowlen (n := n) (F := F) (i := i) (by omega)
  unfold nullT rowsM
  refine all_no i (by omega) ?_
  refine rowM_num j (by omega) ?_
  rw [tabF_get]
  unfold inB
  simp only [decide_eq_false_iff_not]
  omega
theorem nullT_yes {n : Nat} {F : MF} (h : ∀ i j, i < n → j < n → F i j = 0) : nullT n F = true := by
  have hl := tabF_length n F
  unfold nullT rowsM
  refine all_yes fun i hi => ?_
  refine rowM_good (by rw [tabF_rowlen]) fun j hj => ?_
  rw [tabF_get, h i j (by omega) (by rw [tabF_rowlen] at hj; exact hj)]
  decide

section
variable (lo hi : Nat) (L : Int) (a : Option Addr) (cap : Nat) (ts : Tabs) (hl : ts.length ≤ 1048576) (hs : sz3 ts ≤ 1048576) (w : World) (hr : TRow lo hi w a ts)
include hl hs hr

theorem sTc_1 (i k : Int) (h : tabsB L ts = false) : Calls Tryd.prog 20 #[.int .i64 L, .slice a ts.length cap, .int .i64 i, .int .i64 k] w (TblPost [] 1 w) := by
  have HAr := Lib.hid (l08Are_c lo hi L a cap ts hl hs w hr)
  rw [h] at HAr
  clear hr hl
  go_enter Tryd.func20, Tryd.ntmps20
  go_wp2_with (first | (go_at_call 41; refine HAr.out.mono ?_; rintro e w' ⟨rfl, rfl⟩) | fail)
  go_ret2
  exact TblPost.err 1
theorem iTc_1 (i k : Int) (h : tabsB L ts = false) : Calls Tryd.prog 21 #[.int .i64 L, .slice a ts.length cap, .int .i64 i, .int .i64 k] w (GridsPost [] 1 w) := by
  have HAr := Lib.hid (iAreT_c lo hi L a cap ts hl hs w hr)
  rw [h] at HAr
  clear hr hl
  go_enter Tryd.func21, Tryd.ntmps21
  go_wp2_with (first | (go_at_call 44; refine HAr.out.mono ?_; rintro e w' ⟨rfl, rfl⟩) | fail)
  go_ret2
  exact GridsPost.err 1
theorem sTc_2 (i k : Int) (h : tabsB L ts = true) (h2 : (inB i 0 (L - 1) && inB k 0 (L - 1)) = false) : Calls Tryd.prog 20 #[.int .i64 L, .slice a ts.length cap, .int .i64 i, .int .i64 k] w (TblPost [] 2 w) := by
  have HAr := Lib.hid (l08Are_c lo hi L a cap ts hl hs w hr)
  have hLb := inB_true (tabsB_true h).1
  rw [h] at HAr
  clear hr hl h
  cases h1 : inB i 0 (L - 1) with
  | false =>
    go_enter Tryd.func20, Tryd.ntmps20
    go_wp2_with (first | (go_at_call 41; refine HAr.out.mono ?_; rintro e w' ⟨rfl, rfl⟩) | (go_at_call 47; refine (l01In_c _ _ _ _).mono ?_; rw [h1]; rintro e w' ⟨rfl, rfl⟩) | fail)
    go_ret2
    exact TblPost.err 2
  | true =>
    have h3 : inB k 0 (L - 1) = false := by rw [h1, Bool.true_and] at h2; exact h2
    clear h2
    go_enter Tryd.func20, Tryd.ntmps20
    go_wp2_with (first | (go_at_call 41; refine HAr.out.mono ?_; rintro e w' ⟨rfl, rfl⟩) | (go_at_call 47; refine (l01In_c _ _ _ _).mono ?_; (first | rw [h1] | rw [h3]); rintro e w' ⟨rfl, rfl⟩) | fail)
    go_ret2
    exact TblPost.err 2
theorem iTc_2 (i k : Int) (h : tabsB L ts = true) (h2 : (inB i 0 (L - 1) && inB k 0 (L - 1)) = false) : Calls Tryd.prog 21 #[.int .i64 L, .slice a ts.length cap, .int .i64 i, .int .i64 k] w (GridsPost [] 2 w) := by
  have HAr := Lib.hid (iAreT_c lo hi L a cap ts hl hs w hr)
  have hLb := inB_true (tabsB_true h).1
  rw [h] at HAr
  clear hr hl h
  cases h1 : inB i 0 (L - 1) with
  | false =>
    go_enter Tryd.func21, Tryd.ntmps21
    go_wp2_with (first | (go_at_call 44; refine HAr.out.mono ?_; rintro e w' ⟨rfl, rfl⟩) | (go_at_call 48; refine (isBetween_c _ _ _ _).mono ?_; rw [h1]; rintro e w' ⟨rfl, rfl⟩) | fail)
    go_ret2
    exact GridsPost.err 2
  | true =>
    have h3 : inB k 0 (L - 1) = false := by rw [h1, Bool.true_and] at h2; exact h2
    clear h2
    go_enter Tryd.func21, Tryd.ntmps21
    go_wp2_with (first | (go_at_call 44; refine HAr.out.mono ?_; rintro e w' ⟨rfl, rfl⟩) | (go_at_call 48; refine (isBetween_c _ _ _ _).mono ?_; (first | rw [h1] | rw [h3]); rintro e w' ⟨rfl, rfl⟩) | fail)
    go_ret2
    exact GridsPost.err 2

variable (hh : hi ≤ w.heap.size)
include hh
set_option maxRecDepth 100000 in
set_option maxHeartbeats 4000000 in
theorem sTc_3 (i k : Nat) (h : tabsB L ts = true) (hi1 : i < ts.length) (hk1 : k < ts.length) : Calls Tryd.prog 20 #[.int .i64 L, .slice a ts.length cap, .int .i64 i, .int .i64 k] w (TblPost (tabF (wid ts) (comF (wid ts) ts i k)) 0 w) := by
  have HAr := Lib.hid (l08Are_c lo hi L a cap ts hl hs w hr)
  have hLb := inB_true (tabsB_true h).1
  have hLe := (tabsB_true h).2.1
  obtain ⟨b, off, xa, ca, ea, d0, hPa⟩ := tab_ent h hr hi1
  obtain ⟨b', off', xb, cb, eb, d1, hPb⟩ := tab_ent h hr hk1
  have e := ea.symm.trans eb
  injection e with e
  injection e with e1 e2
  subst e1 e2
  have hn := (tabs_sq h).1
  have HC := Lib.hid (fun (W : World) r1 r2 h1 h2 => l08Commutator_c (wid ts) hn lo hi lo hi xa xb ca cb (tF ts i) (tF ts k) (tab_bd h hi1) (tab_bd h hk1) W r1 r2 h1 h2)
  have h1 : inB (i : Int) 0 (L - 1) = true := inB_yes (by omega)
  have h3 : inB (k : Int) 0 (L - 1) = true := inB_yes (by omega)
  have HPa := Lib.hid hPa
  have HPb := Lib.hid hPb
  have HLn := Lib.hid (tabF_length (wid ts) (comF (wid ts) ts i k))
  have HCo := Lib.hid (show (fun r c => mulT (wid ts) (tF ts i) (tF ts k) r c - mulT (wid ts) (tF ts k) (tF ts i) r c) = comF (wid ts) ts i k from rfl)
  rw [h] at HAr
  subst ea
  clear hr hl h hPa hPb eb hLe
  go_enter Tryd.func20, Tryd.ntmps20
  go_upto_region 5 with (first | (go_at_call 41; refine HAr.out.mono ?_; rintro e w' ⟨rfl, rfl⟩) | (go_at_call 47; refine (l01In_c _ _ _ _).mono ?_; (first | rw [h1] | rw [h3]); rintro e w' ⟨rfl, rfl⟩) | fail)
  go_region_with (go_at_call 42; refine (HC.out w.drew HPa.out HPb.out hh hh).mono ?_; rintro e w1 ⟨a4, c4, rfl, hb1, hP1⟩)
  all_goals
    go_wp2
    go_ret2
    exact ⟨a4, c4, by rw [HLn.out]; rfl, ⟨hb1.os, hb1.tape, hb1.output, hb1.size, hb1.block⟩, by rw [← HCo.out]; exact hP1⟩
set_option maxRecDepth 100000 in
set_option maxHeartbeats 4000000 in
theorem iTc_3 (i k : Nat) (h : tabsB L ts = true) (hi1 : i < ts.length) (hk1 : k < ts.length) : Calls Tryd.prog 21 #[.int .i64 L, .slice a ts.length cap, .int .i64 i, .int .i64 k] w (GridsPost (tabF (wid ts) (comF (wid ts) ts i k)) 0 w) := by
  have HAr := Lib.hid (iAreT_c lo hi L a cap ts hl hs w hr)
  have hLb := inB_true (tabsB_true h).1
  have hLe := (tabsB_true h).2.1
  have HC := Lib.hid (commutatorAt_c L lo hi a cap ts h i k hi1 hk1 w hr hh)
  have h1 : inB (i : Int) 0 (L - 1) = true := inB_yes (by omega)
  have h3 : inB (k : Int) 0 (L - 1) = true := inB_yes (by omega)
  have HLn := Lib.hid (tabF_length (wid ts) (comF (wid ts) ts i k))
  rw [h] at HAr
  clear hr hl h hLe
  go_enter Tryd.func21, Tryd.ntmps21
  go_wp2_with (first | (go_at_call 44; refine HAr.out.mono ?_; rintro e w' ⟨rfl, rfl⟩) | (go_at_call 48; refine (isBetween_c _ _ _ _).mono ?_; (first | rw [h1] | rw [h3]); rintro e w' ⟨rfl, rfl⟩) | fail)
  refine HC.out.mono ?_
  rintro e w1 ⟨a4, c4, rfl, hb1, hP1⟩
  go_wp2
  go_ret2
  exact ⟨a4, c4, by rw [HLn.out]; rfl, hb1, .inr ⟨_, hP1⟩⟩
end

/-- do the tables commute? -/
def commB (n : Nat) (ts : Tabs) : Bool := (List.range ts.length).all fun i => (List.range i).all fun k => nullT n (comF n ts i k)
theorem commB_no {n : Nat} {ts : Tabs} {i k : Nat} (hi : i < ts.length) (hk : k < i) (h : nullT n (comF n ts i k) = false) : commB n ts = false := by
  unfold commB
  refine all_no i (by simpa using hi) ?_
  rw [List.getElem_range]
  refine all_no k (by simpa using hk) ?_
  rw [List.getElem_range]
  exact h
theorem commB_yes {n : Nat} {ts : Tabs} (h : ∀ i k, i < ts.length → k < i → nullT n (comF n ts i k) = true) : commB n ts = true := by
  unfold commB
  refine all_yes fun i hi => ?_
  rw [List.getElem_range]
  refine all_yes fun k hk => ?_
  rw [List.getElem_range]
  exact h i k (by simpa using hi) (by simpa using hk)
def BoolPost (z : Bool) (c : Int) (W : World) (e : Ending) (w' : World) : Prop := e = .returned (.tuple #[.bool z, .int .i64 c]) ∧ Below W.heap.size W w'

section
variable (lo hi : Nat) (L : Int) (a : Option Addr) (cap : Nat) (ts : Tabs) (hl : ts.length ≤ 1048576) (hs : sz3 ts ≤ 1048576) (w : World) (hr : TRow lo hi w a ts)
include hl hs hr
theorem sDo_1 (h : tabsB L ts = false) : Calls Tryd.prog 16 #[.int .i64 L, .slice a ts.length cap] w (BoolPost false 1 w) := by
  have HAr := Lib.hid (l08Are_c lo hi L a cap ts hl hs w hr)
  rw [h] at HAr
  clear hr hl
  go_enter Tryd.func16, Tryd.ntmps16
  go_wp2_with (first | (go_at_call 41; refine HAr.out.mono ?_; rintro e w' ⟨rfl, rfl⟩) | fail)
  go_ret2
  exact ⟨rfl, Below.refl _ _⟩
theorem iDo_1 (h : tabsB L ts = false) : Calls Tryd.prog 18 #[.int .i64 L, .slice a ts.length cap] w (BoolPost false 1 w) := by
  have HAr := Lib.hid (iAreT_c lo hi L a cap ts hl hs w hr)
  rw [h] at HAr
  clear hr hl
  go_enter Tryd.func18, Tryd.ntmps18
  go_wp2_with (first | (go_at_call 44; refine HAr.out.mono ?_; rintro e w' ⟨rfl, rfl⟩) | fail)
  go_ret2
  exact ⟨rfl, Below.refl _ _⟩

variable (hh : hi ≤ w.heap.size)
include hh
set_option maxRecDepth 100000 in
set_option maxHeartbeats 4000000 in
theorem iDo_2 (h : tabsB L ts = true) : Calls Tryd.prog 18 #[.int .i64 L, .slice a ts.length cap] w (BoolPost (commB (wid ts) ts) 0 w) := by
  have HAr := Lib.hid (iAreT_c lo hi L a cap ts hl hs w hr)
  have hLb := inB_true (tabsB_true h).1
  have hLe := (tabsB_true h).2.1
  have hn := (tabs_sq h).1
  have HC := Lib.hid (fun i k (hi1 : i < ts.length) (hk1 : k < ts.length) W hr hh => commutatorAt_c L lo hi a cap ts h i k hi1 hk1 W hr hh)
  have HNo := Lib.hid (fun i k (hi : i < ts.length) (hk : k < i) h => commB_no (n := wid ts) hi hk h)
  have HYes := Lib.hid (fun h => commB_yes (n := wid ts) (ts := ts) h)
  have HR := Lib.hid hr
  obtain ⟨o, ho⟩ : ∃ o, commB (wid ts) ts = o := ⟨_, rfl⟩
  rw [ho] at HNo HYes ⊢
  rw [h] at HAr
  subst hLe
  clear hr hl h ho
  go_enter Tryd.func18, Tryd.ntmps18
  go_wp2_with (first | (go_at_call 44; refine HAr.out.mono ?_; rintro e w' ⟨rfl, rfl⟩) | fail)
  go_loopw [13] (fun vi wr => ∃ i : Nat, i ≤ ts.length ∧ vi = .int .i64 i ∧ (∀ x y, x < i → y < x → nullT (wid ts) (comF (wid ts) ts x y) = true) ∧ Below w.heap.size w wr) (fun vi _ => ts.length - (intOf vi).toNat)
  case atStart => exact ⟨0, Nat.zero_le _, rfl, fun x y hx => absurd hx (Nat.not_lt_zero _), Below.refl _ _⟩
  case round =>
    obtain ⟨i, hi1, rfl, hok, hB⟩ := hrel
    have HOk := Lib.hid hok
    have HB := Lib.hid hB
    have hzw := hB.size
    clear hok hB
    by_cases hlt : i < ts.length
    · go_wp2
      go_loopw [17] (fun vk wr => ∃ k : Nat, k ≤ i ∧ vk = .int .i64 k ∧ (∀ y, y < k → nullT (wid ts) (comF (wid ts) ts i y) = true) ∧ Below w.heap.size w wr) (fun vk _ => i - (intOf vk).toNat)
      case atStart => exact ⟨0, Nat.zero_le _, rfl, fun y hy => absurd hy (Nat.not_lt_zero _), HB.out⟩
      case round =>
        obtain ⟨k, hk1, rfl, hok2, hB2⟩ := hrel
        have HOk2 := Lib.hid hok2
        have HB2 := Lib.hid hB2
        have hz2 := hB2.size
        clear hok2 hB2
        by_cases hltk : k < i
        · have HN1 := Lib.hid (HNo.out i k hlt hltk)
          go_wp2_with fail
          refine (HC.out i k hlt (by omega) _ (HR.out.below HB2.out hh) (by omega)).mono ?_
          rintro e w3 ⟨a3, c3, rfl, hb3, hG3⟩
          have HB3 := Lib.hid (HB2.out.trans (hb3.mono hz2))
          have HNl := Lib.hid (isNull_c (wid ts) hn.2 _ _ a3 c3 (comF (wid ts) ts i k) w3 hG3.row)
          clear hb3 hG3
          cases hnl : nullT (wid ts) (comF (wid ts) ts i k) with
          | false =>
            rw [hnl] at HNl
            have HF := Lib.hid (HN1.out hnl)
            go_wp2_with (first | (go_at_call 45; refine HNl.out.mono ?_; rintro e w' ⟨rfl, rfl⟩) | fail)
            go_ret2
            rw [HF.out]
            exact ⟨rfl, HB3.out⟩
          | true =>
            rw [hnl] at HNl
            have HT := Lib.hid hnl
            clear hnl
            go_wp2_with (first | (go_at_call 45; refine HNl.out.mono ?_; rintro e w' ⟨rfl, rfl⟩) | fail)
            go_roundw
            case rel =>
              refine ⟨k + 1, hltk, by go_num, fun y hy => ?_, HB3.out⟩
              by_cases e : y = k
              · subst e; exact HT.out
              · exact HOk2.out y (by omega)
            case measure => simp [intOf]; omega
        · obtain rfl : k = i := by omega
          go_wp2
          go_roundw
          case rel =>
            refine ⟨k + 1, hlt, by go_num, fun x y hx hy => ?_, HB2.out⟩
            by_cases e : x = k
            · subst e; exact HOk2.out y hy
            · exact HOk.out x y (by omega) hy
          case measure => simp [intOf]; omega
    · obtain rfl : i = ts.length := by omega
      have HF := Lib.hid (HYes.out HOk.out)
      go_wp2
      go_ret2
      rw [HF.out]
      exact ⟨rfl, HB.out⟩

set_option maxRecDepth 100000 in
set_option maxHeartbeats 8000000 in
theorem sDo_2 (h : tabsB L ts = true) : Calls Tryd.prog 16 #[.int .i64 L, .slice a ts.length cap] w (BoolPost (commB (wid ts) ts) 0 w) := by
  have HAr := Lib.hid (l08Are_c lo hi L a cap ts hl hs w hr)
  have hLb := inB_true (tabsB_true h).1
  have hn := (tabs_sq h).1
  have hLe := (tabsB_true h).2.1
  have HEnt := Lib.hid (fun q (hq : q < ts.length) W (hb : Below w.heap.size w W) => tab_ent h (hr.below hb hh) hq)
  have HC := Lib.hid (fun i k (hi1 : i < ts.length) (hk1 : k < ts.length) xa xb ca cb (W : World) r1 r2 h1 h2 => l08Commutator_c (wid ts) hn lo hi lo hi xa xb ca cb (tF ts i) (tF ts k) (tab_bd h hi1) (tab_bd h hk1) W r1 r2 h1 h2)
  have HNo := Lib.hid (fun i k (hi : i < ts.length) (hk : k < i) h => commB_no (n := wid ts) hi hk h)
  have HYes := Lib.hid (fun h => commB_yes (n := wid ts) (ts := ts) h)
  obtain ⟨o, ho⟩ : ∃ o, commB (wid ts) ts = o := ⟨_, rfl⟩
  rw [ho] at HNo HYes ⊢
  rw [h] at HAr
  have hl3 : (ts.length : Int) ≤ 3 := by omega
  clear hr hl h ho hLe
  go_enter Tryd.func16, Tryd.ntmps16
  go_wp2_with (first | (go_at_call 41; refine HAr.out.mono ?_; rintro e w' ⟨rfl, rfl⟩) | fail)
  go_loopw [6] (fun vi wr => ∃ i : Nat, i ≤ ts.length ∧ vi = .int .i64 i ∧ (∀ x y, x < i → y < x → nullT (wid ts) (comF (wid ts) ts x y) = true) ∧ Below w.heap.size w wr) (fun vi _ => ts.length - (intOf vi).toNat)
  case atStart => exact ⟨0, Nat.zero_le _, rfl, fun x y hx => absurd hx (Nat.not_lt_zero _), Below.refl _ _⟩
  case round =>
    obtain ⟨i, hi1, rfl, hok, hB⟩ := hrel
    have HOk := Lib.hid hok
    have HB := Lib.hid hB
    have hzw := hB.size
    clear hok hB
    by_cases hlt : i < ts.length
    · go_wp2
      go_loopw [7] (fun vk wr => ∃ k : Nat, k ≤ i ∧ vk = .int .i64 k ∧ (∀ y, y < k → nullT (wid ts) (comF (wid ts) ts i y) = true) ∧ Below w.heap.size w wr) (fun vk _ => i - (intOf vk).toNat)
      case atStart => exact ⟨0, Nat.zero_le _, rfl, fun y hy => absurd hy (Nat.not_lt_zero _), HB.out⟩
      case round =>
        obtain ⟨k, hk1, rfl, hok2, hB2⟩ := hrel
        have HOk2 := Lib.hid hok2
        have HB2 := Lib.hid hB2
        have hz2 := hB2.size
        clear hok2 hB2
        by_cases hltk : k < i
        · have hkl : k < ts.length := by omega
          obtain ⟨b, off, xa, ca, ea, d0, hPa⟩ := HEnt.out i hlt wr HB2.out
          obtain ⟨b', off', xb, cb, eb, d1, hPb⟩ := HEnt.out k hkl wr HB2.out
          have e := ea.symm.trans eb
          injection e with e
          injection e with e1 e2
          subst e1 e2
          have HPa := Lib.hid hPa
          have HPb := Lib.hid hPb
          subst ea
          have HN1 := Lib.hid (HNo.out i k hlt hltk)
          have hil : (i : Int) < (ts.length : Int) := by omega
          have hkl2 : (k : Int) < (ts.length : Int) := by omega
          clear hPa hPb eb
          go_upto_region 9 with fail
          go_cut [8] (fun s8 wc => ∃ a4 c4, s8 = .slice a4 (wid ts) c4 ∧ Below wr.heap.size wr wc ∧ PRow wr.heap.size wc.heap.size wc a4 (tabF (wid ts) (comF (wid ts) ts i k)))
          case first =>
            go_region_with (go_at_call 42; refine (HC.out i k hlt hkl xa xb ca cb wr.drew HPa.out HPb.out (show hi ≤ wr.heap.size by omega) (show hi ≤ wr.heap.size by omega)).mono ?_; rintro e w1 ⟨a4, c4, rfl, hb1, hP1⟩)
            all_goals (go_wp2_with fail; go_meet)
            all_goals exact ⟨a4, c4, rfl, ⟨hb1.os, hb1.tape, hb1.output, hb1.size, hb1.block⟩, hP1⟩
          case rest =>
            obtain ⟨a4, c4, rfl, hBc, hPc⟩ := hcut
            obtain ⟨wy, rfl⟩ : ∃ wy : World, wy = wc := ⟨_, rfl⟩
            have HB3 := Lib.hid (HB2.out.trans (hBc.mono hz2))
            have HPc := Lib.hid hPc
            clear d0 d1 hBc hPc
            have HNn := Lib.hid (fun r c (hr : r < wid ts) (hc : c < wid ts) q => HN1.out (nullT_no r c hr hc q))
            have HNy := Lib.hid (fun q => nullT_yes (n := wid ts) (F := comF (wid ts) ts i k) q)
            have HEq := Lib.hid (show ∀ q, nullT (wid ts) (comF (wid ts) ts i k) = q → nullT (wid ts) (comF (wid ts) ts i k) = q from fun _ h => h)
            obtain ⟨F, hF⟩ : ∃ F, comF (wid ts) ts i k = F := ⟨_, rfl⟩
            have HFe := Lib.hid hF
            rw [hF] at HPc HNn HNy
            clear hF HEq
            obtain ⟨n, hnn⟩ : ∃ n, wid ts = n := ⟨_, rfl⟩
            have HNe := Lib.hid hnn
            rw [hnn] at HPc HNn HNy hn ⊢
            clear hnn
            have hn6 : (n : Int) ≤ 6 := by omega
            go_wp2
            go_loop [9] (fun v9 => ∃ r : Nat, r ≤ n ∧ v9 = .int .i64 r ∧ ∀ x c, x < r → c < n → F x c = 0) (fun v9 => n - (intOf v9).toNat)
            case atStart => exact ⟨0, Nat.zero_le _, rfl, fun x c hx => absurd hx (Nat.not_lt_zero _)⟩
            case round =>
              obtain ⟨r, hrn, rfl, hz⟩ := hrel
              have HZ := Lib.hid hz
              clear hz
              by_cases hltr : r < n
              · obtain ⟨ba, oa, ya, ya', ea, hba, d0, ba', oa', rfl, hba', d1⟩ := HPc.out.ent hltr
                subst ea
                have HD1 := Lib.hid d1
                clear d1
                go_wp2
                go_loop [10] (fun v10 => ∃ c : Nat, c ≤ n ∧ v10 = .int .i64 c ∧ ∀ x, x < c → F r x = 0) (fun v10 => n - (intOf v10).toNat)
                case atStart => exact ⟨0, Nat.zero_le _, rfl, fun x hx => absurd hx (Nat.not_lt_zero _)⟩
                case round =>
                  obtain ⟨c, hcn, rfl, hz2⟩ := hrel
                  have HZ2 := Lib.hid hz2
                  clear hz2
                  by_cases hltc : c < n
                  · have q1 := HD1.out c hltc
                    have HNc := Lib.hid (HNn.out r c hltr hltc)
                    have hrn2 : (r : Int) < (n : Int) := by omega
                    have hcn2 : (c : Int) < (n : Int) := by omega
                    by_cases hx : F r c = 0
                    · have HX := Lib.hid hx
                      rw [hx] at q1
                      go_wp2
                      go_round
                      case rel =>
                        refine ⟨c + 1, hltc, by go_num, fun x hx => ?_⟩
                        by_cases e : x = c
                        · subst e; exact HX.out
                        · exact HZ2.out x (by omega)
                      case measure => simp [intOf]; omega
                    · have HF := Lib.hid (HNc.out hx)
                      have hxb : (F r c != 0) = true := by simpa using hx
                      go_wp2
                      go_ret2
                      rw [HF.out]
                      exact ⟨rfl, HB3.out⟩
                  · obtain rfl : c = n := by omega
                    go_wp2
                    go_round
                    case rel =>
                      refine ⟨r + 1, hltr, by go_num, fun x y hx hy => ?_⟩
                      by_cases e : x = r
                      · subst e; exact HZ2.out y hy
                      · exact HZ.out x y (by omega) hy
                    case measure => simp [intOf]; omega
              · obtain rfl : r = n := by omega
                have HT := Lib.hid (HNy.out HZ.out)
                go_wp2
                go_roundw
                case rel =>
                  refine ⟨k + 1, hltk, by go_num, fun y hy => ?_, HB3.out⟩
                  by_cases e : y = k
                  · subst e
                    rw [HFe.out, HNe.out]; exact HT.out
                  · exact HOk2.out y (by omega)
                case measure => simp [intOf]; omega
        · obtain rfl : k = i := by omega
          go_wp2
          go_roundw
          case rel =>
            refine ⟨k + 1, hlt, by go_num, fun x y hx hy => ?_, HB2.out⟩
            by_cases e : x = k
            · subst e; exact HOk2.out y hy
            · exact HOk.out x y (by omega) hy
          case measure => simp [intOf]; omega
    · obtain rfl : i = ts.length := by omega
      have HF := Lib.hid (HYes.out HOk.out)
      go_wp2
      go_ret2
      rw [HF.out]
      exact ⟨rfl, HB.out⟩
end
end Go.Proofs.YtngpnbdndkddlaaDoor
