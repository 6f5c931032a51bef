/-
  The model's series without a beginning, and without an end.
-/
import Derived.Test.YtjciadbmpkkgdaaPickM
import Derived.Test.YtjciadbmpkkgdaaSumL
import Derived.Deep.RegionHeld3
namespace Go.Proofs.Ytjciadbmpkkgdaa
open Go.RowKit

theorem term_isF7 {L V : Int} {ts : List Tm} (h : serB L V ts = true) : ∀ t ∈ ts, isF t.n t.d = true := fun t ht => by
  have h1 := ser_term h t ht
  simp only [termB, Bool.and_eq_true] at h1
  exact h1.2.1
/-- the terms picked so far, put one by one -/
def WoRel (f : ByteArray → Option ByteArray) (ts : List Tm) (B n : Nat) (x y : Value) (W : World) (vi : Value) (wr : World) : Prop :=
  ∃ (k : Nat) (a : Option Addr) (l c : Nat), k ≤ ts.length ∧ vi = .int .i64 k ∧ l = (pickL f (ts.take k)).length ∧ l ≤ c ∧ NewRow B wr.heap.size wr a (pickL f (ts.take k)) ∧ Blk wr n 29 #[x, y, .slice a l c] ∧ Below B W wr
theorem pick_bd {L V : Int} {ts : List Tm} (h : serB L V ts = true) (f : ByteArray → Option ByteArray) (k : Nat) : ∀ t ∈ pickL f (ts.take k), t.n.natAbs ≤ 1000000000 ∧ t.d.natAbs ≤ 1000000000 := fun t ht => by
  obtain ⟨u, hu, _, e1, e2⟩ := pickL_mem ht
  have h1 := (isF_abs (term_isF7 h u (List.mem_of_mem_take hu))).imp_right (·.1)
  rw [e1, e2]; exact h1
theorem cutB_no1 {u s : ByteArray} (h : ¬ u.size ≤ s.size) : cutB u s = none := by
  have := Lib.hasPrefix_raw s u
  unfold cutB
  rw [← this, decide_eq_false h]; rfl
theorem cutB_no2 {u s : ByteArray} (h : ((s.extract 0 u.size).toList == u.toList) = false) : cutB u s = none := by
  have := Lib.hasPrefix_raw s u
  unfold cutB
  rw [← this, h]; simp
theorem cutB_yes {u s : ByteArray} (h1 : u.size ≤ s.size) (h : ((s.extract 0 u.size).toList == u.toList) = true) : cutB u s = some (s.extract u.size s.size) := by
  have := Lib.hasPrefix_raw s u
  unfold cutB
  rw [← this, h, decide_eq_true h1]; rfl
theorem cutE_no1 {u s : ByteArray} (h : ¬ u.size ≤ s.size) : cutE u s = none := by
  have := Lib.hasSuffix_raw s u
  unfold cutE
  rw [← this, decide_eq_false h]; rfl
theorem cutE_no2 {u s : ByteArray} (h : ((s.extract (s.size - u.size) s.size).toList == u.toList) = false) : cutE u s = none := by
  have := Lib.hasSuffix_raw s u
  unfold cutE
  rw [← this, h]; simp
theorem cutE_yes {u s : ByteArray} (h1 : u.size ≤ s.size) (h : ((s.extract (s.size - u.size) s.size).toList == u.toList) = true) : cutE u s = some (s.extract 0 (s.size - u.size)) := by
  have := Lib.hasSuffix_raw s u
  unfold cutE
  rw [← this, h, decide_eq_true h1]; rfl

set_option maxRecDepth 100000 in
set_option maxHeartbeats 8000000 in
theorem l07Without_cutB (L V : Int) (b off cap : Nat) (ts : List Tm) (u : ByteArray) (hu : u.size ≤ 5) (h1 : serB L V ts = true) (hl : ts.length ≤ 1048576) (w : World) (hb : b < w.heap.size) (ht : TermsIn w b off ts) :
    Calls Try.prog 66 #[.agg #[.int .i64 L, .int .i64 V, .slice (some ⟨b, off, none⟩) ts.length cap], .string u, .bool false] w (SerOnly L V (pickL (cutB u) ts) w) := by
  have HT := Lib.hid ht
  have HSm := Lib.hid (ser_small h1)
  have HSt := Lib.hid (fun k (hk : k < ts.length) s (h : cutB u (ts[k]).s = some s) => pick_put (cutB_keeps u) (asc_of_ser h1) (ser_nz7 h1) hk h)
  have HBd := Lib.hid (fun t (ht : t ∈ ts) => (isF_abs (term_isF7 h1 t ht)).imp_right (·.1))
  have HXb := Lib.hid (pick_bd h1 (cutB u))
  clear ht h1
  go_enter Try.func66, Try.ntmps66
  go_wp2_with fail
  refine (l01Empty_c L V _ rfl _).mono ?_
  rintro e w1 ⟨g1, rfl, hO, hb1⟩
  have hz1 : w.heap.size + 1 < w1.heap.size := by have := hb1.size; simp at this; omega
  have HB := Lib.hid (show Below (w.heap.size + 1 + 1) _ w1 from by simpa using hb1)
  clear hb1 hO
  go_wp2_with fail
  go_loopw [8] (WoRel (cutB u) ts (w.heap.size + 1 + 1) w1.heap.size (.int .i64 L) (.int .i64 V) ((w.alloc (.cells #[.int .i64 L, .int .i64 V, .slice (some ⟨b, off, none⟩) ts.length cap] 29)).alloc (.cells #[.int .i64 0, .int .i64 0, .slice none 0 0] 29))) (fun vi _ => ts.length - (intOf vi).toNat)
  case atStart =>
    exact ⟨0, _, 0, 0, Nat.zero_le _, rfl, rfl, Nat.le_refl _, .inl rfl, Blk.new _ _ _, HB.out.alloc (by omega) _⟩
  case round =>
    obtain ⟨k, av, lv, cv, hk, rfl, hlv, hlc, hN, hBl, hB⟩ := hrel
    have HLv := Lib.hid hlv
    have HN := Lib.hid hN
    have HBk := Lib.hid hBl
    have HB4 := Lib.hid hB
    have hzn := hBl.lt
    have hzr := hB.size
    simp only [World.size_alloc] at hzr
    have hz00 : w.heap.size < wr.heap.size := by omega
    have n2 : wr.cell? ⟨w1.heap.size, 2, none⟩ = some (.slice av lv cv) := hBl.cell 2
    have bc := bcellB hB
    have y2 : wr.cell? ⟨w.heap.size, 2, none⟩ = some (.slice (some ⟨b, off, none⟩) ts.length cap) := (bc.1 _ _ (by omega)).trans (by go_simp)
    clear hlv hN hBl hB bc
    by_cases hlt : k < ts.length
    · have hsz := HSm.out _ (List.getElem_mem hlt)
      have hbu := HBd.out _ (List.getElem_mem hlt)
      have HPk := Lib.hid (HSt.out k hlt)
      have HPn := Lib.hid (fun h => pickL_none (f := cutB u) hlt h)
      have hbr : b < wr.heap.size := by omega
      obtain ⟨c0, c1, c2⟩ := HT.out.below ((below2 w _ _).trans (HB4.out.mono (by omega))) hb k hlt
      obtain ⟨s, n, d, het⟩ : ∃ s n d, ts[k] = ⟨s, n, d⟩ := ⟨_, _, _, rfl⟩
      rw [het] at c0 c1 c2 hsz hbu HPk HPn
      simp only at c0 c1 c2 hsz hbu HPk
      have hn1 := hbu.1
      have hd1 := hbu.2
      clear het hbu
      by_cases hus : u.size ≤ s.size
      · cases heq : ((s.extract 0 u.size).toList == u.toList) with
        | true =>
          have HPt := Lib.hid (HPk.out _ (cutB_yes hus heq))
          obtain ⟨rs, hrs⟩ : ∃ rs, pickL (cutB u) (ts.take (k + 1)) = rs := ⟨_, rfl⟩
          have HRs := Lib.hid hrs
          have hrl : rs.length ≤ 1048576 := by rw [← hrs]; exact Nat.le_trans (pickL_length _ _) (by rw [List.length_take]; omega)
          rw [hrs] at HPt
          clear hrs
          go_upto_region 8 with fail
          have hlb : lv ≤ 2097152 := by have h1 := pickL_length (cutB u) (ts.take k); rw [List.length_take] at h1; have := HLv.out; omega
          have HC := fun W h => l01Put_c av lv cv _ HLv.out (s.extract u.size s.size) n d ⟨hn1, hd1⟩ (HXb.out k) hlb hlc W h
          rw [HPt.out] at HC
          have HCh := Lib.hid HC
          clear HC
          go_cut [11, 12] (fun s8 s9 wy => ∃ (a : Option Addr) (cap : Nat), Below wr.heap.size wr wy ∧ s8 = .slice a rs.length cap ∧ s9 = .bool true ∧ rs.length ≤ cap ∧ NewRow wr.heap.size wy.heap.size wy a rs)
          case first =>
            go_region_with (go_at_call 103; refine (HCh.out wr.drew HN.out.row).mono ?_; rintro e w6 ⟨a6, c6, rfl, hlc6, hB6, hN6⟩)
            all_goals (go_wp2_with fail; go_meet)
            all_goals exact ⟨a6, c6, ⟨hB6.os, hB6.tape, hB6.output, hB6.size, hB6.block⟩, rfl, rfl, hlc6, hN6⟩
          case rest =>
            obtain ⟨a5, c5, hbc, rfl, rfl, hlc5, hN5⟩ := hcut
            obtain ⟨w6, rfl⟩ : ∃ w6 : World, w6 = wc := ⟨_, rfl⟩
            have hsz6 := hbc.size
            have bc := bcellB hbc
            have n6 : w6.cell? ⟨w1.heap.size, 2, none⟩ = some (.slice av lv cv) := (bc.1 _ _ hzn).trans n2
            have nf6 : w6.frozen? ⟨w1.heap.size, 2, none⟩ = false := (bc.2 _ _ hzn).trans (HBk.out.frozen 2)
            clear bc
            go_wp2_with fail
            have hN6 := (hN5.far1s (n := w1.heap.size) (i := 2) (x := .slice a5 rs.length c5) hzn).mono (show w.heap.size + 1 + 1 ≤ _ by omega) (show _ ≤ (w6.setCell ⟨w1.heap.size, 2, none⟩ (.slice a5 rs.length c5)).heap.size by simp)
            refine ⟨⟨k + 1, a5, rs.length, c5, by omega, by first | rfl | simp, by rw [HRs.out], hlc5, by rw [HRs.out]; exact hN6, (HBk.out.below hbc hzn).set_ 2 _, (HB4.out.trans (hbc.mono (by omega))).setCell (p := ⟨w1.heap.size, 2, none⟩) (by show _ ≤ w1.heap.size; omega) _⟩, ?_⟩
            show ts.length - ((k : Int) + 1).toNat < ts.length - ((k : Int)).toNat
            omega
        | false =>
          have HPt := Lib.hid (HPn.out (cutB_no2 heq))
          go_wp2
          go_roundw
          case rel => exact ⟨k + 1, av, lv, cv, by omega, by go_num, by rw [HPt.out]; exact HLv.out, hlc, by rw [HPt.out]; exact HN.out, HBk.out, HB4.out⟩
          case measure => simp [intOf]; omega
      · have HPt := Lib.hid (HPn.out (cutB_no1 hus))
        go_wp2
        go_roundw
        case rel => exact ⟨k + 1, av, lv, cv, by omega, by go_num, by rw [HPt.out]; exact HLv.out, hlc, by rw [HPt.out]; exact HN.out, HBk.out, HB4.out⟩
        case measure => simp [intOf]; omega
    · obtain rfl : k = ts.length := by omega
      have bc6 := bcellB HB4.out
      have e0 : wr.cell? ⟨w.heap.size + 1, 0, none⟩ = some (.int .i64 0) := (bc6.1 _ _ (by omega)).trans (by go_simp)
      have e1 : wr.cell? ⟨w.heap.size + 1, 1, none⟩ = some (.int .i64 0) := (bc6.1 _ _ (by omega)).trans (by go_simp)
      have e2 : wr.cell? ⟨w.heap.size + 1, 2, none⟩ = some (.slice none 0 0) := (bc6.1 _ _ (by omega)).trans (by go_simp)
      have d0 : wr.frozen? ⟨w.heap.size + 1, 0, none⟩ = false := (bc6.2 _ _ (by omega)).trans (by go_simp)
      have d1 : wr.frozen? ⟨w.heap.size + 1, 1, none⟩ = false := (bc6.2 _ _ (by omega)).trans (by go_simp)
      have d2 : wr.frozen? ⟨w.heap.size + 1, 2, none⟩ = false := (bc6.2 _ _ (by omega)).trans (by go_simp)
      clear bc6
      have m0 : wr.cell? ⟨w1.heap.size, 0, none⟩ = some (.int .i64 L) := HBk.out.cell 0
      have m1 : wr.cell? ⟨w1.heap.size, 1, none⟩ = some (.int .i64 V) := HBk.out.cell 1
      have HB6 := Lib.hid ((below2 w _ _).trans (HB4.out.mono (by omega)))
      have hz01 : w.heap.size + 1 < wr.heap.size := by omega
      have hN := HN.out
      have hl := HLv.out
      rw [List.take_length] at hN hl
      subst hl
      have HN2 := Lib.hid hN
      clear hN
      go_wp2_with fail
      refine bodyPost_ret (v := .agg #[.int .i64 L, .int .i64 V, .slice av (pickL (cutB u) ts).length cv]) (by simp [results, Try.results66, go_sem, e0, e1, e2]) rfl ?_
      exact ⟨av, cv, rfl, ((HB6.out.setCell (p := ⟨w.heap.size + 1, 0, none⟩) (by show _ ≤ w.heap.size + 1; omega) _).setCell (p := ⟨w.heap.size + 1, 1, none⟩) (by show _ ≤ w.heap.size + 1; omega) _).setCell (p := ⟨w.heap.size + 1, 2, none⟩) (by show _ ≤ w.heap.size + 1; omega) _, (((HN2.out.far1s (by omega)).far1s (by omega)).far1s (by omega)).mono (by omega) (by simp)⟩

set_option maxRecDepth 100000 in
set_option maxHeartbeats 8000000 in
theorem l07Without_cutE (L V : Int) (b off cap : Nat) (ts : List Tm) (u : ByteArray) (hu : u.size ≤ 5) (h1 : serB L V ts = true) (hl : ts.length ≤ 1048576) (w : World) (hb : b < w.heap.size) (ht : TermsIn w b off ts) :
    Calls Try.prog 66 #[.agg #[.int .i64 L, .int .i64 V, .slice (some ⟨b, off, none⟩) ts.length cap], .string u, .bool true] w (SerOnly L V (pickL (cutE u) ts) w) := by
  have HT := Lib.hid ht
  have HSm := Lib.hid (ser_small h1)
  have HSt := Lib.hid (fun k (hk : k < ts.length) s (h : cutE u (ts[k]).s = some s) => pick_put (cutE_keeps u) (asc_of_ser h1) (ser_nz7 h1) hk h)
  have HBd := Lib.hid (fun t (ht : t ∈ ts) => (isF_abs (term_isF7 h1 t ht)).imp_right (·.1))
  have HXb := Lib.hid (pick_bd h1 (cutE u))
  clear ht h1
  go_enter Try.func66, Try.ntmps66
  go_wp2_with fail
  refine (l01Empty_c L V _ rfl _).mono ?_
  rintro e w1 ⟨g1, rfl, hO, hb1⟩
  have hz1 : w.heap.size + 1 < w1.heap.size := by have := hb1.size; simp at this; omega
  have HB := Lib.hid (show Below (w.heap.size + 1 + 1) _ w1 from by simpa using hb1)
  clear hb1 hO
  go_wp2_with fail
  go_loopw [8] (WoRel (cutE u) ts (w.heap.size + 1 + 1) w1.heap.size (.int .i64 L) (.int .i64 V) ((w.alloc (.cells #[.int .i64 L, .int .i64 V, .slice (some ⟨b, off, none⟩) ts.length cap] 29)).alloc (.cells #[.int .i64 0, .int .i64 0, .slice none 0 0] 29))) (fun vi _ => ts.length - (intOf vi).toNat)
  case atStart =>
    exact ⟨0, _, 0, 0, Nat.zero_le _, rfl, rfl, Nat.le_refl _, .inl rfl, Blk.new _ _ _, HB.out.alloc (by omega) _⟩
  case round =>
    obtain ⟨k, av, lv, cv, hk, rfl, hlv, hlc, hN, hBl, hB⟩ := hrel
    have HLv := Lib.hid hlv
    have HN := Lib.hid hN
    have HBk := Lib.hid hBl
    have HB4 := Lib.hid hB
    have hzn := hBl.lt
    have hzr := hB.size
    simp only [World.size_alloc] at hzr
    have hz00 : w.heap.size < wr.heap.size := by omega
    have n2 : wr.cell? ⟨w1.heap.size, 2, none⟩ = some (.slice av lv cv) := hBl.cell 2
    have bc := bcellB hB
    have y2 : wr.cell? ⟨w.heap.size, 2, none⟩ = some (.slice (some ⟨b, off, none⟩) ts.length cap) := (bc.1 _ _ (by omega)).trans (by go_simp)
    clear hlv hN hBl hB bc
    by_cases hlt : k < ts.length
    · have hsz := HSm.out _ (List.getElem_mem hlt)
      have hbu := HBd.out _ (List.getElem_mem hlt)
      have HPk := Lib.hid (HSt.out k hlt)
      have HPn := Lib.hid (fun h => pickL_none (f := cutE u) hlt h)
      have hbr : b < wr.heap.size := by omega
      obtain ⟨c0, c1, c2⟩ := HT.out.below ((below2 w _ _).trans (HB4.out.mono (by omega))) hb k hlt
      obtain ⟨s, n, d, het⟩ : ∃ s n d, ts[k] = ⟨s, n, d⟩ := ⟨_, _, _, rfl⟩
      rw [het] at c0 c1 c2 hsz hbu HPk HPn
      simp only at c0 c1 c2 hsz hbu HPk
      have hn1 := hbu.1
      have hd1 := hbu.2
      clear het hbu
      by_cases hus : u.size ≤ s.size
      · have hsub : ((s.size : Int) - (u.size : Int)) = ((s.size - u.size : Nat) : Int) := by omega
        cases heq : ((s.extract (s.size - u.size) s.size).toList == u.toList) with
        | true =>
          have HPt := Lib.hid (HPk.out _ (cutE_yes hus heq))
          obtain ⟨rs, hrs⟩ : ∃ rs, pickL (cutE u) (ts.take (k + 1)) = rs := ⟨_, rfl⟩
          have HRs := Lib.hid hrs
          have hrl : rs.length ≤ 1048576 := by rw [← hrs]; exact Nat.le_trans (pickL_length _ _) (by rw [List.length_take]; omega)
          rw [hrs] at HPt
          clear hrs
          go_upto_region 11 with fail
          have hlb : lv ≤ 2097152 := by have h1 := pickL_length (cutE u) (ts.take k); rw [List.length_take] at h1; have := HLv.out; omega
          have HC := fun W h => l01Put_c av lv cv _ HLv.out (s.extract 0 (s.size - u.size)) n d ⟨hn1, hd1⟩ (HXb.out k) hlb hlc W h
          rw [HPt.out] at HC
          have HCh := Lib.hid HC
          clear HC
          go_cut [13, 14] (fun s8 s9 wy => ∃ (a : Option Addr) (cap : Nat), Below wr.heap.size wr wy ∧ s8 = .slice a rs.length cap ∧ s9 = .bool true ∧ rs.length ≤ cap ∧ NewRow wr.heap.size wy.heap.size wy a rs)
          case first =>
            go_region_with (go_at_call 103; refine (HCh.out wr.drew HN.out.row).mono ?_; rintro e w6 ⟨a6, c6, rfl, hlc6, hB6, hN6⟩)
            all_goals (go_wp2_with fail; go_meet)
            all_goals exact ⟨a6, c6, ⟨hB6.os, hB6.tape, hB6.output, hB6.size, hB6.block⟩, rfl, rfl, hlc6, hN6⟩
          case rest =>
            obtain ⟨a5, c5, hbc, rfl, rfl, hlc5, hN5⟩ := hcut
            obtain ⟨w6, rfl⟩ : ∃ w6 : World, w6 = wc := ⟨_, rfl⟩
            have hsz6 := hbc.size
            have bc := bcellB hbc
            have n6 : w6.cell? ⟨w1.heap.size, 2, none⟩ = some (.slice av lv cv) := (bc.1 _ _ hzn).trans n2
            have nf6 : w6.frozen? ⟨w1.heap.size, 2, none⟩ = false := (bc.2 _ _ hzn).trans (HBk.out.frozen 2)
            clear bc
            go_wp2_with fail
            have hN6 := (hN5.far1s (n := w1.heap.size) (i := 2) (x := .slice a5 rs.length c5) hzn).mono (show w.heap.size + 1 + 1 ≤ _ by omega) (show _ ≤ (w6.setCell ⟨w1.heap.size, 2, none⟩ (.slice a5 rs.length c5)).heap.size by simp)
            refine ⟨⟨k + 1, a5, rs.length, c5, by omega, by first | rfl | simp, by rw [HRs.out], hlc5, by rw [HRs.out]; exact hN6, (HBk.out.below hbc hzn).set_ 2 _, (HB4.out.trans (hbc.mono (by omega))).setCell (p := ⟨w1.heap.size, 2, none⟩) (by show _ ≤ w1.heap.size; omega) _⟩, ?_⟩
            show ts.length - ((k : Int) + 1).toNat < ts.length - ((k : Int)).toNat
            omega
        | false =>
          have HPt := Lib.hid (HPn.out (cutE_no2 heq))
          go_wp2
          go_roundw
          case rel => exact ⟨k + 1, av, lv, cv, by omega, by go_num, by rw [HPt.out]; exact HLv.out, hlc, by rw [HPt.out]; exact HN.out, HBk.out, HB4.out⟩
          case measure => simp [intOf]; omega
      · have HPt := Lib.hid (HPn.out (cutE_no1 hus))
        go_wp2
        go_roundw
        case rel => exact ⟨k + 1, av, lv, cv, by omega, by go_num, by rw [HPt.out]; exact HLv.out, hlc, by rw [HPt.out]; exact HN.out, HBk.out, HB4.out⟩
        case measure => simp [intOf]; omega
    · obtain rfl : k = ts.length := by omega
      have bc6 := bcellB HB4.out
      have e0 : wr.cell? ⟨w.heap.size + 1, 0, none⟩ = some (.int .i64 0) := (bc6.1 _ _ (by omega)).trans (by go_simp)
      have e1 : wr.cell? ⟨w.heap.size + 1, 1, none⟩ = some (.int .i64 0) := (bc6.1 _ _ (by omega)).trans (by go_simp)
      have e2 : wr.cell? ⟨w.heap.size + 1, 2, none⟩ = some (.slice none 0 0) := (bc6.1 _ _ (by omega)).trans (by go_simp)
      have d0 : wr.frozen? ⟨w.heap.size + 1, 0, none⟩ = false := (bc6.2 _ _ (by omega)).trans (by go_simp)
      have d1 : wr.frozen? ⟨w.heap.size + 1, 1, none⟩ = false := (bc6.2 _ _ (by omega)).trans (by go_simp)
      have d2 : wr.frozen? ⟨w.heap.size + 1, 2, none⟩ = false := (bc6.2 _ _ (by omega)).trans (by go_simp)
      clear bc6
      have m0 : wr.cell? ⟨w1.heap.size, 0, none⟩ = some (.int .i64 L) := HBk.out.cell 0
      have m1 : wr.cell? ⟨w1.heap.size, 1, none⟩ = some (.int .i64 V) := HBk.out.cell 1
      have HB6 := Lib.hid ((below2 w _ _).trans (HB4.out.mono (by omega)))
      have hz01 : w.heap.size + 1 < wr.heap.size := by omega
      have hN := HN.out
      have hl := HLv.out
      rw [List.take_length] at hN hl
      subst hl
      have HN2 := Lib.hid hN
      clear hN
      go_wp2_with fail
      refine bodyPost_ret (v := .agg #[.int .i64 L, .int .i64 V, .slice av (pickL (cutE u) ts).length cv]) (by simp [results, Try.results66, go_sem, e0, e1, e2]) rfl ?_
      exact ⟨av, cv, rfl, ((HB6.out.setCell (p := ⟨w.heap.size + 1, 0, none⟩) (by show _ ≤ w.heap.size + 1; omega) _).setCell (p := ⟨w.heap.size + 1, 1, none⟩) (by show _ ≤ w.heap.size + 1; omega) _).setCell (p := ⟨w.heap.size + 1, 2, none⟩) (by show _ ≤ w.heap.size + 1; omega) _, (((HN2.out.far1s (by omega)).far1s (by omega)).far1s (by omega)).mono (by omega) (by simp)⟩

end Go.Proofs.Ytjciadbmpkkgdaa
