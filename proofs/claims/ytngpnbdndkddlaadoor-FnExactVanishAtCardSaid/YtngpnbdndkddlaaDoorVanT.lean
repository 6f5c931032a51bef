/-
  Contracts of VanishAt, of the program and of its model: both return the same bool and code.
-/
import Derived.Test.YtngpnbdndkddlaaDoorComR
namespace Go.Proofs.YtngpnbdndkddlaaDoor
open Go.RowKit

theorem wordsL_word {D : Nat} (hD : D ≤ 3) : ∀ (n : Nat) (s : ByteArray), s ∈ wordsL D n → wordB (D : Int) s.data.toList = true
  | 0, s, h => by
    have e : s = ByteArray.empty := by simpa [wordsL] using h
    subst e
    rfl
  | n + 1, s, h => by
    unfold wordsL nextL at h
    obtain ⟨u, hu, h⟩ := List.mem_flatMap.1 h
    unfold longer at h
    obtain ⟨k, hk, rfl⟩ := List.mem_map.1 h
    have hk := List.mem_range.1 hk
    have e0 : (u ++ letW (k : Int)).data.toList = u.data.toList ++ (letW (k : Int)).data.toList := by simp
    have e1 : (letW (k : Int)).data.toList = [UInt8.ofNat (48 + k)] := by
      have e : (48 + (k : Int)).toNat = 48 + k := by omega
      simp [letW, e]
    rw [e0, e1, wordB_snoc, wordsL_word hD n u hu, Bool.true_and]
    have e : (UInt8.ofNat (48 + k)).toNat = 48 + k := by
      rw [UInt8.toNat_ofNat']
      omega
    simp only [letB, e, decide_eq_true_eq]
    omega

/-- are the products of the first words 0? none if one of them is too great -/
def vanK (n : Nat) (ts : Tabs) (ws : List ByteArray) : Nat → Option Bool
  | 0 => some true
  | j + 1 => (vanK n ts ws j).bind fun b => (alongK n ts (ws.getD j ByteArray.empty) (ws.getD j ByteArray.empty).size).map fun P => b && nullT n P
theorem vanK_no {n : Nat} {ts : Tabs} {ws : List ByteArray} {j : Nat} {s : ByteArray} (hs : ws.getD j ByteArray.empty = s) (h : alongK n ts s s.size = none) : vanK n ts ws (j + 1) = none := by
  rw [vanK, hs, h]
  cases vanK n ts ws j <;> rfl
theorem vanK_yes {n : Nat} {ts : Tabs} {ws : List ByteArray} {j : Nat} {s : ByteArray} (hs : ws.getD j ByteArray.empty = s) {b : Bool} (hb : vanK n ts ws j = some b) {P : MF} (h : alongK n ts s s.size = some P) : vanK n ts ws (j + 1) = some (b && nullT n P) := by
  rw [vanK, hs, hb, Option.bind_some, h]; rfl
theorem vanK_dead {n : Nat} {ts : Tabs} {ws : List ByteArray} {k : Nat} (h : vanK n ts ws k = none) : ∀ {m : Nat}, k ≤ m → vanK n ts ws m = none
  | 0, hm => by obtain rfl : k = 0 := by omega
                exact h
  | m + 1, hm => by
    by_cases e : k = m + 1
    · subst e; exact h
    · rw [vanK, vanK_dead h (show k ≤ m by omega)]; rfl
def VanPost (o : Option Bool) (W : World) (e : Ending) (w' : World) : Prop :=
  match o with
  | none => BoolPost false 3 W e w'
  | some b => BoolPost b 0 W e w'

section
variable (lo hi : Nat) (L : Int) (a : Option Addr) (cap : Nat) (ts : Tabs) (hl : ts.length ≤ 1048576) (hs : sz3 ts ≤ 1048576) (w : World) (hr : TRow lo hi w a ts)
include hl hs hr
theorem sVa_1 (v : Int) (h : tabsB L ts = false) : Calls Tryd.prog 26 #[.int .i64 L, .slice a ts.length cap, .int .i64 v] w (BoolPost false 1 w) := by
  have HAr := Lib.hid (l08Are_c lo hi L a cap ts hl hs w hr)
  rw [h] at HAr
  clear hr hl
  go_enter Tryd.func26, Tryd.ntmps26
  go_wp2_with (first | (go_at_call 41; refine HAr.out.mono ?_; rintro e w' ⟨rfl, rfl⟩) | fail)
  go_ret2
  exact ⟨rfl, Below.refl _ _⟩
theorem iVa_1 (v : Int) (h : tabsB L ts = false) : Calls Tryd.prog 27 #[.int .i64 L, .slice a ts.length cap, .int .i64 v] w (BoolPost false 1 w) := by
  have HAr := Lib.hid (iAreT_c lo hi L a cap ts hl hs w hr)
  rw [h] at HAr
  clear hr hl
  go_enter Tryd.func27, Tryd.ntmps27
  go_wp2_with (first | (go_at_call 44; refine HAr.out.mono ?_; rintro e w' ⟨rfl, rfl⟩) | fail)
  go_ret2
  exact ⟨rfl, Below.refl _ _⟩
theorem sVa_2 (v : Int) (h : tabsB L ts = true) (h2 : inB v 0 4 = false) : Calls Tryd.prog 26 #[.int .i64 L, .slice a ts.length cap, .int .i64 v] w (BoolPost false 2 w) := by
  have HAr := Lib.hid (l08Are_c lo hi L a cap ts hl hs w hr)
  rw [h] at HAr
  clear hr hl
  go_enter Tryd.func26, Tryd.ntmps26
  go_wp2_with (first | (go_at_call 41; refine HAr.out.mono ?_; rintro e w' ⟨rfl, rfl⟩) | (go_at_call 47; refine (l01In_c _ _ _ _).mono ?_; rw [h2]; rintro e w' ⟨rfl, rfl⟩) | fail)
  go_ret2
  exact ⟨rfl, Below.refl _ _⟩
theorem iVa_2 (v : Int) (h : tabsB L ts = true) (h2 : inB v 0 4 = false) : Calls Tryd.prog 27 #[.int .i64 L, .slice a ts.length cap, .int .i64 v] w (BoolPost false 2 w) := by
  have HAr := Lib.hid (iAreT_c lo hi L a cap ts hl hs w hr)
  rw [h] at HAr
  clear hr hl
  go_enter Tryd.func27, Tryd.ntmps27
  go_wp2_with (first | (go_at_call 44; refine HAr.out.mono ?_; rintro e w' ⟨rfl, rfl⟩) | (go_at_call 48; refine (isBetween_c _ _ _ _).mono ?_; rw [h2]; rintro e w' ⟨rfl, rfl⟩) | fail)
  go_ret2
  exact ⟨rfl, Below.refl _ _⟩

variable (hh : hi ≤ w.heap.size)
include hh
set_option maxRecDepth 100000 in
set_option maxHeartbeats 8000000 in
theorem iVa_3 (v : Nat) (hv : v ≤ 4) (h : tabsB L ts = true) : Calls Tryd.prog 27 #[.int .i64 L, .slice a ts.length cap, .int .i64 v] w (VanPost (vanK (wid ts) ts (wordsL ts.length (v + 1)) (wordsL ts.length (v + 1)).length) w) := by
  have HAr := Lib.hid (iAreT_c lo hi L a cap ts hl hs w hr)
  have hLb := inB_true (tabsB_true h).1
  have hLe := (tabsB_true h).2.1
  have hn := (tabs_sq h).1
  have h2 : inB (v : Int) 0 4 = true := inB_yes (by omega)
  have HWd := Lib.hid (iWordsOf_3 ts.length (v + 1) w (by omega) (by omega))
  have hfew := wordsL_few (d := ts.length) (n := v + 1) (by omega) (by omega)
  have HWs := Lib.hid (fun s (hm : s ∈ wordsL ts.length (v + 1)) => And.intro (wordsL_size ts.length (v + 1) s hm) (wordsL_word (show ts.length ≤ 3 by omega) (v + 1) s hm))
  subst hLe
  have HPa := Lib.hid (fun s hw hs5 W hr hh => productAlong_c (ts.length : Int) lo hi a cap ts h s hw hs5 W hr hh)
  have HR := Lib.hid hr
  rw [h] at HAr
  generalize wordsL ts.length (v + 1) = ws at *
  have HNo := Lib.hid (fun j s hs q => vanK_no (n := wid ts) (ts := ts) (ws := ws) (j := j) (s := s) hs q)
  have HYes := Lib.hid (fun j s hs b hb P q => vanK_yes (n := wid ts) (ts := ts) (ws := ws) (j := j) (s := s) hs (b := b) hb (P := P) q)
  have HDead := Lib.hid (fun k q m (hm : k ≤ m) => vanK_dead (n := wid ts) (ts := ts) (ws := ws) (k := k) q hm)
  have HZ := Lib.hid (show vanK (wid ts) ts ws 0 = some true from rfl)
  obtain ⟨o, ho⟩ : ∃ o, vanK (wid ts) ts ws ws.length = o := ⟨_, rfl⟩
  rw [ho]
  have HOut := Lib.hid ho
  clear hr hl h ho
  obtain ⟨n, hnn⟩ : ∃ n, wid ts = n := ⟨_, rfl⟩
  rw [hnn] at hn HPa HNo HYes HDead HZ HOut
  clear hnn
  go_enter Tryd.func27, Tryd.ntmps27
  go_wp2_with (first | (go_at_call 44; refine HAr.out.mono ?_; rintro e w' ⟨rfl, rfl⟩) | (go_at_call 48; refine (isBetween_c _ _ _ _).mono ?_; rw [h2]; rintro e w' ⟨rfl, rfl⟩) | fail)
  refine HWd.out.mono ?_
  rintro e w1 ⟨a1, c1, rfl, hb1, hN1⟩
  have HB1 := Lib.hid hb1
  have HSr := Lib.hid hN1.row
  clear hb1 hN1
  go_wp2_with fail
  go_loopw [10, 31] (fun v10 v31 wr => ∃ (j : Nat) (b : Bool), j ≤ ws.length ∧ v31 = .int .i64 j ∧ v10 = .bool b ∧ vanK n ts ws j = some b ∧ Below w1.heap.size w1 wr) (fun _ v31 _ => ws.length - (intOf v31).toNat)
  case atStart => exact ⟨0, true, Nat.zero_le _, rfl, rfl, HZ.out, Below.refl _ _⟩
  case round =>
    obtain ⟨j, b, hj, rfl, rfl, hvk, hB⟩ := hrel
    have HVk := Lib.hid hvk
    have HBr := Lib.hid hB
    have HBw := Lib.hid (HB1.out.trans (hB.mono HB1.out.size))
    clear hvk hB
    by_cases hlt : j < ws.length
    · rcases HSr.out.below HBr.out (Nat.le_refl _) with h0 | ⟨bs, os, rfl, hbs, hIn⟩
      · rw [h0] at hlt; simp at hlt
      have q0 := hIn j hlt
      have hm := HWs.out _ (List.getElem_mem hlt)
      have hgd : ws.getD j ByteArray.empty = ws[j] := getD_at hlt
      have HNs := Lib.hid (HNo.out j ws[j] hgd)
      have HYs := Lib.hid (HYes.out j ws[j] hgd b HVk.out)
      have HDd := Lib.hid (fun q => HDead.out (j + 1) q ws.length hlt)
      obtain ⟨s, hse⟩ : ∃ s, ws[j] = s := ⟨_, rfl⟩
      rw [hse] at q0 hm
      simp only [hse] at HNs HYs
      have HPs := Lib.hid (HPa.out s hm.2 (by have := hm.1; omega) wr (HR.out.below HBw.out hh) (by have := HBw.out.size; omega))
      clear hgd hse hm hIn
      go_wp2_with fail
      refine HPs.out.mono ?_
      cases hal : alongK n ts s s.size with
      | none =>
        rintro e w3 ⟨rfl, hb3⟩
        have HF := Lib.hid (HOut.out.symm.trans (HDd.out (HNs.out hal)))
        have HB3 := Lib.hid (HBw.out.trans (hb3.mono HBw.out.size))
        clear hb3
        go_wp2
        go_ret2
        rw [HF.out]
        exact ⟨rfl, HB3.out⟩
      | some P =>
        rintro e w3 ⟨a3, c3, rfl, hb3, hG3⟩
        have HY := Lib.hid (HYs.out P hal)
        have HB3 := Lib.hid (HBr.out.trans (hb3.mono HBr.out.size))
        have HNl := Lib.hid (isNull_c n hn.2 _ _ a3 c3 P w3 hG3.row)
        clear hb3 hG3
        cases b with
        | false =>
          go_wp2
          go_roundw
          case rel => exact ⟨j + 1, false, hlt, by go_num, rfl, by rw [HY.out]; rfl, HB3.out⟩
          case measure => simp [intOf]; omega
        | true =>
          go_wp2_with (first | (go_at_call 45; refine HNl.out.mono ?_; rintro e w' ⟨rfl, rfl⟩) | fail)
          go_roundw
          case rel => exact ⟨j + 1, nullT n P, hlt, by go_num, rfl, by rw [HY.out, Bool.true_and], HB3.out⟩
          case measure => simp [intOf]; omega
    · obtain rfl : j = ws.length := by omega
      have HF := Lib.hid (HOut.out.symm.trans HVk.out)
      go_wp2
      go_ret2
      rw [HF.out]
      exact ⟨rfl, HBw.out⟩

set_option maxRecDepth 100000 in
set_option maxHeartbeats 8000000 in
theorem sVa_3 (v : Nat) (hv : v ≤ 4) (h : tabsB L ts = true) : Calls Tryd.prog 26 #[.int .i64 L, .slice a ts.length cap, .int .i64 v] w (VanPost (vanK (wid ts) ts (wordsL ts.length (v + 1)) (wordsL ts.length (v + 1)).length) w) := by
  have HAr := Lib.hid (l08Are_c lo hi L a cap ts hl hs w hr)
  have hLb := inB_true (tabsB_true h).1
  have hLe := (tabsB_true h).2.1
  have hn := (tabs_sq h).1
  have h2 : inB (v : Int) 0 4 = true := inB_yes (by omega)
  have HWd := Lib.hid (l01Words_c ts.length (v + 1) (by omega) (by omega) w)
  have hfew := wordsL_few (d := ts.length) (n := v + 1) (by omega) (by omega)
  have HWs := Lib.hid (fun s (hm : s ∈ wordsL ts.length (v + 1)) => And.intro (wordsL_size ts.length (v + 1) s hm) (wordsL_word (show ts.length ≤ 3 by omega) (v + 1) s hm))
  subst hLe
  have HPa := Lib.hid (fun s hw hs5 W hr hh => l08Product_c (ts.length : Int) lo hi a cap ts h s hw hs5 W hr hh)
  have HR := Lib.hid hr
  rw [h] at HAr
  generalize wordsL ts.length (v + 1) = ws at *
  have HNo := Lib.hid (fun j s hs q => vanK_no (n := wid ts) (ts := ts) (ws := ws) (j := j) (s := s) hs q)
  have HYes := Lib.hid (fun j s hs b hb P q => vanK_yes (n := wid ts) (ts := ts) (ws := ws) (j := j) (s := s) hs (b := b) hb (P := P) q)
  have HDead := Lib.hid (fun k q m (hm : k ≤ m) => vanK_dead (n := wid ts) (ts := ts) (ws := ws) (k := k) q hm)
  have HZ := Lib.hid (show vanK (wid ts) ts ws 0 = some true from rfl)
  obtain ⟨o, ho⟩ : ∃ o, vanK (wid ts) ts ws ws.length = o := ⟨_, rfl⟩
  rw [ho]
  have HOut := Lib.hid ho
  clear hr hl h ho
  obtain ⟨n, hnn⟩ : ∃ n, wid ts = n := ⟨_, rfl⟩
  rw [hnn] at hn HPa HNo HYes HDead HZ HOut
  clear hnn
  have hn6 : (n : Int) ≤ 6 := by omega
  go_enter Tryd.func26, Tryd.ntmps26
  go_wp2_with (first | (go_at_call 41; refine HAr.out.mono ?_; rintro e w' ⟨rfl, rfl⟩) | (go_at_call 47; refine (l01In_c _ _ _ _).mono ?_; rw [h2]; rintro e w' ⟨rfl, rfl⟩) | fail)
  refine HWd.out.mono ?_
  rintro e w1 ⟨a1, c1, rfl, hb1, hN1⟩
  have HB1 := Lib.hid hb1
  have HSr := Lib.hid hN1.row
  clear hb1 hN1
  go_wp2
  go_loopw [9, 10] (fun v9 v10 wr => ∃ (j : Nat) (b : Bool), j ≤ ws.length ∧ v10 = .int .i64 j ∧ v9 = .bool b ∧ vanK n ts ws j = some b ∧ Below w1.heap.size w1 wr) (fun _ v10 _ => ws.length - (intOf v10).toNat)
  case atStart => exact ⟨0, true, Nat.zero_le _, rfl, rfl, HZ.out, Below.refl _ _⟩
  case round =>
    obtain ⟨j, b, hj, rfl, rfl, hvk, hB⟩ := hrel
    have HVk := Lib.hid hvk
    have HBr := Lib.hid hB
    have HBw := Lib.hid (HB1.out.trans (hB.mono HB1.out.size))
    clear hvk hB
    by_cases hlt : j < ws.length
    · rcases HSr.out.below HBr.out (Nat.le_refl _) with h0 | ⟨bs, os, rfl, hbs, hIn⟩
      · rw [h0] at hlt; simp at hlt
      have q0 := hIn j hlt
      have hm := HWs.out _ (List.getElem_mem hlt)
      have hgd : ws.getD j ByteArray.empty = ws[j] := getD_at hlt
      have HNs := Lib.hid (HNo.out j ws[j] hgd)
      have HYs := Lib.hid (HYes.out j ws[j] hgd b HVk.out)
      have HDd := Lib.hid (fun q => HDead.out (j + 1) q ws.length hlt)
      obtain ⟨s, hse⟩ : ∃ s, ws[j] = s := ⟨_, rfl⟩
      rw [hse] at q0 hm
      simp only [hse] at HNs HYs
      have HPs := Lib.hid (HPa.out s hm.2 (by have := hm.1; omega) wr (HR.out.below HBw.out hh) (by have := HBw.out.size; omega))
      clear hgd hse hm hIn
      go_wp2_with fail
      refine HPs.out.mono ?_
      clear q0
      cases hal : alongK n ts s s.size with
      | none =>
        rintro e w3 ⟨rfl, hb3⟩
        have HF := Lib.hid (HOut.out.symm.trans (HDd.out (HNs.out hal)))
        have HB3 := Lib.hid (HBw.out.trans (hb3.mono HBw.out.size))
        clear hb3
        go_wp2
        go_ret2
        rw [HF.out]
        exact ⟨rfl, HB3.out⟩
      | some P =>
        rintro e w3 ⟨a3, c3, rfl, hb3, hP3⟩
        have HY := Lib.hid (HYs.out P hal)
        have HB3 := Lib.hid (HBr.out.trans (hb3.mono HBr.out.size))
        have HPc := Lib.hid hP3
        clear hb3 hP3
        go_wp2
        go_loop [9, 13] (fun v9 v13 => ∃ (r : Nat) (x : Bool), r ≤ n ∧ v13 = .int .i64 r ∧ v9 = .bool x ∧ (x = true ↔ b = true ∧ ∀ y d, y < r → d < n → P y d = 0)) (fun _ v13 => n - (intOf v13).toNat)
        case atStart => exact ⟨0, b, Nat.zero_le _, rfl, rfl, ⟨fun q => ⟨q, fun y d hy => absurd hy (Nat.not_lt_zero _)⟩, fun q => q.1⟩⟩
        case round =>
          obtain ⟨r, x, hrn, rfl, rfl, hx⟩ := hrel
          have HX := Lib.hid hx
          clear hx
          by_cases hltr : r < n
          · obtain ⟨ba, oa, ya, ya', ea, hba, d0, ba', oa', rfl, hba', d1⟩ := HPc.out.ent hltr
            subst ea
            have HD1 := Lib.hid d1
            have hrn2 : (r : Int) < (n : Int) := by omega
            clear d1
            go_wp2
            go_loop [9, 14] (fun v9 v14 => ∃ (c : Nat) (y : Bool), c ≤ n ∧ v14 = .int .i64 c ∧ v9 = .bool y ∧ (y = true ↔ x = true ∧ ∀ d, d < c → P r d = 0)) (fun _ v14 => n - (intOf v14).toNat)
            case atStart => exact ⟨0, x, Nat.zero_le _, rfl, rfl, ⟨fun q => ⟨q, fun d hd => absurd hd (Nat.not_lt_zero _)⟩, fun q => q.1⟩⟩
            case round =>
              obtain ⟨c, y, hcn, rfl, rfl, hy⟩ := hrel
              have HYy := Lib.hid hy
              clear hy
              by_cases hltc : c < n
              · have q1 := HD1.out c hltc
                have hcn2 : (c : Int) < (n : Int) := by omega
                cases y with
                | false =>
                  go_wp2
                  go_round
                  case rel => exact ⟨c + 1, false, hltc, by go_num, rfl, ⟨(fun q => by cases q), fun q => absurd (HYy.out.2 ⟨q.1, fun d hd => q.2 d (by omega)⟩) (by simp)⟩⟩
                  case measure => simp [intOf]; omega
                | true =>
                  by_cases hz : P r c = 0
                  · have HZz := Lib.hid hz
                    rw [hz] at q1
                    go_wp2
                    go_round
                    case rel =>
                      refine ⟨c + 1, true, hltc, by go_num, rfl, ⟨fun _ => ⟨(HYy.out.1 rfl).1, fun d hd => ?_⟩, fun _ => rfl⟩⟩
                      by_cases e : d = c
                      · subst e; exact HZz.out
                      · exact (HYy.out.1 rfl).2 d (by omega)
                    case measure => simp [intOf]; omega
                  · have HZz := Lib.hid hz
                    have hzb : (P r c == 0) = false := by simpa using hz
                    go_wp2
                    go_round
                    case rel => exact ⟨c + 1, false, hltc, by go_num, rfl, ⟨(fun q => by cases q), fun q => absurd (q.2 c (by omega)) HZz.out⟩⟩
                    case measure => simp [intOf]; omega
              · obtain rfl : c = n := by omega
                go_wp2
                go_round
                case rel =>
                  refine ⟨r + 1, y, hltr, by go_num, rfl, HYy.out.trans ⟨fun q => ?_, fun q => ?_⟩⟩
                  · have hb := HX.out.1 q.1
                    refine ⟨hb.1, fun y d hy hd => ?_⟩
                    by_cases e : y = r
                    · subst e; exact q.2 d hd
                    · exact hb.2 y d (by omega) hd
                  · exact ⟨HX.out.2 ⟨q.1, fun y d hy hd => q.2 y d (by omega) hd⟩, fun d hd => q.2 r d (by omega) hd⟩
                case measure => simp [intOf]; omega
          · obtain rfl : r = n := by omega
            have HXe := Lib.hid (show x = (b && nullT r P) from by
              cases hxx : x with
              | true =>
                have q := HX.out.1 hxx
                rw [q.1, nullT_yes q.2]; rfl
              | false =>
                cases hbb : b with
                | false => rfl
                | true =>
                  cases hnn : nullT r P with
                  | false => rfl
                  | true =>
                    have : x = true := HX.out.2 ⟨hbb, fun y d hy hd => Decidable.byContradiction fun q => by
                      have := nullT_no (F := P) y d hy hd q
                      rw [hnn] at this
                      cases this⟩
                    rw [hxx] at this; cases this)
            go_wp2
            go_roundw
            case rel => exact ⟨j + 1, x, hlt, by go_num, rfl, by rw [HXe.out]; exact HY.out, HB3.out⟩
            case measure => simp [intOf]; omega
    · obtain rfl : j = ws.length := by omega
      have HF := Lib.hid (HOut.out.symm.trans HVk.out)
      go_wp2
      go_ret2
      rw [HF.out]
      exact ⟨rfl, HBw.out⟩
end
end Go.Proofs.YtngpnbdndkddlaaDoor
