/-
  Commutators of tables: what they come to; the program's.
-/
import Derived.Test.YtngpnbdndkddlaaDoorAlong
import Derived.Test.YtngpnbdndkddlaaDoorWordsOf
namespace Go.Proofs.YtngpnbdndkddlaaDoor
open Go.RowKit

theorem letW2 {i k : Nat} (hi : i ≤ 2) (hk : k ≤ 2) : (letW (i : Int) ++ letW (k : Int)).data.toList = [UInt8.ofNat (48 + i), UInt8.ofNat (48 + k)] := by
  have h1 : i = 0 ∨ i = 1 ∨ i = 2 := by omega
  have h2 : k = 0 ∨ k = 1 ∨ k = 2 := by omega
  rcases h1 with rfl | rfl | rfl <;> rcases h2 with rfl | rfl | rfl <;> rfl
theorem letW2_facts {i k : Nat} (hi : i ≤ 2) (hk : k ≤ 2) : letN (letW (i : Int) ++ letW (k : Int)) 0 = i ∧ letN (letW (i : Int) ++ letW (k : Int)) 1 = k ∧ (letW (i : Int) ++ letW (k : Int)).size = 2 := by
  have h := letW2 hi hk
  have e : ∀ m, m ≤ 2 → (UInt8.ofNat (48 + m)).toNat - 48 = m := fun m hm => by
    rw [UInt8.toNat_ofNat']
    omega
  refine ⟨?_, ?_, ?_⟩
  · unfold letN
    rw [h]
    exact e i hi
  · unfold letN
    rw [h]
    exact e k hk
  · have h2 := congrArg List.length h
    rw [Array.length_toList] at h2
    exact h2
theorem letW2_word {D : Int} {i k : Nat} (hi : (i : Int) < D) (hk : (k : Int) < D) (hD : D ≤ 3) : wordB D (letW (i : Int) ++ letW (k : Int)).data.toList = true := by
  rw [letW2 (by omega) (by omega)]
  have e : ∀ m : Nat, (m : Int) < D → letB D (UInt8.ofNat (48 + m)) = true := fun m hm => by
    have h2 : (UInt8.ofNat (48 + m)).toNat = 48 + m := by rw [UInt8.toNat_ofNat']; omega
    simp only [letB, h2, decide_eq_true_eq]
    omega
  show (letB D (UInt8.ofNat (48 + i)) && (letB D (UInt8.ofNat (48 + k)) && true)) = true
  rw [e i hi, e k hk]
  rfl

theorem prod2_bd {x y : Int} (hx : -1000 ≤ x ∧ x ≤ 1000) (hy : -1000 ≤ y ∧ y ≤ 1000) : -1000000 ≤ x * y ∧ x * y ≤ 1000000 := by
  have h1 : (x * y).natAbs ≤ 1000 * 1000 := by
    rw [Int.natAbs_mul]
    exact Nat.mul_le_mul (by omega) (by omega)
  omega
theorem dot2_bd {n : Nat} {A B : MF} (hA : BdF n 1000 A) (hB : BdF n 1000 B) {i j : Nat} (hi : i < n) (hj : j < n) : ∀ k, k ≤ n → -(1000000 * (k : Int)) ≤ dotT A B i j k ∧ dotT A B i j k ≤ 1000000 * (k : Int)
  | 0, _ => by simp [dotT]
  | k + 1, hk => by
    have h1 := dot2_bd hA hB hi hj k (by omega)
    have h2 := prod2_bd (hA i k hi (by omega)) (hB k j (by omega) hj)
    rw [dotT]
    omega
theorem mul2_bd {n : Nat} (hn : n ≤ 6) {A B : MF} (hA : BdF n 1000 A) (hB : BdF n 1000 B) : BdF n 6000000 (mulT n A B) := fun i j hi hj => by
  have h := dot2_bd hA hB hi hj n (Nat.le_refl _)
  unfold mulT
  omega
theorem ok_of_bd {n : Nat} {F : MF} (h : BdF n 6000000 F) : okT n F = true := okT_yes fun i j hi hj => by
  have := h i j hi hj
  exact inB_yes (by omega)
theorem dot_unit {A : MF} {i j : Nat} : ∀ k, dotT unitT A i j k = if i < k then A i j else 0
  | 0 => by simp [dotT]
  | k + 1 => by
    rw [dotT, dot_unit k]
    unfold unitT
    by_cases h : i < k
    · rw [if_pos h, if_neg (by omega), if_pos (by omega)]; simp
    · by_cases e : i = k
      · subst e
        rw [if_neg h, if_pos rfl, if_pos (by omega)]; simp
      · rw [if_neg h, if_neg e, if_neg (by omega)]; simp
theorem dot_congr {A A' B B' : MF} {n i j : Nat} (hi : i < n) (hj : j < n) (hA : ∀ r c, r < n → c < n → A r c = A' r c) (hB : ∀ r c, r < n → c < n → B r c = B' r c) : ∀ k, k ≤ n → dotT A B i j k = dotT A' B' i j k
  | 0, _ => rfl
  | k + 1, hk => by
    rw [dotT, dotT, dot_congr hi hj hA hB k (by omega), hA i k hi (by omega), hB k j (by omega) hj]
/-- the table of a letter -/
def tF (ts : Tabs) (q : Nat) : MF := entF (ts.getD q [])
/-- the product of two letters, by the word of both -/
theorem along2 {D : Int} {ts : Tabs} (hT : tabsB D ts = true) {i k : Nat} (hi : i < ts.length) (hk : k < ts.length) :
    ∃ P, alongK (wid ts) ts (letW (i : Int) ++ letW (k : Int)) (letW (i : Int) ++ letW (k : Int)).size = some P ∧ BdF (wid ts) 1000000000 P ∧ ∀ r c, r < wid ts → c < wid ts → P r c = mulT (wid ts) (tF ts i) (tF ts k) r c := by
  have hq := tabs_sq hT
  obtain ⟨t1, t2, _, _⟩ := tabsB_true hT
  have hb := inB_true t1
  obtain ⟨f0, f1, f2⟩ := letW2_facts (i := i) (k := k) (by omega) (by omega)
  have hAi : BdF (wid ts) 1000 (tF ts i) := by unfold tF; rw [getD_at hi]; exact (hq.2 i hi).2.2
  have hAk : BdF (wid ts) 1000 (tF ts k) := by unfold tF; rw [getD_at hk]; exact (hq.2 k hk).2.2
  have e0 : tabAtF ts (letW (i : Int) ++ letW (k : Int)) 0 = tF ts i := by unfold tabAtF tF; rw [f0]
  have e1 : tabAtF ts (letW (i : Int) ++ letW (k : Int)) 1 = tF ts k := by unfold tabAtF tF; rw [f1]
  have hU : ∀ r c, r < wid ts → c < wid ts → mulT (wid ts) unitT (tF ts i) r c = tF ts i r c := fun r c hr hc => by
    unfold mulT; rw [dot_unit, if_pos hr]
  have hU2 : BdF (wid ts) 1000 (mulT (wid ts) unitT (tF ts i)) := fun r c hr hc => by rw [hU r c hr hc]; exact hAi r c hr hc
  have ok1 : okT (wid ts) (mulT (wid ts) unitT (tF ts i)) = true := ok_of_bd fun r c hr hc => by have := hU2 r c hr hc; omega
  have b2 := mul2_bd hq.1.2 hU2 hAk
  have ok2 : okT (wid ts) (mulT (wid ts) (mulT (wid ts) unitT (tF ts i)) (tF ts k)) = true := ok_of_bd b2
  have a1 := alongK_yes (n := wid ts) (ts := ts) (s := letW (i : Int) ++ letW (k : Int)) (k := 0) (P := unitT) rfl (by rw [e0]; exact ok1)
  rw [e0] at a1
  have a2 := alongK_yes a1 (by rw [e1]; exact ok2)
  rw [e1] at a2
  refine ⟨_, by rw [f2]; exact a2, fun r c hr hc => by have := b2 r c hr hc; omega, fun r c hr hc => ?_⟩
  unfold mulT
  exact dot_congr hr hc hU (fun _ _ _ _ => rfl) _ (Nat.le_refl _)
def comF (n : Nat) (ts : Tabs) (i k : Nat) : MF := fun r c => mulT n (tF ts i) (tF ts k) r c - mulT n (tF ts k) (tF ts i) r c

set_option maxRecDepth 100000 in
set_option maxHeartbeats 8000000 in
theorem commutatorAt_c (D : Int) (lo hi : Nat) (a : Option Addr) (cap : Nat) (ts : Tabs) (hT : tabsB D ts = true) (i k : Nat) (hi1 : i < ts.length) (hk1 : k < ts.length) (w : World) (hr : TRow lo hi w a ts) (hh : hi ≤ w.heap.size) :
    Calls Tryd.prog 46 #[.slice a ts.length cap, .int .i64 i, .int .i64 k] w fun e w' => ∃ a' c', e = .returned (.slice a' (wid ts) c') ∧ Below w.heap.size w w' ∧ GridP (wid ts) w.heap.size w'.heap.size w' a' (tabF (wid ts) (comF (wid ts) ts i k)) := by
  have hq := tabs_sq hT
  obtain ⟨t1, t2, _, _⟩ := tabsB_true hT
  have hb := inB_true t1
  obtain ⟨P1, ea1, bd1, hP1⟩ := along2 hT hi1 hk1
  obtain ⟨P2, ea2, bd2, hP2⟩ := along2 hT hk1 hi1
  have f1 := (letW2_facts (i := i) (k := k) (by omega) (by omega)).2.2
  have f2 := (letW2_facts (i := k) (k := i) (by omega) (by omega)).2.2
  have HPa1 := Lib.hid (fun W (hr : TRow lo hi W a ts) hh => productAlong_c D lo hi a cap ts hT (letW (i : Int) ++ letW (k : Int)) (letW2_word (by omega) (by omega) (by omega)) (by omega) W hr hh)
  have HPa2 := Lib.hid (fun W (hr : TRow lo hi W a ts) hh => productAlong_c D lo hi a cap ts hT (letW (k : Int) ++ letW (i : Int)) (letW2_word (by omega) (by omega) (by omega)) (by omega) W hr hh)
  rw [ea1] at HPa1
  rw [ea2] at HPa2
  have HC := Lib.hid (tabF_congr (n := wid ts) (F := fun r c => P1 r c - P2 r c) (G := comF (wid ts) ts i k) (fun r c hr hc => by unfold comF; rw [hP1 r c hr hc, hP2 r c hr hc]))
  have HR := Lib.hid hr
  have HBd1 := Lib.hid bd1
  have HBd2 := Lib.hid bd2
  have hn := hq.1
  have HLw1 := Lib.hid (letterWord_c (i : Int) (by omega) (by omega))
  have HLw2 := Lib.hid (letterWord_c (k : Int) (by omega) (by omega))
  have hz1 : (letW (i : Int)).size = 1 := letW_size _
  have hz2 : (letW (k : Int)).size = 1 := letW_size _
  clear hr hT hq t1 t2 ea1 ea2 bd1 bd2 hP1 hP2 f1 f2
  generalize comF (wid ts) ts i k = G at *
  generalize wid ts = n at *
  have hn6 : (n : Int) ≤ 6 := by omega
  go_enter Tryd.func46, Tryd.ntmps46
  go_wp2_with (first | (go_at_call 65; refine (HLw1.out _).mono ?_; rintro e w' ⟨rfl, rfl⟩) | (go_at_call 65; refine (HLw2.out _).mono ?_; rintro e w' ⟨rfl, rfl⟩) | fail)
  refine (HPa1.out _ HR.out hh).mono ?_
  rintro e w1 ⟨a1, c1, rfl, hb1, hG1⟩
  obtain ⟨h, g, rfl, h1, h2, h3, h4, hG⟩ := hG1.f
  have HG := Lib.hid hG
  have HB1 := Lib.hid hb1
  have hzw := hb1.size
  clear hb1 hG1 hG
  go_wp2_with (first | (go_at_call 65; refine (HLw1.out _).mono ?_; rintro e w' ⟨rfl, rfl⟩) | (go_at_call 65; refine (HLw2.out _).mono ?_; rintro e w' ⟨rfl, rfl⟩) | fail)
  refine (HPa2.out _ (HR.out.below HB1.out hh) (by omega)).mono ?_
  rintro e w2 ⟨a2, c2, rfl, hb2, hG2⟩
  have HG2 := Lib.hid hG2.row
  have HGb := Lib.hid (HG.out.below hb2 h2 h4)
  have HB2 := Lib.hid (HB1.out.trans (hb2.mono hzw))
  have hz12 := hb2.size
  clear hb2 hG2
  go_wp2_with fail
  go_loopw [37] (fun vi wr => ∃ (r : Nat) (f : MF), r ≤ n ∧ vi = .int .i64 r ∧ GridF n h g wr f ∧ (∀ x c, x < n → c < n → f x c = if x < r then P1 x c - P2 x c else P1 x c) ∧ Outside w.heap.size w1.heap.size w2 wr) (fun vi _ => n - (intOf vi).toNat)
  case atStart => exact ⟨0, P1, Nat.zero_le _, rfl, HGb.out, fun x c _ _ => by rw [if_neg (by omega)], Outside.refl _ _ _⟩
  case round =>
    obtain ⟨r, f, hrn, rfl, hGr, hf, hO⟩ := hrel
    have HGr := Lib.hid hGr
    have HF := Lib.hid hf
    have HO := Lib.hid hO
    have hhw := hGr.2.1.1
    clear hGr hf hO
    by_cases hlt : r < n
    · obtain ⟨b2, o2, x2, c2', ea2, hb2', d0, b2', o2', rfl, hb22, d1⟩ := (HG2.out.outside HO.out (by omega) (.inr (Nat.le_refl _))).ent hlt
      subst ea2
      have HD1 := Lib.hid d1
      clear d1
      go_wp2_with fail
      clear d0
      go_loopw [44] (fun vj wr => ∃ (j : Nat) (f : MF), j ≤ n ∧ vj = .int .i64 j ∧ GridF n h g wr f ∧ (∀ x c, x < n → c < n → f x c = if x < r ∨ x = r ∧ c < j then P1 x c - P2 x c else P1 x c) ∧ Outside w.heap.size w1.heap.size w2 wr ∧ (∀ c, c < n → wr.cell? ⟨b2', o2' + c, none⟩ = some (.int .i64 (P2 r c)))) (fun vj _ => n - (intOf vj).toNat)
      case atStart => exact ⟨0, f, Nat.zero_le _, rfl, HGr.out, fun x c hx hc => by
        rw [HF.out x c hx hc]
        by_cases e : x < r
        · rw [if_pos e, if_pos (.inl e)]
        · rw [if_neg e, if_neg (by omega)], HO.out, HD1.out⟩
      case round =>
        obtain ⟨j, f2, hj, rfl, hGj, hf2, hOj, hdj⟩ := hrel
        have HGj := Lib.hid hGj
        have HF2 := Lib.hid hf2
        have HOj := Lib.hid hOj
        have HDj := Lib.hid hdj
        clear hGj hf2 hOj hdj
        by_cases hltj : j < n
        · have q2 := HDj.out j hltj
          obtain ⟨ci, hc0⟩ := HGj.out.2.2.2.1 r hlt
          have q1 := HGj.out.2.2.2.2 r j hlt hltj
          have e1 := HF2.out r j hlt hltj
          rw [if_neg (by omega)] at e1
          rw [e1] at q1
          have hfit := row_fits (n := n) hlt
          have hz := (HGj.out.2.2.1.2 (r * n + j) (by omega)).2
          have hgj := HGj.out.2.2.1.1
          have x1 := HBd1.out r j hlt hltj
          have x2 := HBd2.out r j hlt hltj
          have HS2 := Lib.hid (HGj.out.set hlt hltj (P1 r j - P2 r j))
          obtain ⟨o, ho⟩ : ∃ o, r * n = o := ⟨_, rfl⟩
          rw [ho] at hc0 q1 hz HS2
          have HE := Lib.hid (show ∀ s, s = P1 r j - P2 r j → ∀ x c, x < n → c < n → (if x = r ∧ c = j then s else f2 x c) = if x < r ∨ x = r ∧ c < j + 1 then P1 x c - P2 x c else P1 x c from fun s hs x c hx hc => by
            by_cases e : x = r ∧ c = j
            · obtain ⟨rfl, rfl⟩ := e
              rw [if_pos ⟨rfl, rfl⟩, if_pos (.inr ⟨rfl, by omega⟩), hs]
            · rw [if_neg e, HF2.out x c hx hc]
              by_cases e2 : x < r ∨ x = r ∧ c < j
              · rw [if_pos e2, if_pos (by omega)]
              · rw [if_neg e2, if_neg (by omega)])
          have HDs := Lib.hid (show ∀ u, ∀ c, c < n → (wr.setCell ⟨g, o + j, none⟩ u).cell? ⟨b2', o2' + c, none⟩ = some (.int .i64 (P2 r c)) from fun u c hc => by
            rw [World.cell?_setCell_other _ _ _ _ (fun e2 => by injection e2 with e3; omega)]
            exact HDj.out c hc)
          clear ho hfit e1
          generalize P1 r j = x at q1 x1 HS2 HE
          generalize P2 r j = y at q2 x2 HS2 HE
          go_wp2
          go_roundw
          case rel => exact ⟨j + 1, _, hltj, by go_num, HS2.out, HE.out _ rfl, HOj.out.trans ((Outside.set1 _ g _ _).wide (by omega) (by omega)), HDs.out _⟩
          case measure => simp [intOf]; omega
        · obtain rfl : j = n := by omega
          go_wp2
          go_roundw
          case rel =>
            refine ⟨r + 1, f2, hlt, by go_num, HGj.out, fun x c hx hc => ?_, HOj.out⟩
            rw [HF2.out x c hx hc]
            by_cases e : x < r + 1
            · rw [if_pos e, if_pos (by omega)]
            · rw [if_neg e, if_neg (by omega)]
          case measure => simp [intOf]; omega
    · obtain rfl : r = n := by omega
      have HE := Lib.hid (tabF_congr (n := r) (F := f) (G := fun x c => P1 x c - P2 x c) (fun x c hx hc => by rw [HF.out x c hx hc, if_pos hx]))
      go_wp2
      go_ret
      refine ⟨_, _, rfl, HB2.out.trans (HO.out.below (Nat.le_refl _) (by omega)), ?_⟩
      rw [← HC.out, ← HE.out]
      exact HGr.out.p h1 hhw h3 HGr.out.2.2.1.1

def nullT (n : Nat) (F : MF) : Bool := rowsM 0 n (tabF n F)
theorem isNull_c (n : Nat) (hn : n ≤ 6) (lo hi : Nat) (a : Option Addr) (cap : Nat) (F : MF) (w : World) (hr : PRow lo hi w a (tabF n F)) :
    Calls Tryd.prog 45 #[.slice a n cap] w fun e w' => e = .returned (.bool (nullT n F)) ∧ w = w' := by
  have hl := tabF_length n F
  have hAr := areRowsM_c 0 (by omega) lo hi (n : Int) a cap (tabF n F) (by omega) (by have := flat_tabF hn F; omega) w hr
  rw [hl] at hAr
  have HAr := Lib.hid hAr
  clear hAr hr hl
  go_enter Tryd.func45, Tryd.ntmps45
  go_wp2_with fail
  refine HAr.out.mono ?_
  rintro e w' ⟨rfl, rfl⟩
  go_wp2
  go_ret
  exact ⟨rfl, rfl⟩
end Go.Proofs.YtngpnbdndkddlaaDoor
