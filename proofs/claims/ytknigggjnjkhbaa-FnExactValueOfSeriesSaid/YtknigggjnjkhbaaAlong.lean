/-
  Products of words: what they come to; the program's product along a word.
-/
import Derived.Test.YtknigggjnjkhbaaProdT
import Derived.Test.YtknigggjnjkhbaaOrd
namespace Go.Proofs.Ytknigggjnjkhbaa
open Go.RowKit

def okT (n : Nat) (F : MF) : Bool := rowsM 1000000000 n (tabF n F)
theorem okT_bd {n : Nat} {F : MF} (h : okT n F = true) : BdF n 1000000000 F := fun i j hi hj => by
  unfold okT rowsM at h
  have hl := tabF_length n F
  have h1 := List.all_eq_true.1 h _ (List.getElem_mem (show i < (tabF n F).length by omega))
  unfold rowM numsM at h1
  rw [Bool.and_eq_true] at h1
  have hr := tabF_rowlen (n := n) (F := F) (i := i) (by omega)
  have h2 := List.all_eq_true.1 h1.2 _ (List.getElem_mem (show j < ((tabF n F)[i]'(by omega)).length by omega))
  rw [tabF_get] at h2
  exact inB_true h2
theorem okT_no {n : Nat} {F : MF} (i j : Nat) (hi : i < n) (hj : j < n) (h : inB (F i j) (-1000000000) 1000000000 = false) : okT n F = false := by
  have hl := tabF_length n F
  have hr := tabF_rowlen (n := n) (F := F) (i := i) (by omega)
  unfold okT rowsM
  refine all_no i (by omega) ?_
  refine rowM_num j (by omega) ?_
  rw [tabF_get]; exact h
theorem okT_yes {n : Nat} {F : MF} (h : ∀ i j, i < n → j < n → inB (F i j) (-1000000000) 1000000000 = true) : okT n F = true := by
  have hl := tabF_length n F
  unfold okT rowsM
  refine all_yes fun i hi => ?_
  refine rowM_good (by rw [tabF_rowlen]) fun j hj => ?_
  rw [tabF_get]
  exact h i j (by omega) (by rw [tabF_rowlen] at hj; exact hj)
/-- which table a letter names -/
def letN (s : ByteArray) (k : Nat) : Nat := (s.data.toList.getD k 0).toNat - 48
def tabAtF (ts : Tabs) (s : ByteArray) (k : Nat) : MF := entF (ts.getD (letN s k) [])
def alongK (n : Nat) (ts : Tabs) (s : ByteArray) : Nat → Option MF
  | 0 => some unitT
  | k + 1 => (alongK n ts s k).bind fun P => if okT n (mulT n P (tabAtF ts s k)) = true then some (mulT n P (tabAtF ts s k)) else none
theorem alongK_no {n : Nat} {ts : Tabs} {s : ByteArray} {k : Nat} {P : MF} (h : alongK n ts s k = some P) (h2 : okT n (mulT n P (tabAtF ts s k)) = false) : alongK n ts s (k + 1) = none := by
  rw [alongK, h, Option.bind_some, h2]; rfl
theorem alongK_yes {n : Nat} {ts : Tabs} {s : ByteArray} {k : Nat} {P : MF} (h : alongK n ts s k = some P) (h2 : okT n (mulT n P (tabAtF ts s k)) = true) : alongK n ts s (k + 1) = some (mulT n P (tabAtF ts s k)) := by
  rw [alongK, h, Option.bind_some, h2]; rfl
theorem alongK_dead {n : Nat} {ts : Tabs} {s : ByteArray} {k : Nat} (h : alongK n ts s k = none) : ∀ {m : Nat}, k ≤ m → alongK n ts s m = none
  | 0, hm => by obtain rfl : k = 0 := by omega
                exact h
  | m + 1, hm => by
    by_cases e : k = m + 1
    · subst e; exact h
    · rw [alongK, alongK_dead h (show k ≤ m by omega)]; rfl
theorem unit_bd (n : Nat) : BdF n 1000000000 unitT := fun i j _ _ => by
  unfold unitT
  split <;> decide
theorem alongK_bd {n : Nat} {ts : Tabs} {s : ByteArray} : ∀ {k : Nat} {P : MF}, alongK n ts s k = some P → BdF n 1000000000 P
  | 0, P, h => by rw [alongK] at h; injection h with h; rw [← h]; exact unit_bd n
  | k + 1, P, h => by
    rw [alongK] at h
    obtain ⟨Q, _, h2⟩ := Option.bind_eq_some_iff.1 h
    split at h2
    · rename_i h3
      injection h2 with h2
      rw [← h2]; exact okT_bd h3
    · cases h2

/-- the tables that a word's letters name -/
theorem letN_lt {D : Int} {s : ByteArray} {ts : Tabs} (hw : wordB D s.data.toList = true) (hD : (ts.length : Int) = D) {k : Nat} (hk : k < s.size) : letN s k < ts.length ∧ s[k].toNat = 48 + letN s k := by
  have hl : k < s.data.toList.length := by rw [Array.length_toList]; exact hk
  have h := List.all_eq_true.1 hw _ (List.getElem_mem hl)
  have e : s.data.toList[k] = s[k] := by simp [ByteArray.getElem_eq_getElem_data]
  have e2 : letN s k = s[k].toNat - 48 := by
    unfold letN
    rw [getD_at hl, e]
  rw [e] at h
  simp only [letB, decide_eq_true_eq] at h
  omega
theorem tabs_sq {L : Int} {ts : Tabs} (h : tabsB L ts = true) : (1 ≤ wid ts ∧ wid ts ≤ 6) ∧ ∀ q (hq : q < ts.length), Sq (wid ts) ts[q] ∧ ts[q] = tabF (wid ts) (entF ts[q]) ∧ BdF (wid ts) 1000 (entF ts[q]) := by
  obtain ⟨_, _, h3, h4⟩ := tabsB_true h
  have hb := inB_true h3
  refine ⟨by omega, fun q hq => ?_⟩
  obtain ⟨t1, t2⟩ := tabB_true (h4 q hq)
  have hs : Sq (wid ts) ts[q] := ⟨by omega, fun i hi => by have := (t2 i hi).1; omega⟩
  refine ⟨hs, hs.tab, fun i j hi hj => ?_⟩
  have hi' : i < (ts[q]).length := by have := hs.1; omega
  have hj' : j < ((ts[q])[i]).length := by have := hs.2 i hi'; omega
  have e : entF ts[q] i j = ((ts[q])[i])[j] := by
    unfold entF
    rw [getD_at hi', getD_at hj']
  rw [e]
  exact (t2 i hi').2 j hj'

theorem tableAt_c (lo hi : Nat) (a : Option Addr) (cap : Nat) (ts : Tabs) (x : UInt8) (q : Nat) (hx : x.toNat = 48 + q) (hq : q < ts.length) (hl : ts.length ≤ 3) (w : World) (hr : TRow lo hi w a ts) :
    Calls Try.prog 68 #[.slice a ts.length cap, .int .u8 x.toNat] w fun e w' => (∃ a' c', e = .returned (.slice a' (ts[q]).length c') ∧ PRow lo hi w a' ts[q]) ∧ w = w' := by
  obtain ⟨b, off, a', c, rfl, c0, hI⟩ := hr.get (Below.refl hi w) (Nat.le_refl _) hq
  have HI := Lib.hid hI
  rw [hx]
  clear hI hr hx
  have e0 : ((48 + q : Nat) : Int) - 48 = (q : Int) := by omega
  have e1 : (q : Int) < (ts.length : Int) := by omega
  go_enter Try.func68, Try.ntmps68
  go_wp2
  go_ret
  exact ⟨⟨a', c, rfl, HI.out⟩, rfl⟩

/-- what the product along a word comes to -/
def AlongPost (n : Nat) (o : Option MF) (W : World) (e : Ending) (w' : World) : Prop :=
  match o with
  | none => e = .returned (.tuple #[.slice none 0 0, .int .i64 3]) ∧ Below W.heap.size W w'
  | some P => MulPost n P W e w'

set_option maxRecDepth 100000 in
set_option maxHeartbeats 8000000 in
theorem productAlong_c (D : Int) (lo hi : Nat) (a : Option Addr) (cap : Nat) (ts : Tabs) (hT : tabsB D ts = true) (s : ByteArray) (hw : wordB D s.data.toList = true) (hs : s.size ≤ 5) (w : World) (hr : TRow lo hi w a ts) (hh : hi ≤ w.heap.size) :
    Calls Try.prog 32 #[.slice a ts.length cap, .string s] w (AlongPost (wid ts) (alongK (wid ts) ts s s.size) w) := by
  have hq := tabs_sq hT
  obtain ⟨t1, t2, _, _⟩ := tabsB_true hT
  have hb := inB_true t1
  have hl3 : ts.length ≤ 3 := by omega
  have hpos : 0 < ts.length := by omega
  obtain ⟨b, off, a', c', ea, hc0, hI0⟩ := hr.get (Below.refl hi w) (Nat.le_refl _) hpos
  have hw0 : (ts[0]).length = wid ts := by unfold wid; rw [getD_at hpos]
  rw [hw0, Nat.add_zero] at hc0
  have HTab := Lib.hid hq.2
  have HLet := Lib.hid (fun k (hk : k < s.size) => letN_lt hw t2 hk)
  have HR := Lib.hid hr
  have hn := hq.1
  have HNo := Lib.hid (fun k P (h : alongK (wid ts) ts s k = some P) h2 => alongK_no h h2)
  have HYes := Lib.hid (fun k P (h : alongK (wid ts) ts s k = some P) h2 => alongK_yes h h2)
  have HDead := Lib.hid (fun k (h : alongK (wid ts) ts s k = none) m (hm : k ≤ m) => alongK_dead h hm)
  have HBd := Lib.hid (fun k P (h : alongK (wid ts) ts s k = some P) => alongK_bd h)
  have HZ := Lib.hid (show alongK (wid ts) ts s 0 = some unitT from rfl)
  have HAt := Lib.hid (fun k (hk : letN s k < ts.length) => (show tabAtF ts s k = entF ts[letN s k] from by unfold tabAtF; rw [getD_at hk]))
  clear hq hI0 hw0 hT hw t1 t2 hr
  subst ea
  generalize wid ts = n at *
  obtain ⟨o, ho⟩ : ∃ o, alongK n ts s s.size = o := ⟨_, rfl⟩
  rw [ho]
  have HOut := Lib.hid ho
  clear ho
  have HSq := Lib.hid (fun W => squareOf_c n hn 0 W)
  have HLn := Lib.hid (show (sqL n 0).length = n from sqL_length n 0)
  go_enter Try.func32, Try.ntmps32
  go_wp2_with fail
  refine (HSq.out _).mono ?_
  rintro e w1 ⟨a1, c1, rfl, hb1, hG1⟩
  rw [sqL_tab] at hG1
  obtain ⟨h, g, rfl, h1, h2, h3, h4, hG⟩ := hG1.f
  have HG := Lib.hid hG
  have HB1 := Lib.hid hb1
  clear hb1 hG1 hG hc0
  rw [HLn.out]
  have hn6 : (n : Int) ≤ 6 := by omega
  go_wp2_with fail
  go_loopw [18] (fun vi wr => ∃ (i : Nat) (f : MF), i ≤ n ∧ vi = .int .i64 i ∧ GridF n h g wr f ∧ (∀ r c, r < n → c < n → f r c = if r = c ∧ r < i then 1 else 0) ∧ Below w.heap.size w wr) (fun vi _ => n - (intOf vi).toNat)
  case atStart => exact ⟨0, _, Nat.zero_le _, rfl, HG.out, fun r c _ _ => by rw [if_neg (by omega)], HB1.out⟩
  case round =>
    obtain ⟨i, f, hi', rfl, hGr, hf, hBr⟩ := hrel
    have HGr := Lib.hid hGr
    have HF := Lib.hid hf
    have HBr := Lib.hid hBr
    have hhw := hGr.2.1.1
    clear hGr hf hBr
    by_cases hlt : i < n
    · obtain ⟨ci, hc0⟩ := HGr.out.2.2.2.1 i hlt
      have HS2 := Lib.hid (HGr.out.set hlt hlt 1)
      have hfit := row_fits (n := n) hlt
      obtain ⟨⟨u, hu⟩, hz⟩ := HGr.out.2.2.1.2 (i * n + i) (by omega)
      have hgj := HGr.out.2.2.1.1
      obtain ⟨o2, ho⟩ : ∃ o, i * n = o := ⟨_, rfl⟩
      rw [ho] at hc0 hu hz HS2
      clear ho hfit
      go_wp2
      go_roundw
      case rel =>
        refine ⟨i + 1, _, hlt, by go_num, HS2.out, fun r c hr hc => ?_, HBr.out.setCell (p := ⟨g, o2 + i, none⟩) (by show w.heap.size ≤ g; omega) _⟩
        show (if r = i ∧ c = i then 1 else f r c) = _
        by_cases e : r = i ∧ c = i
        · rw [if_pos e, if_pos (by omega)]
        · rw [if_neg e, HF.out r c hr hc]
          by_cases e2 : r = c ∧ r < i
          · rw [if_pos e2, if_pos (by omega)]
          · rw [if_neg e2, if_neg (by omega)]
      case measure => simp [intOf]; omega
    · obtain rfl : i = n := by omega
      have HC := Lib.hid (tabF_congr (n := i) (F := f) (G := unitT) (fun r c hr hc => by
        rw [HF.out r c hr hc]
        unfold unitT
        by_cases e : r = c
        · rw [if_pos ⟨e, hr⟩, if_pos e]
        · rw [if_neg (fun q => e q.1), if_neg e]))
      have HP := Lib.hid (show GridP i w.heap.size wr.heap.size wr (some ⟨h, 0, none⟩) (tabF i unitT) from by rw [← HC.out]; exact HGr.out.p h1 hhw h3 HGr.out.2.2.1.1)
      clear hhw
      go_wp2_with fail
      go_loopw [7, 30] (fun v7 v30 wr => ∃ (k : Nat) (P : MF) (a1 : Option Addr) (c1 : Nat), k ≤ s.size ∧ v30 = .int .i64 k ∧ v7 = .slice a1 i c1 ∧ alongK i ts s k = some P ∧ GridP i w.heap.size wr.heap.size wr a1 (tabF i P) ∧ Below w.heap.size w wr) (fun _ v30 _ => s.size - (intOf v30).toNat)
      case atStart => exact ⟨0, unitT, _, c1, Nat.zero_le _, rfl, rfl, HZ.out, HP.out, HBr.out⟩
      case round =>
        obtain ⟨k, P, ap, cp, hk, rfl, rfl, hal, hGp, hBp⟩ := hrel
        have HAl := Lib.hid hal
        have HGp := Lib.hid hGp.row
        have HGq := Lib.hid hGp
        have HBp := Lib.hid hBp
        clear hal hGp hBp
        by_cases hltk : k < s.size
        · have hlet := HLet.out k hltk
          have HTa := Lib.hid (tableAt_c lo hi (some ⟨b, off, none⟩) cap ts s[k] (letN s k) hlet.2 hlet.1 hl3 _ (HR.out.below HBp.out hh))
          have HTq := Lib.hid (HTab.out (letN s k) hlet.1)
          have HAq := Lib.hid (HAt.out k hlet.1)
          have HN1 := Lib.hid (HNo.out k P HAl.out)
          have HY1 := Lib.hid (HYes.out k P HAl.out)
          have HDd := Lib.hid (fun q => HDead.out (k + 1) q s.size hltk)
          have HBdP := Lib.hid (HBd.out k P HAl.out)
          rw [HAq.out] at HN1 HY1
          obtain ⟨t, het⟩ : ∃ t, ts[letN s k]'hlet.1 = t := ⟨_, rfl⟩
          simp only [het] at HTa HTq HN1 HY1
          have HTsq := Lib.hid HTq.out.1.1
          clear hlet het HAq
          go_wp2_with (go_at_call 68; refine HTa.out.mono ?_; rintro e w' ⟨⟨at', ct, rfl, hIt⟩, rfl⟩; rw [HTsq.out])
          rw [HTq.out.2.1] at hIt
          refine (productOf_c i hn _ _ lo hi ap at' cp ct P (entF t) HBdP.out HTq.out.2.2 _ HGp.out hIt (Nat.le_refl _) (by have := HBp.out.size; omega)).mono ?_
          rintro e w3 ⟨a3, c3, rfl, hb3, hG3⟩
          have HG3 := Lib.hid hG3
          have HB3 := Lib.hid (HBp.out.trans (hb3.mono HBp.out.size))
          have hz3 := HBp.out.size
          have HLt := Lib.hid (tabF_length i (mulT i P (entF t)))
          have hAr := areRowsM_c 1000000000 (by omega) _ _ (i : Int) a3 c3 (tabF i (mulT i P (entF t))) (by rw [HLt.out]; omega) (by have := flat_tabF hn.2 (mulT i P (entF t)); omega) w3 hG3.row
          rw [HLt.out] at hAr
          have HAr := Lib.hid hAr
          clear hb3 hG3 hIt hAr
          cases hok : okT i (mulT i P (entF t)) with
          | false =>
            have HF2 := Lib.hid (HOut.out.symm.trans (HDd.out (HN1.out hok)))
            go_wp2_with (first | (go_at_call 64; refine HAr.out.mono ?_; rw [show rowsM 1000000000 (i : Int) (tabF i (mulT i P (entF t))) = false from hok]; rintro e w' ⟨rfl, rfl⟩) | fail)
            go_ret2
            rw [HF2.out]
            exact ⟨rfl, HB3.out⟩
          | true =>
            have HY2 := Lib.hid (HY1.out hok)
            go_wp2_with (first | (go_at_call 64; refine HAr.out.mono ?_; rw [show rowsM 1000000000 (i : Int) (tabF i (mulT i P (entF t))) = true from hok]; rintro e w' ⟨rfl, rfl⟩) | fail)
            go_roundw
            case rel => exact ⟨k + 1, _, a3, c3, hltk, by go_num, rfl, HY2.out, HG3.out.mono hz3 (Nat.le_refl _), HB3.out⟩
            case measure => simp [intOf]; omega
        · obtain rfl : k = s.size := by omega
          have HF2 := Lib.hid (HOut.out.symm.trans HAl.out)
          clear HGp
          go_wp2
          go_ret2
          rw [HF2.out]
          exact ⟨ap, cp, rfl, HBp.out, HGq.out⟩
end Go.Proofs.Ytknigggjnjkhbaa
