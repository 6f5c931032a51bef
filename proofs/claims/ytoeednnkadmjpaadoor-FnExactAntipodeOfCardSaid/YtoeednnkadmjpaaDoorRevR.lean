/-
  The model's reversal of a series, with signs or without.
-/
import Derived.Test.YtoeednnkadmjpaaDoorPrM
import Derived.RegionTactic
import Derived.BigRegion
import Derived.ChangeAlike
import Derived.LoopN
import Derived.Lib.ConvBytes
import Derived.Test.YtoeednnkadmjpaaDoorSumL
namespace Go.Proofs.YtoeednnkadmjpaaDoor
open Go.RowKit

/-- bytes in a row of cells -/
def BytesIn (w : World) (b off : Nat) (l : List UInt8) : Prop := ∀ i (h : i < l.length), w.cell? ⟨b, off + i, none⟩ = some (.int .u8 ((l[i]).toNat : Int))
theorem BytesIn.below {w w' : World} {B b off : Nat} {l : List UInt8} (h : BytesIn w b off l) (hb : Below B w w') (hlt : b < B) : BytesIn w' b off l := fun i hi => (hb.cell (p := ⟨b, _, none⟩) hlt).trans (h i hi)
theorem BytesIn.set1 {w : World} {g k : Nat} {l : List UInt8} (h : BytesIn w g 0 l) (hm : Made w g l.length) (hk : k < l.length) (c : UInt8) : BytesIn (w.setCell ⟨g, k, none⟩ (.int .u8 (c.toNat : Int))) g 0 (l.set k c) := by
  intro i hi
  rw [List.length_set] at hi
  rw [List.getElem_set]
  simp only [Nat.zero_add]
  by_cases e : k = i
  · subst e
    rw [if_pos rfl]
    obtain ⟨⟨v0, m0⟩, -⟩ := hm.2 k hk
    exact World.cell?_setCell_same _ _ _ m0
  · rw [if_neg e, World.cell?_setCell_other _ _ _ _ (fun e2 => by injection e2 with _ e3; omega)]
    have := h i hi
    rwa [Nat.zero_add] at this
theorem getDB {l : List UInt8} {k : Nat} (h : k < l.length) : l.getD k 0 = l[k] := by rw [List.getD_eq_getElem?_getD, List.getElem?_eq_getElem h]; rfl
/-- the row when `k` pairs have changed places -/
def revG (l : List UInt8) (k : Nat) : List UInt8 := (List.range l.length).map fun i => if i < k ∨ l.length - k ≤ i then l.getD (l.length - 1 - i) 0 else l.getD i 0
theorem revG_length (l : List UInt8) (k : Nat) : (revG l k).length = l.length := by simp [revG]
theorem revG_get (l : List UInt8) (k i : Nat) (h : i < (revG l k).length) : (revG l k)[i] = if i < k ∨ l.length - k ≤ i then l.getD (l.length - 1 - i) 0 else l.getD i 0 := by simp [revG]
theorem revG_zero (l : List UInt8) : revG l 0 = l := by
  apply List.ext_getElem
  · exact revG_length l 0
  · intro i h1 h2
    rw [revG_get, if_neg (by omega), getDB h2]
theorem revG_swap (l : List UInt8) (k j : Nat) (hj : k + j + 1 = l.length) (hk : k < j) : ((revG l k).set k (l.getD j 0)).set j (l.getD k 0) = revG l (k + 1) := by
  apply List.ext_getElem
  · simp [revG_length]
  · intro i h1 h2
    have hi : i < l.length := by rw [revG_length] at h2; exact h2
    rw [List.getElem_set, revG_get l (k + 1) i h2]
    by_cases e : j = i
    · subst e
      rw [if_pos rfl, if_pos (by omega)]
      congr 1; omega
    · rw [if_neg e, List.getElem_set]
      by_cases e2 : k = i
      · subst e2
        rw [if_pos rfl, if_pos (by omega)]
        congr 1; omega
      · rw [if_neg e2, revG_get]
        by_cases h : i < k ∨ l.length - k ≤ i
        · rw [if_pos h, if_pos (by omega)]
        · rw [if_neg h, if_neg (by omega)]
theorem revG_done (l : List UInt8) (k : Nat) (h : l.length ≤ 2 * k + 1) : revG l k = l.reverse := by
  apply List.ext_getElem
  · rw [revG_length, List.length_reverse]
  · intro i h1 h2
    have hi : i < l.length := by rw [revG_length] at h1; exact h1
    rw [revG_get, List.getElem_reverse]
    by_cases h0 : i < k ∨ l.length - k ≤ i
    · rw [if_pos h0, getDB (by omega)]
    · rw [if_neg h0, getDB hi]
      congr 1; omega
theorem revG_at (l : List UInt8) (k j : Nat) (hj : k + j + 1 = l.length) (hk : k < j) (h1 : k < (revG l k).length) (h2 : j < (revG l k).length) : (revG l k)[k] = l.getD k 0 ∧ (revG l k)[j] = l.getD j 0 := by
  rw [revG_get, revG_get, if_neg (by omega), if_neg (by omega)]
  exact ⟨rfl, rfl⟩
theorem made_drewB {w : World} {g m : Nat} (h : Made w g m) : Made w.drew g m := h
theorem bytes_drew {w : World} {b o : Nat} {l : List UInt8} (h : BytesIn w b o l) : BytesIn w.drew b o l := h
theorem grown_drewB {W w : World} {r : Option Nat} (h : W.grownBy w r) : W.grownBy w.drew r := ⟨h.os, h.tape, h.output, h.size, h.block⟩

/-- what turning a row round comes to -/
def RevBPost (g : Nat) (l' : List UInt8) (W : World) (e : Ending) (w' : World) : Prop := e = .returned (.tuple #[]) ∧ W.grownBy w' (some g) ∧ Made w' g l'.length ∧ BytesIn w' g 0 l'

set_option maxRecDepth 100000 in
set_option maxHeartbeats 4000000 in
theorem reverseB_c (g cap : Nat) (l : List UInt8) (hl : l.length ≤ 1048576) (w : World) (hM : Made w g l.length) (hI : BytesIn w g 0 l) :
    Calls Tryd.prog 106 #[.slice (some ⟨g, 0, none⟩) l.length cap] w (RevBPost g l.reverse w) := by
  have HM := Lib.hid hM
  have HI := Lib.hid hI
  clear hM hI
  go_enter Tryd.func106, Tryd.ntmps106
  go_wp2
  go_loopw [2, 3] (fun vi vj wr => ∃ (k : Nat) (q : Int), vi = .int .i64 k ∧ vj = .int .i64 q ∧ Hid (q = (l.length : Int) - 1 - k) ∧ 2 * k ≤ l.length + 1 ∧ w.grownBy wr (some g) ∧ Made wr g l.length ∧ BytesIn wr g 0 (revG l k)) (fun vi _ _ => l.length - (intOf vi).toNat)
  case atStart => exact ⟨0, (l.length : Int) - 1, rfl, rfl, Lib.hid (by simp), by omega, World.grownBy.refl _ _, HM.out, by rw [revG_zero]; exact HI.out⟩
  case round =>
    obtain ⟨k, q, rfl, rfl, hq, hk2, hG, hMr, hIr⟩ := hrel
    have HG := Lib.hid hG
    have HMr := Lib.hid hMr
    have HIr := Lib.hid hIr
    clear hG hMr hIr
    by_cases hlt : (k : Int) < q
    · obtain ⟨j, rfl⟩ : ∃ j : Nat, q = j := ⟨q.toNat, by omega⟩
      have hkj : k + j + 1 = l.length := by have := hq.out; omega
      have hkl : k < j := by omega
      have c0 := HIr.out k (by rw [revG_length]; omega)
      have d0 := HIr.out j (by rw [revG_length]; omega)
      obtain ⟨e1, e2⟩ := revG_at l k j hkj hkl (by rw [revG_length]; omega) (by rw [revG_length]; omega)
      rw [e1] at c0
      rw [e2] at d0
      rw [Nat.zero_add] at c0 d0
      have HSw := Lib.hid (revG_swap l k j hkj hkl)
      obtain ⟨x, hx⟩ : ∃ x, l.getD k 0 = x := ⟨_, rfl⟩
      obtain ⟨y, hy⟩ : ∃ y, l.getD j 0 = y := ⟨_, rfl⟩
      rw [hx] at c0 HSw
      rw [hy] at d0 HSw
      have z0 := (HMr.out.2 k (by omega)).2
      have y0 := (HMr.out.2 j (by omega)).2
      have hgs := HMr.out.1
      have f0 : (0 : Int) ≤ (k : Int) := by omega
      have f1 : (0 : Int) ≤ (j : Int) := by omega
      have f2 : (k : Int) < (l.length : Int) := by omega
      have f3 : (j : Int) < (l.length : Int) := by omega
      have HKJ := Lib.hid hkj
      clear hx hy e1 e2 hkj
      go_wp2
      go_region
      go_wp2
      go_roundw
      case rel =>
        refine ⟨k + 1, (j : Int) - 1, by go_num, rfl, Lib.hid (by have := hq.out; omega), by have := HKJ.out; omega, ?_, ?_, ?_⟩
        · exact grown_drewB (grown_set (grown_set HG.out _) _)
        · exact made_drewB (Made.set (Made.set HMr.out _ _) _ _)
        · rw [← HSw.out]
          have hm1 : Made wr g (revG l k).length := by rw [revG_length]; exact HMr.out
          have s1 := BytesIn.set1 (k := k) HIr.out hm1 (by rw [revG_length]; have := HKJ.out; omega) y
          have s2 := BytesIn.set1 (k := j) s1 (by rw [List.length_set]; exact hm1.set _ _) (by rw [List.length_set, revG_length]; have := HKJ.out; omega) x
          exact bytes_drew s2
      case measure => simp [intOf]; omega
    · go_wp2
      go_end0
      have hI := HIr.out
      rw [revG_done l k (by have := hq.out; omega)] at hI
      exact ⟨rfl, HG.out, by rw [List.length_reverse]; exact HMr.out, hI⟩

/-- the map after some terms -/
def valR (ts : List Tm) : Nat → ByteArray → Option (Int × Int)
  | 0 => fun _ => none
  | k + 1 => match ts[k]? with
    | none => valR ts k
    | some t => setF (valR ts k) (revW t.s) (some (t.n, t.d))
theorem valR_succ {ts : List Tm} {k : Nat} (h : k < ts.length) : valR ts (k + 1) = setF (valR ts k) (revW (ts[k]).s) (some ((ts[k]).n, (ts[k]).d)) := by
  simp only [valR, List.getElem?_eq_getElem h]
theorem valR_iff {ts : List Tm} (hd : ts.Pairwise (fun a b => a.s ≠ b.s)) : ∀ (k : Nat), k ≤ ts.length → ∀ s p, valR ts k s = some p ↔ ∃ i, ∃ h : i < ts.length, i < k ∧ revW (ts[i]).s = s ∧ p = ((ts[i]).n, (ts[i]).d)
  | 0, _, s, p => by simp [valR]
  | k + 1, hk, s, p => by
    have hlt : k < ts.length := by omega
    have ih := valR_iff hd k (by omega) s p
    rw [valR_succ hlt]
    unfold setF
    by_cases e : s = revW (ts[k]).s
    · subst e
      rw [if_pos rfl]
      constructor
      · intro h
        injection h with h
        exact ⟨k, hlt, by omega, rfl, h.symm⟩
      · rintro ⟨i, hi, hik, he, rfl⟩
        by_cases e2 : i = k
        · subst e2; rfl
        · exact absurd (revW_inj he) (by
            have := List.pairwise_iff_getElem.1 hd i k hi hlt (by omega)
            exact this)
    · rw [if_neg e, ih]
      constructor
      · rintro ⟨i, hi, hik, he, hp⟩
        exact ⟨i, hi, by omega, he, hp⟩
      · rintro ⟨i, hi, hik, he, hp⟩
        refine ⟨i, hi, ?_, he, hp⟩
        by_cases e2 : i = k
        · subst e2; exact absurd he.symm e
        · omega

theorem bytesWorld_below (w : World) (e : TypeId) (s : ByteArray) : Below w.heap.size w (Lib.bytesWorld w e s) :=
  ⟨rfl, rfl, rfl, by rw [Lib.bytesWorld_size]; omega, fun j hj => Lib.bytesWorld_at_old w e s j hj⟩
theorem bytesWorld_made (w : World) (e : TypeId) (s : ByteArray) : Made (Lib.bytesWorld w e s) w.heap.size s.size := by
  refine ⟨by rw [Lib.bytesWorld_size]; omega, fun j hj => ⟨⟨_, Lib.bytesWorld_cell w e s j hj⟩, ?_⟩⟩
  simp only [World.frozen?, Lib.bytesWorld_at_new]
  have : s.size ≤ (Lib.bytesCells w e s).size := by unfold Lib.bytesCells; rw [Array.size_append, Array.size_map]; exact Nat.le_add_right _ _
  simp
  omega
theorem bytesWorld_in (w : World) (e : TypeId) (s : ByteArray) : BytesIn (Lib.bytesWorld w e s) w.heap.size 0 s.data.toList := fun i hi => by
  rw [Nat.zero_add]
  have hi' : i < s.size := by rw [list_size] at hi; exact hi
  rw [Lib.bytesWorld_cell w e s i hi', getDB hi]

def RevVPost (ts : List Tm) (W : World) (e : Ending) (w' : World) : Prop := ∃ b, e = .returned (.map (some b)) ∧ W.heap.size ≤ b ∧ Below W.heap.size W w' ∧ MapV w' b ts.length (valR ts ts.length)

set_option maxRecDepth 100000 in
set_option maxHeartbeats 4000000 in
theorem reversedValues_c (L V : Int) (a : Option Addr) (cap : Nat) (ts : List Tm) (hl : ts.length ≤ 1048576) (hs : ∀ i (h : i < ts.length), (ts[i]).s.size ≤ 1048576) (w : World) (hr : Row w a ts) :
    Calls Tryd.prog 62 #[.agg #[.int .i64 L, .int .i64 V, .slice a ts.length cap]] w (RevVPost ts w) := by
  have hmm := @run_makeMap Tryd.prog
  have HR := Lib.hid hr
  have HS := Lib.hid hs
  clear hr hs
  go_enter Tryd.func62, Tryd.ntmps62
  go_wp2
  clear hmm
  go_loopw [11] (fun vi wr => ∃ k : Nat, k ≤ ts.length ∧ vi = .int .i64 k ∧ Below w.heap.size w wr ∧ w.heap.size + 1 < wr.heap.size ∧ MapV wr (w.heap.size + 1) k (valR ts k)) (fun vi _ => ts.length - (intOf vi).toNat)
  case atStart => exact ⟨0, Nat.zero_le _, rfl, below2 _ _ _, by simp, by
    have h := MapV.made (w.alloc (.cells #[.int .i64 L, .int .i64 V, .slice a ts.length cap] 24))
    rw [World.size_alloc] at h
    exact h⟩
  case round =>
    obtain ⟨k, hk, rfl, hB, hz, hM⟩ := hrel
    have HB := Lib.hid hB
    have HM := Lib.hid hM
    clear hB hM
    by_cases hlt : k < ts.length
    · rcases HR.out with h | ⟨b, off, rfl, hb, ht⟩
      · rw [h] at hlt; simp at hlt
      obtain ⟨c0, c1, c2⟩ := ht.below HB.out hb k hlt
      have hsz := HS.out k hlt
      have HV := Lib.hid (valR_succ hlt)
      obtain ⟨s, n, d, het⟩ : ∃ s n d, ts[k] = ⟨s, n, d⟩ := ⟨_, _, _, rfl⟩
      rw [het] at c0 c1 c2 hsz HV
      simp only at c0 c1 c2 hsz HV
      have hcv := fun W : World => Lib.run_convert_string_bytes (P := Tryd.prog) W 9 114 5 s Tryd.underlying9 Tryd.underlying114 Tryd.underlying5
      clear het ht
      go_wp2_with fail
      have hwz : (wr.alloc (.cells #[.string s, .int .i64 n, .int .i64 d] 83)).heap.size = wr.heap.size + 1 := by simp
      have hrv := fun cp => reverseB_c (wr.heap.size + 1) cp s.data.toList (by rw [list_size]; exact hsz) (Lib.bytesWorld (wr.alloc (.cells #[.string s, .int .i64 n, .int .i64 d] 83)) 5 s)
        (by rw [← hwz, list_size]; exact bytesWorld_made _ _ _) (by rw [← hwz]; exact bytesWorld_in _ _ _)
      rw [list_size] at hrv
      refine (hrv _).mono ?_
      clear hrv hcv
      rintro e w2 ⟨rfl, hG2, hM2, hI2⟩
      have hb0 := bytesWorld_below (wr.alloc (.cells #[.string s, .int .i64 n, .int .i64 d] 83)) 5 s
      rw [hwz] at hb0
      have hsz2 := hb0.size
      rw [hwz] at hsz2
      have hb1 := hb0.trans (below_of_grown (B := wr.heap.size + 1) hG2 (fun g h => by cases h; exact Nat.le_refl _) hsz2)
      have hb2 := (below1 wr (.cells #[.string s, .int .i64 n, .int .i64 d] 83)).trans (hb1.mono (Nat.le_succ _))
      have p1 : w2.cell? ⟨wr.heap.size, 1, none⟩ = some (.int .i64 n) := (hb1.cell (p := ⟨wr.heap.size, 1, none⟩) (Nat.lt_succ_self _)).trans (by go_simp)
      have p2 : w2.cell? ⟨wr.heap.size, 2, none⟩ = some (.int .i64 d) := (hb1.cell (p := ⟨wr.heap.size, 2, none⟩) (Nat.lt_succ_self _)).trans (by go_simp)
      have hcb := fun cp : Nat => run_convert_bytes_back (P := Tryd.prog) w2 114 9 5 ⟨wr.heap.size + 1, 0, none⟩ cp s.data.toList.reverse Tryd.underlying114 Tryd.underlying5 Tryd.underlying9 (fun j hj => by
        have h := hI2 j hj
        rw [Nat.zero_add] at h
        rw [add_at, Nat.zero_add]
        exact h)
      rw [List.length_reverse, list_size] at hcb
      have hrs : (⟨s.data.toList.reverse.toArray⟩ : ByteArray) = revW s := rfl
      rw [hrs] at hcb
      have HB2 := Lib.hid (HB.out.trans (hb2.mono (by omega)))
      have HM2 := Lib.hid (HM.out.below hb2 hz)
      have hz2 : w.heap.size + 1 < w2.heap.size := Nat.lt_of_lt_of_le hz hb2.size
      have hrz : (revW s).size ≤ maxLen := by rw [revW_size]; unfold maxLen; omega
      clear hb0 hb1 hb2 hG2 hM2 hI2 hrs hwz hsz2 c0 c1 c2
      go_wp2_with (refine wpList_putV rfl _ _ _ (.inl rfl) rfl HM2.out (by unfold maxLen; omega) (revW s) rfl hrz n d rfl ?_)
      intro w3 hM3 hG3
      have HM3 := Lib.hid (show MapV w3 (w.heap.size + 1) (k + 1) (valR ts (k + 1)) from by rw [HV.out]; exact hM3)
      have HB3 := Lib.hid (HB2.out.trans (below_of_grown (B := w.heap.size) hG3 (fun g h => by cases h; omega) (by omega)))
      have hz3 : w.heap.size + 1 < w3.heap.size := Nat.lt_of_lt_of_le hz2 hG3.size
      clear hM3 hG3 hcb p1 p2
      go_wp2
      go_roundw
      case rel => exact ⟨k + 1, by omega, by go_num, HB3.out, hz3, HM3.out⟩
      case measure => simp [intOf]; omega
    · obtain rfl : k = ts.length := by omega
      go_wp2
      go_ret
      exact ⟨w.heap.size + 1, rfl, by omega, HB.out, HM.out⟩

theorem ser_ne {L V : Int} {ts : List Tm} (h : serB L V ts = true) : ts.Pairwise (fun a b => a.s ≠ b.s) :=
  List.pairwise_iff_getElem.2 fun i j _ hj hij e => by
    have := asc_of_ser h i j hj hij
    rw [e, lessL_irrefl] at this
    cases this
theorem ser_nz2 {L V : Int} {ts : List Tm} (h : serB L V ts = true) : ∀ t ∈ ts, t.n ≠ 0 := fun t ht => by
  have h1 := ser_term h t ht
  simp only [termB, Bool.and_eq_true, Bool.not_eq_true', beq_eq_false_iff_ne] at h1
  exact h1.2.2
theorem ser_bd2 {L V : Int} {ts : List Tm} (h : serB L V ts = true) : ∀ t ∈ ts, bdT t := fun t ht => by
  have h1 := ser_term h t ht
  simp only [termB, Bool.and_eq_true] at h1
  exact (isF_abs h1.2.1).imp_right (·.1)
theorem turn_bd {sg : Bool} {t : Tm} (h : bdT t) : bdT (turnT sg t) := by
  unfold bdT turnT at *
  simp only
  refine ⟨?_, h.2⟩
  split
  · rw [Int.natAbs_neg]; exact h.1
  · exact h.1
theorem ne_reverse {l : List Tm} (h : l.Pairwise (fun a b => a.s ≠ b.s)) : l.reverse.Pairwise (fun a b => a.s ≠ b.s) := by
  rw [List.pairwise_reverse]
  exact h.imp (fun h e => h e.symm)
/-- one round of the reversal -/
theorem turn_step {sg : Bool} {ts : List Tm} (hd : ts.Pairwise (fun a b => a.s ≠ b.s)) (hn : ∀ t ∈ ts, t.n ≠ 0) (hb : ∀ t ∈ ts, bdT t) {k : Nat} (hk : k < ts.length) :
    ∃ rs, putL (turnAll sg (ts.take k).reverse) (turnT sg ts[k]) = some rs ∧ turnAll sg (ts.take (k + 1)).reverse = rs ∧ rs.length = k + 1 ∧ (turnAll sg (ts.take k).reverse).length = k ∧ ∀ t ∈ turnAll sg (ts.take k).reverse, bdT t := by
  have e : (ts.take (k + 1)).reverse = ts[k] :: (ts.take k).reverse := by rw [List.take_succ_eq_append_getElem hk, List.reverse_append]; rfl
  have hd1 := ne_reverse (hd.sublist (List.take_sublist k ts))
  have hn1 : ∀ t ∈ (ts.take k).reverse, t.n ≠ 0 := fun t ht => hn t (List.mem_of_mem_take (List.mem_reverse.1 ht))
  obtain ⟨i1, i2, i3⟩ := turnAll_all (sg := sg) _ hd1 hn1
  have hne : ∀ t ∈ turnAll sg (ts.take k).reverse, t.s ≠ (turnT sg ts[k]).s := fun t ht e2 => by
    obtain ⟨u, hu, rfl⟩ := (i2 t).1 ht
    obtain ⟨j, hj, rfl⟩ := List.getElem_of_mem (List.mem_reverse.1 hu)
    rw [List.getElem_take] at e2
    have hj' : j < k := by rw [List.length_take] at hj; omega
    exact List.pairwise_iff_getElem.1 hd j k (by omega) hk hj' (revW_inj e2)
  obtain ⟨rs, h1, h2, h3, h4⟩ := putL_new (turnT sg ts[k]) (turn_nz (hn _ (List.getElem_mem hk))) _ i1 hne
  refine ⟨rs, h1, ?_, ?_, ?_, ?_⟩
  · rw [e]; unfold turnAll; rw [h1]; rfl
  · rw [h4, i3]; simp; omega
  · rw [i3]; simp; omega
  · intro t ht
    obtain ⟨u, hu, rfl⟩ := (i2 t).1 ht
    exact turn_bd (hb u (List.mem_of_mem_take (List.mem_reverse.1 hu)))
/-- the terms of the reversal -/
def turned (sg : Bool) (ts : List Tm) : List Tm := turnAll sg ts.reverse
theorem turned_all {sg : Bool} {ts : List Tm} (hd : ts.Pairwise (fun a b => a.s ≠ b.s)) (hn : ∀ t ∈ ts, t.n ≠ 0) : (turned sg ts).Pairwise (fun a b => lessT a b = true) ∧ (∀ t, t ∈ turned sg ts ↔ ∃ u ∈ ts, t = turnT sg u) ∧ (turned sg ts).length = ts.length := by
  obtain ⟨i1, i2, i3⟩ := turnAll_all (sg := sg) _ (ne_reverse hd) (fun t ht => hn t (List.mem_reverse.1 ht))
  refine ⟨i1, fun t => ?_, by unfold turned; rw [i3, List.length_reverse]⟩
  unfold turned
  rw [i2]
  simp only [List.mem_reverse]

def RevRel (sg : Bool) (ts : List Tm) (B n : Nat) (x y : Value) (W : World) (vi : Value) (wr : World) : Prop :=
  ∃ (k : Nat) (a : Option Addr) (l c : Nat), k ≤ ts.length ∧ vi = .int .i64 k ∧ l = (turnAll sg (ts.take k).reverse).length ∧ l ≤ c ∧ NewRow B wr.heap.size wr a (turnAll sg (ts.take k).reverse) ∧ Blk wr n 24 #[x, y, .slice a l c] ∧ Below B W wr
def SerOnlyR (L V : Int) (ts' : List Tm) (W : World) (e : Ending) (w' : World) : Prop :=
  ∃ (a : Option Addr) (cap : Nat), e = .returned (.agg #[.int .i64 L, .int .i64 V, .slice a ts'.length cap]) ∧ Below W.heap.size W w' ∧ NewRow W.heap.size w'.heap.size w' a ts'

set_option maxRecDepth 100000 in
set_option maxHeartbeats 8000000 in
theorem l02Reversal_c (sg : Bool) (L V : Int) (b off cap : Nat) (ts : List Tm) (h1 : serB L V ts = true) (hl : ts.length ≤ 1048576) (w : World) (hb : b < w.heap.size) (ht : TermsIn w b off ts) :
    Calls Tryd.prog 61 #[.agg #[.int .i64 L, .int .i64 V, .slice (some ⟨b, off, none⟩) ts.length cap], .bool sg] w (SerOnlyR L V (turned sg ts) w) := by
  have HT := Lib.hid ht
  have HSm := Lib.hid (ser_small h1)
  have HSt := Lib.hid (fun k (hk : k < ts.length) => turn_step (sg := sg) (ser_ne h1) (ser_nz2 h1) (ser_bd2 h1) hk)
  have HBd := Lib.hid (ser_bd2 h1)
  clear ht h1
  go_enter Tryd.func61, Tryd.ntmps61
  go_wp2_with fail
  refine (l01Empty_c L V _ rfl _).mono ?_
  rintro e w1 ⟨g1, rfl, hO, hb1⟩
  have hz1 : w.heap.size + 1 < w1.heap.size := by have := hb1.size; simp at this; omega
  have HB := Lib.hid (show Below (w.heap.size + 1 + 1) _ w1 from by simpa using hb1)
  clear hb1 hO
  go_wp2_with fail
  go_loopw [6] (RevRel sg ts (w.heap.size + 1 + 1) w1.heap.size (.int .i64 L) (.int .i64 V) ((w.alloc (.cells #[.int .i64 L, .int .i64 V, .slice (some ⟨b, off, none⟩) ts.length cap] 24)).alloc (.cells #[.int .i64 0, .int .i64 0, .slice none 0 0] 24))) (fun vi _ => ts.length - (intOf vi).toNat)
  case atStart =>
    exact ⟨0, _, 0, 0, Nat.zero_le _, rfl, rfl, Nat.le_refl _, .inl rfl, Blk.new _ _ _, HB.out.alloc (by omega) _⟩
  case round =>
    obtain ⟨k, av, lv, cv, hk, rfl, hlv, hlc, hN, hBl, hB⟩ := hrel
    have HLv := Lib.hid hlv
    have HN := Lib.hid hN
    have HBk := Lib.hid hBl
    have HB4 := Lib.hid hB
    have hzn := hBl.lt
    have hzr := hB.size
    simp only [World.size_alloc] at hzr
    have hz00 : w.heap.size < wr.heap.size := by omega
    have n2 : wr.cell? ⟨w1.heap.size, 2, none⟩ = some (.slice av lv cv) := hBl.cell 2
    have bc := bcellB hB
    have y2 : wr.cell? ⟨w.heap.size, 2, none⟩ = some (.slice (some ⟨b, off, none⟩) ts.length cap) := (bc.1 _ _ (by omega)).trans (by go_simp)
    clear hlv hN hBl hB bc
    by_cases hlt : k < ts.length
    · obtain ⟨rs, hp, hrs, hrl, hxl, hxb⟩ := HSt.out k hlt
      have HRs := Lib.hid hrs
      have hlb : lv ≤ 2097152 := by have := HLv.out; omega
      have hsz := HSm.out _ (List.getElem_mem hlt)
      have hbt := turn_bd (sg := sg) (HBd.out _ (List.getElem_mem hlt))
      have hbu := HBd.out _ (List.getElem_mem hlt)
      obtain ⟨c0, c1, c2⟩ := HT.out.below ((below2 w _ _).trans (HB4.out.mono (by omega))) hb k hlt
      obtain ⟨s, n, d, het⟩ : ∃ s n d, ts[k] = ⟨s, n, d⟩ := ⟨_, _, _, rfl⟩
      rw [het] at c0 c1 c2 hp hsz hbt hbu
      simp only at c0 c1 c2 hsz
      obtain ⟨n', hn'⟩ : ∃ n', turnT sg ⟨s, n, d⟩ = ⟨revW s, n', d⟩ := ⟨_, rfl⟩
      have HN' := Lib.hid (show n' = if sg && s.size % 2 == 1 then -n else n from by have := congrArg Tm.n hn'; simpa [turnT] using this.symm)
      rw [hn'] at hp hbt
      have hn1 := hbt.1
      have hd1 := hbt.2
      have hn2 := hbu.1
      simp only at hn1 hd1 hn2
      have hXs := Lib.hid hxb
      have HXl := Lib.hid hxl
      have HRl := Lib.hid hrl
      clear het hn' hbt hbu hrs hxb hxl hrl
      have hodd : (sg = false ∧ n' = n) ∨ (sg = true ∧ ¬ (s.size : Int) % 2 = 1 ∧ n' = n) ∨ (sg = true ∧ (s.size : Int) % 2 = 1 ∧ n = -n') := by
        have h := HN'.out
        cases hsg : sg with
        | false => rw [hsg] at h; simp at h; exact .inl ⟨rfl, h⟩
        | true =>
          rw [hsg] at h
          by_cases e : s.size % 2 = 1
          · simp [e] at h; exact .inr (.inr ⟨rfl, by omega, by omega⟩)
          · simp [e] at h; exact .inr (.inl ⟨rfl, by omega, h⟩)
      have hbr : b < wr.heap.size := by omega
      clear HN'
      rcases hodd with ⟨rfl, hnn⟩ | ⟨rfl, ho, hnn⟩ | ⟨rfl, ho, hnn⟩
      all_goals subst hnn
      all_goals (go_upto_region 8 with fail)
      all_goals
        have HC := fun W h => l01Put_c av lv cv _ HLv.out (revW s) n' d ⟨hn1, hd1⟩ hXs.out hlb hlc W h
        rw [hp] at HC
        have HCh := Lib.hid HC
        clear HC hp
        go_cut [8, 9] (fun s8 s9 wy => ∃ (a : Option Addr) (cap : Nat), Below wr.heap.size wr wy ∧ s8 = .slice a rs.length cap ∧ s9 = .bool true ∧ rs.length ≤ cap ∧ NewRow wr.heap.size wy.heap.size wy a rs)
        case first =>
          go_region_held3 (fun w' => w'.cell? ⟨w1.heap.size, 2, none⟩ = some (.slice av lv cv) ∧ w'.cell? ⟨w.heap.size, 2, none⟩ = some (.slice (some ⟨b, off, none⟩) ts.length cap) ∧ w'.cell? ⟨b, off + k * 3, none⟩ = some (.string s) ∧ w'.cell? ⟨wr.heap.size, 0, none⟩ = some (.int .i64 n') ∧ w'.cell? ⟨wr.heap.size, 1, none⟩ = some (.int .i64 d))
            (go_keep)
            (first
              | (go_at_call 105; refine (l02Turned_c s (by omega) (wr.alloc (.cells #[.int .i64 n', .int .i64 d] 74)).drew).mono ?_; rintro e w5 ⟨rfl, hB0⟩; have hB5 : Below (wr.heap.size + 1) (wr.alloc (.cells #[.int .i64 n', .int .i64 d] 74)) w5 := ⟨hB0.os, hB0.tape, hB0.output, by simpa using hB0.size, fun j hj => hB0.block j (by simpa using hj)⟩; have hz5 : wr.heap.size < w5.heap.size := (by have := hB5.size; simp at this; omega); have hb5 : Below wr.heap.size wr w5 := (below1 wr _).trans (hB5.mono (Nat.le_succ _)); have z1 : w5.cell? ⟨w1.heap.size, 2, none⟩ = some (.slice av lv cv) := (hb5.cell (p := ⟨w1.heap.size, 2, none⟩) hzn).trans n2; have z2 : w5.cell? ⟨w.heap.size, 2, none⟩ = some (.slice (some ⟨b, off, none⟩) ts.length cap) := (hb5.cell (p := ⟨w.heap.size, 2, none⟩) hz00).trans y2; have z3 : w5.cell? ⟨b, off + k * 3, none⟩ = some (.string s) := (hb5.cell (p := ⟨b, off + k * 3, none⟩) hbr).trans c0; have z4 : w5.cell? ⟨wr.heap.size, 0, none⟩ = some (.int .i64 n') := (hB5.cell (p := ⟨wr.heap.size, 0, none⟩) (Nat.lt_succ_self _)).trans (by go_simp); have z5 : w5.cell? ⟨wr.heap.size, 1, none⟩ = some (.int .i64 d) := (hB5.cell (p := ⟨wr.heap.size, 1, none⟩) (Nat.lt_succ_self _)).trans (by go_simp))
              | (go_at_call 104; refine (HCh.out w5 (HN.out.below hb5 (Nat.le_refl _)).row).mono ?_; rintro e w6 ⟨a6, c6, rfl, hlc6, hB6, hN6⟩; have q1 : w6.cell? ⟨w1.heap.size, 2, none⟩ = some (.slice av lv cv) := (hB6.cell (p := ⟨w1.heap.size, 2, none⟩) (show w1.heap.size < w5.heap.size by omega)).trans z1; have q2 : w6.cell? ⟨w.heap.size, 2, none⟩ = some (.slice (some ⟨b, off, none⟩) ts.length cap) := (hB6.cell (p := ⟨w.heap.size, 2, none⟩) (show w.heap.size < w5.heap.size by omega)).trans z2; have q3 : w6.cell? ⟨b, off + k * 3, none⟩ = some (.string s) := (hB6.cell (p := ⟨b, off + k * 3, none⟩) (show b < w5.heap.size by omega)).trans z3; have q4 : w6.cell? ⟨wr.heap.size, 0, none⟩ = some (.int .i64 n') := (hB6.cell (p := ⟨wr.heap.size, 0, none⟩) hz5).trans z4; have q5 : w6.cell? ⟨wr.heap.size, 1, none⟩ = some (.int .i64 d) := (hB6.cell (p := ⟨wr.heap.size, 1, none⟩) hz5).trans z5))
          all_goals (go_wp2_with fail; go_meet)
          all_goals exact ⟨a6, c6, hb5.trans (hB6.mono (Nat.le_of_lt hz5)), rfl, rfl, hlc6, hN6.mono (Nat.le_of_lt hz5) (Nat.le_refl _)⟩
        case rest =>
          obtain ⟨a5, c5, hbc, rfl, rfl, hlc5, hN5⟩ := hcut
          obtain ⟨w6, rfl⟩ : ∃ w6 : World, w6 = wc := ⟨_, rfl⟩
          have hsz6 := hbc.size
          have bc := bcellB hbc
          have n6 : w6.cell? ⟨w1.heap.size, 2, none⟩ = some (.slice av lv cv) := (bc.1 _ _ hzn).trans n2
          have nf6 : w6.frozen? ⟨w1.heap.size, 2, none⟩ = false := (bc.2 _ _ hzn).trans (HBk.out.frozen 2)
          clear bc
          go_wp2_with fail
          have hN6 := (hN5.far1s (n := w1.heap.size) (i := 2) (x := .slice a5 rs.length c5) hzn).mono (show w.heap.size + 1 + 1 ≤ _ by omega) (show _ ≤ (w6.setCell ⟨w1.heap.size, 2, none⟩ (.slice a5 rs.length c5)).heap.size by simp)
          refine ⟨⟨k + 1, a5, rs.length, c5, by omega, by first | rfl | simp, by rw [HRs.out], hlc5, by rw [HRs.out]; exact hN6, (HBk.out.below hbc hzn).set_ 2 _, (HB4.out.trans (hbc.mono (by omega))).setCell (p := ⟨w1.heap.size, 2, none⟩) (by show _ ≤ w1.heap.size; omega) _⟩, ?_⟩
          show ts.length - ((k : Int) + 1).toNat < ts.length - ((k : Int)).toNat
          omega
    · obtain rfl : k = ts.length := by omega
      have bc6 := bcellB HB4.out
      have e0 : wr.cell? ⟨w.heap.size + 1, 0, none⟩ = some (.int .i64 0) := (bc6.1 _ _ (by omega)).trans (by go_simp)
      have e1 : wr.cell? ⟨w.heap.size + 1, 1, none⟩ = some (.int .i64 0) := (bc6.1 _ _ (by omega)).trans (by go_simp)
      have e2 : wr.cell? ⟨w.heap.size + 1, 2, none⟩ = some (.slice none 0 0) := (bc6.1 _ _ (by omega)).trans (by go_simp)
      have d0 : wr.frozen? ⟨w.heap.size + 1, 0, none⟩ = false := (bc6.2 _ _ (by omega)).trans (by go_simp)
      have d1 : wr.frozen? ⟨w.heap.size + 1, 1, none⟩ = false := (bc6.2 _ _ (by omega)).trans (by go_simp)
      have d2 : wr.frozen? ⟨w.heap.size + 1, 2, none⟩ = false := (bc6.2 _ _ (by omega)).trans (by go_simp)
      clear bc6
      have m0 : wr.cell? ⟨w1.heap.size, 0, none⟩ = some (.int .i64 L) := HBk.out.cell 0
      have m1 : wr.cell? ⟨w1.heap.size, 1, none⟩ = some (.int .i64 V) := HBk.out.cell 1
      have HB6 := Lib.hid ((below2 w _ _).trans (HB4.out.mono (by omega)))
      have HTe := Lib.hid (show turnAll sg (ts.take ts.length).reverse = turned sg ts from by rw [List.take_length]; rfl)
      have hz01 : w.heap.size + 1 < wr.heap.size := by omega
      have hN := HN.out
      have hl := HLv.out
      rw [HTe.out] at hN hl
      subst hl
      have HN2 := Lib.hid hN
      clear hN
      go_wp2_with fail
      refine bodyPost_ret (v := .agg #[.int .i64 L, .int .i64 V, .slice av (turned sg ts).length cv]) (by simp [results, Tryd.results61, go_sem, e0, e1, e2]) rfl ?_
      exact ⟨av, cv, rfl, ((HB6.out.setCell (p := ⟨w.heap.size + 1, 0, none⟩) (by show _ ≤ w.heap.size + 1; omega) _).setCell (p := ⟨w.heap.size + 1, 1, none⟩) (by show _ ≤ w.heap.size + 1; omega) _).setCell (p := ⟨w.heap.size + 1, 2, none⟩) (by show _ ≤ w.heap.size + 1; omega) _, (((HN2.out.far1s (by omega)).far1s (by omega)).far1s (by omega)).mono (by omega) (by simp)⟩
end Go.Proofs.YtoeednnkadmjpaaDoor
