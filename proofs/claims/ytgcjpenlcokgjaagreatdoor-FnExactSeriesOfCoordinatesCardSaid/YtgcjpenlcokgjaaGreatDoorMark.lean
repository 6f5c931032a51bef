/-
  The laws' own helpers that write marks into a list of terms and look whether the marks are still there.
-/
import Derived.Test.YtgcjpenlcokgjaaGreatDoorSer
import Derived.Laws.BytesString
import Derived.Laws.IdiomStrings
namespace Go.Proofs.YtgcjpenlcokgjaaGreatDoor
open Go.RowKit

theorem conv_byte (x : Int) (h0 : 0 ≤ x) (h1 : x ≤ 255) (W : World) :
    (convert 120 9 (.slice (some ⟨W.heap.size, 0, none⟩) 1 1)).run Tryz.prog (W.alloc (.cells #[.int .u8 x] 5)) = .ok (.string ⟨#[UInt8.ofNat x.toNat]⟩) (W.alloc (.cells #[.int .u8 x] 5)) := by
  have e : ((UInt8.ofNat x.toNat).toNat : Int) = x := by
    rw [UInt8.toNat_ofNat']; omega
  exact run_convert_bytes_back (P := Tryz.prog) (W.alloc (.cells #[.int .u8 x] 5)) 120 9 5 ⟨W.heap.size, 0, none⟩ 1 [UInt8.ofNat x.toNat] Tryz.underlying120 Tryz.underlying5 Tryz.underlying9 (fun j hj => by
    have hj0 : j = 0 := by simpa using hj
    subst hj0
    simp only [List.getElem_cons_zero, e]
    show (W.alloc _).cell? ⟨W.heap.size, 0, none⟩ = _
    rw [World.cell?_alloc_new]
    rfl)

/-- the digits that the loop puts ahead of what it has; the mark of a number -/
def digs : Nat → Int → ByteArray → ByteArray
  | 0, _, acc => acc
  | f + 1, k, acc => if k = 0 then acc else digs f (k / 10) (⟨#[UInt8.ofNat (48 + k % 10).toNat]⟩ ++ acc)
def mkT (k : Int) : ByteArray := ⟨#[109]⟩ ++ digs 8 k ByteArray.empty

theorem ten_bd (f : Nat) (hf : f ≤ 8) : (10 : Int) ^ f ≤ 100000000 := by
  have h : f = 0 ∨ f = 1 ∨ f = 2 ∨ f = 3 ∨ f = 4 ∨ f = 5 ∨ f = 6 ∨ f = 7 ∨ f = 8 := by omega
  rcases h with rfl | rfl | rfl | rfl | rfl | rfl | rfl | rfl | rfl <;> decide
theorem digs_step (g : Nat) (j : Int) (s : ByteArray) (hj : 0 < j) : digs (g + 1) j s = digs g (j / 10) (⟨#[UInt8.ofNat (48 + j % 10).toNat]⟩ ++ s) := by
  rw [digs, if_neg (by omega)]
theorem digs_zero (f : Nat) (s : ByteArray) : digs f 0 s = s := by
  cases f with
  | zero => rfl
  | succ f => rw [digs, if_pos rfl]
theorem ten_step (j : Int) (g : Nat) (h : j < 10 ^ (g + 1)) : j / 10 < 10 ^ g := by
  rw [Int.pow_succ] at h
  omega

set_option maxRecDepth 100000 in
theorem markText_c (k : Int) (hk : 0 < k) (hk2 : k < 100000000) (w : World) :
    Calls Tryz.prog 44 #[.int .i64 k] w fun e w' => e = .returned (.string (mkT k)) ∧ Below w.heap.size w w' := by
  go_enter Tryz.func44, Tryz.ntmps44
  go_wp2
  go_loopw [0, 3] (fun vk vs wr => ∃ (j : Int) (f : Nat) (s : ByteArray), vk = .int .i64 j ∧ vs = .string s ∧ 0 ≤ j ∧ j < 10 ^ f ∧ f ≤ 8 ∧ s.size + f ≤ 8 ∧ digs f j s = digs 8 k ByteArray.empty ∧ Below w.heap.size w wr) (fun vk _ _ => (intOf vk).toNat)
  case atStart => exact ⟨k, 8, ByteArray.empty, rfl, rfl, by omega, by simpa using hk2, by omega, by simp, rfl, Below.refl _ _⟩
  case round =>
    obtain ⟨j, f, s, rfl, rfl, h0, hj, hf, hs, hd, hB⟩ := hrel
    have HD := Lib.hid hd
    have HJ := Lib.hid hj
    clear hd hj
    have hj8 : j < 100000000 := by
      have h := HJ.out
      have h2 := ten_bd f hf
      omega
    by_cases hj0 : 0 < j
    · have hcv := conv_byte (48 + j % 10) (by omega) (by omega)
      obtain ⟨g, rfl⟩ : ∃ g, f = g + 1 := by
        cases f with
        | zero => have := HJ.out; simp at this; omega
        | succ g => exact ⟨g, rfl⟩
      go_wp2
      go_roundw
      case rel => exact ⟨j / 10, g, ⟨#[UInt8.ofNat (48 + j % 10).toNat]⟩ ++ s, by first | rfl | go_num, rfl, by omega, ten_step j g HJ.out, by omega, by rw [ByteArray.size_append]; show 1 + _ + _ ≤ 8; omega, by rw [← digs_step g j s hj0]; exact HD.out, hB.alloc hB.size _⟩
      case measure => simp [intOf]; omega
    · obtain rfl : j = 0 := by omega
      go_wp2
      go_ret
      refine ⟨?_, hB⟩
      have e := HD.out
      rw [digs_zero] at e
      rw [e]
      rfl

/-- the terms that marking leaves, from the number `k` on -/
def marked (k : Int) : List Tm → List Tm
  | [] => []
  | _ :: r => ⟨mkT k, k + 1, k + 2⟩ :: marked (k + 3) r
theorem marked_length : ∀ (k : Int) (ts : List Tm), (marked k ts).length = ts.length
  | _, [] => rfl
  | k, _ :: r => by simp [marked, marked_length (k + 3) r]
theorem marked_get : ∀ (k : Int) (ts : List Tm) (i : Nat) (h : i < (marked k ts).length), (marked k ts)[i] = ⟨mkT (k + 3 * i), k + 3 * i + 1, k + 3 * i + 2⟩
  | _, [], i, h => by simp [marked] at h
  | k, _ :: r, 0, _ => by simp [marked]
  | k, _ :: r, i + 1, h => by
    have hi : i < (marked (k + 3) r).length := by simpa [marked] using h
    have e := marked_get (k + 3) r i hi
    have e2 : k + 3 + 3 * (i : Int) = k + 3 * ((i + 1 : Nat) : Int) := by omega
    rw [e2] at e
    simpa [marked] using e

/-- what marking comes to: the row's new terms, a number further on; nothing else has changed -/
def MarkPost (g : Nat) (len : Nat) (ts' : List Tm) (k' : Int) (W : World) (e : Ending) (w' : World) : Prop :=
  e = .returned (.int .i64 k') ∧ W.grownBy w' (some g) ∧ Made w' g (len * 3) ∧ TermsIn w' g 0 ts'

theorem grown_of_below {W w w' : World} {g : Nat} (h : W.grownBy w (some g)) (hb : Below w.heap.size w w') : W.grownBy w' (some g) :=
  ⟨hb.os.trans h.os, hb.tape.trans h.tape, hb.output.trans h.output, Nat.le_trans h.size hb.size, fun i hi hne => (hb.block i (Nat.lt_of_lt_of_le hi h.size)).trans (h.block i hi hne)⟩
theorem grown_set {W w : World} {g o : Nat} (h : W.grownBy w (some g)) (u : Value) : W.grownBy (w.setCell ⟨g, o, none⟩ u) (some g) :=
  ⟨h.os, h.tape, h.output, by rw [World.size_setCell]; exact h.size, fun i hi hne => (Below.heap_setCell w ⟨g, o, none⟩ u i (fun e => hne (by rw [e]))).trans (h.block i hi hne)⟩

theorem markTermS_c (g cap len : Nat) (k : Int) (hk : 0 < k) (hk2 : k + 3 * (len : Int) < 100000000) (w : World) (hM : Made w g (len * 3)) (ts : List Tm) (hl : ts.length = len) :
    Calls Tryz.prog 14 #[.slice (some ⟨g, 0, none⟩) len cap, .int .i64 k] w (MarkPost g len (marked k ts) (k + 3 * len) w) := by
  have HM := Lib.hid hM
  clear hM
  go_enter Tryz.func14, Tryz.ntmps14
  go_wp2
  go_loopw [1, 5] (fun vk vi wr => ∃ i : Nat, i ≤ len ∧ vi = .int .i64 i ∧ vk = .int .i64 (k + 3 * i) ∧ w.grownBy wr (some g) ∧ Made wr g (len * 3) ∧ TermsIn wr g 0 ((marked k ts).take i)) (fun _ vi _ => len - (intOf vi).toNat)
  case atStart => exact ⟨0, Nat.zero_le _, rfl, by simp, World.grownBy.refl _ _, HM.out, fun i hi => by simp at hi⟩
  case round =>
    obtain ⟨i, hi, rfl, rfl, hG, hMr, hTr⟩ := hrel
    have HG := Lib.hid hG
    have HMr := Lib.hid hMr
    have HTr := Lib.hid hTr
    have hgs := hMr.1
    clear hG hMr hTr
    by_cases hlt : i < len
    · go_wp2_with fail
      refine (markText_c (k + 3 * i) (by omega) (by omega) _).mono ?_
      rintro e w1 ⟨rfl, hb1⟩
      have hG1 := grown_of_below HG.out hb1
      have hM1 := HMr.out.below hb1 hgs
      have hT1 := HTr.out.below hb1 hgs
      obtain ⟨⟨v0, m0⟩, z0⟩ := hM1.2 (i * 3) (by omega)
      obtain ⟨⟨v1, m1⟩, z1⟩ := hM1.2 (i * 3 + 1) (by omega)
      obtain ⟨⟨v2, m2⟩, z2⟩ := hM1.2 (i * 3 + 2) (by omega)
      have HM1 := Lib.hid hM1
      have HT1 := Lib.hid hT1
      have HG1 := Lib.hid hG1
      have HL := Lib.hid (marked_length k ts)
      have HGe := Lib.hid (marked_get k ts i (by rw [marked_length, hl]; exact hlt))
      clear hM1 hT1 hG1 hb1
      have s1 : k + 3 * (i : Int) + 1 + 1 = k + 3 * (i : Int) + 2 := by omega
      go_wp2
      go_roundw
      case rel =>
        have hln : (marked k ts).length = len := HL.out.trans hl
        refine ⟨i + 1, by omega, by go_num, by congr 1; omega, grown_set (grown_set (grown_set HG1.out _) _) _, ((HM1.out.set _ _).set _ _).set _ _, ?_⟩
        exact TermsIn.snoc3 (ts := marked k ts) (by rw [hln]; exact hlt) HT1.out (by rw [hln]; exact HM1.out) HGe.out
      case measure => simp [intOf]; omega
    · obtain rfl : i = len := by omega
      have HL := Lib.hid (marked_length k ts)
      go_wp2
      go_ret
      refine ⟨rfl, HG.out, HMr.out, ?_⟩
      have e := HTr.out
      rwa [List.take_of_length_le (by rw [HL.out, hl]; exact Nat.le_refl _)] at e

theorem str_neq_same (s : ByteArray) : (s.toList != s.toList) = false := by simp

theorem heldTermS_c (g cap len : Nat) (k : Int) (hk : 0 < k) (hk2 : k + 3 * (len : Int) < 100000000) (w : World) (hg : g < w.heap.size) (ts : List Tm) (hl : ts.length = len) (ht : TermsIn w g 0 (marked k ts)) :
    Calls Tryz.prog 23 #[.slice (some ⟨g, 0, none⟩) len cap, .int .i64 k] w fun e w' => e = .returned (.int .i64 (k + 3 * len)) ∧ Below w.heap.size w w' := by
  have HT := Lib.hid ht
  have HLn : Hid ((marked k ts).length = len) := Lib.hid ((marked_length k ts).trans hl)
  clear ht
  go_enter Tryz.func23, Tryz.ntmps23
  go_wp2
  go_loopw [1, 5] (fun vk vi wr => ∃ i : Nat, i ≤ len ∧ vi = .int .i64 i ∧ vk = .int .i64 (k + 3 * i) ∧ Below w.heap.size w wr) (fun _ vi _ => len - (intOf vi).toNat)
  case atStart => exact ⟨0, Nat.zero_le _, rfl, by simp, Below.refl _ _⟩
  case round =>
    obtain ⟨i, hi, rfl, rfl, hB⟩ := hrel
    have HB := Lib.hid hB
    have hgr : g < wr.heap.size := Nat.lt_of_lt_of_le hg hB.size
    have hTr := HT.out.below hB hg
    clear hB
    by_cases hlt : i < len
    · have hlt2 : i < (marked k ts).length := by rw [HLn.out]; exact hlt
      obtain ⟨c0, c1, c2⟩ := hTr i hlt2
      rw [marked_get k ts i hlt2] at c0 c1 c2
      simp only [Nat.zero_add] at c0 c1 c2
      clear hTr hlt2
      have s1 : k + 3 * (i : Int) + 1 + 1 = k + 3 * (i : Int) + 2 := by omega
      go_upto_region 4 with fail
      go_cut [19] (fun s19 wy => s19 = .bool false ∧ Below wr.heap.size wr wy)
      case first =>
        go_region_held3 (fun w' => w'.cell? ⟨g, i * 3, none⟩ = some (.string (mkT (k + 3 * i)))) (first | (exact (hb1.cell (p := ⟨g, i * 3, none⟩) hgr).trans c0) | go_keep)
          (first | (go_at_call 44; refine (markText_c (k + 3 * i) (by omega) (by omega) _).mono ?_; rintro e w1 ⟨rfl, hb1⟩))
        all_goals (go_wp2_with fail; go_meet)
        all_goals exact ⟨by simp, ⟨hb1.os, hb1.tape, hb1.output, hb1.size, hb1.block⟩⟩
      case rest =>
        obtain ⟨rfl, hBy⟩ := hcut
        have hB1 := Lib.hid (HB.out.trans (hBy.mono HB.out.size))
        have d1 : wc.cell? ⟨g, i * 3 + 1, none⟩ = some (.int .i64 (k + 3 * i + 1)) := (hBy.cell (p := ⟨g, i * 3 + 1, none⟩) hgr).trans c1
        have d2 : wc.cell? ⟨g, i * 3 + 2, none⟩ = some (.int .i64 (k + 3 * i + 2)) := (hBy.cell (p := ⟨g, i * 3 + 2, none⟩) hgr).trans c2
        clear hBy c0 c1 c2
        go_wp2
        go_roundw
        case rel => exact ⟨i + 1, by omega, by go_num, by congr 1; omega, hB1.out⟩
        case measure => simp [intOf]; omega
    · obtain rfl : i = len := by omega
      go_wp2
      go_ret
      exact ⟨rfl, HB.out⟩

theorem markSeries_c (L V : Int) (g cap len : Nat) (k : Int) (hk : 0 < k) (hk2 : k + 3 * (len : Int) < 100000000) (w : World) (hM : Made w g (len * 3)) (ts : List Tm) (hl : ts.length = len) :
    Calls Tryz.prog 15 #[.agg #[.int .i64 L, .int .i64 V, .slice (some ⟨g, 0, none⟩) len cap], .int .i64 k] w (MarkPost g len (marked k ts) (k + 3 * len) w) := by
  have HM := Lib.hid hM
  have hg := hM.1
  clear hM
  go_enter Tryz.func15, Tryz.ntmps15
  go_wp2_with fail
  refine (markTermS_c g cap len k hk hk2 _ (HM.out.below (below1 w _) hg) ts hl).mono ?_
  rintro e w1 ⟨rfl, hG, hM1, hT1⟩
  have HG : Hid (w.grownBy w1 (some g)) := Lib.hid ⟨hG.os, hG.tape, hG.output, by have := hG.size; simp at this; omega, fun i hi hne => (hG.block i (by simp; omega) hne).trans (Below.heap_alloc w _ i hi)⟩
  have HM1 := Lib.hid hM1
  have HT1 := Lib.hid hT1
  clear hG hM1 hT1
  go_wp2
  go_ret
  exact ⟨rfl, HG.out, HM1.out, HT1.out⟩

theorem heldSeries_c (L V : Int) (g cap len : Nat) (k : Int) (hk : 0 < k) (hk2 : k + 3 * (len : Int) < 100000000) (w : World) (hg : g < w.heap.size) (ts : List Tm) (hl : ts.length = len) (ht : TermsIn w g 0 (marked k ts)) :
    Calls Tryz.prog 16 #[.agg #[.int .i64 L, .int .i64 V, .slice (some ⟨g, 0, none⟩) len cap], .int .i64 k] w fun e w' => e = .returned (.int .i64 (k + 3 * len)) ∧ Below w.heap.size w w' := by
  have HT := Lib.hid ht
  clear ht
  have hpos : 0 ≤ k + 3 * (len : Int) := by omega
  go_enter Tryz.func16, Tryz.ntmps16
  go_wp2_with fail
  refine (heldTermS_c g cap len k hk hk2 _ (by simp; omega) ts hl (HT.out.below (below1 w _) hg)).mono ?_
  rintro e w1 ⟨rfl, hb⟩
  have hW := (below1 w _).trans (hb.mono (by simp))
  clear hb
  go_wp2
  go_ret
  exact ⟨rfl, hW⟩
end Go.Proofs.YtgcjpenlcokgjaaGreatDoor
