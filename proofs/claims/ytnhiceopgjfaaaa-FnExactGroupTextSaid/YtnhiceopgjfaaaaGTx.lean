/-
  Texts of group words: 'a' to 'c', and 'A' to 'C' for their opposites. GroupText and ParseGroup: contracts of the program and of the model.
-/
import Derived.Test.YtnhiceopgjfaaaaGrp
import Derived.Test.YtnhiceopgjfaaaaByA
import Derived.Test.YtnhiceopgjfaaaaShelf
import Derived.Laws.BytesArg
import Derived.WalkLawsBesides
namespace Go.Proofs.Ytnhiceopgjfaaaa
open Go.RowKit

/-- the byte of a number -/
def chrG (x : Int) : Int := if 0 < x then 96 + x else 64 - x
def textG (z : List Int) : ByteArray := strOfNums (z.map chrG)
theorem letters_of {d x : Int} (h1 : 1 ≤ d) (h3 : d ≤ 3) (hlo : -d ≤ x) (hhi : x ≤ d) (hne : x ≠ 0) : x = -3 ∨ x = -2 ∨ x = -1 ∨ x = 1 ∨ x = 2 ∨ x = 3 := by omega
theorem GoodD.letters {d : Int} {z : List Int} (h : GoodD d z) : ∀ x ∈ z, x = -3 ∨ x = -2 ∨ x = -1 ∨ x = 1 ∨ x = 2 ∨ x = 3 := fun x hx => letters_of h.d1 h.d3 (h.lo x hx) (h.hi x hx) (h.ne x hx)

theorem byteOfNumber_c (x : Int) (hx : x = -3 ∨ x = -2 ∨ x = -1 ∨ x = 1 ∨ x = 2 ∨ x = 3) (w : World) :
    Calls Try.prog 55 #[.int .i64 x] w fun e w' => e = .returned (.int .u8 (chrG x)) ∧ w = w' := by
  rcases hx with rfl | rfl | rfl | rfl | rfl | rfl <;>
  · go_enter Try.func55, Try.ntmps55
    go_wp2
    go_ret
    exact ⟨rfl, rfl⟩
theorem map_take_snoc {z : List Int} {k : Nat} (h : k < z.length) (f : Int → Int) : (z.map f).take (k + 1) = (z.map f).take k ++ [f z[k]] := by
  rw [List.take_succ_eq_append_getElem (by simpa using h), List.getElem_map]

/-- a row of bytes of the call's own, made a string -/
theorem conv_own {W : World} {base : Nat} {a : Option Addr} {l c : Nat} {ss : List Int} (h : OwnY W base (.slice a l c) ss) :
    (convert 63 9 (.slice a l c)).run Try.prog W = .ok (.string (strOfNums ss)) W := by
  obtain ⟨a', c', he, _, hN⟩ := h.newY
  injection he with e1 e2 e3
  subst e1 e3
  cases a with
  | none =>
    have h0 : ss = [] := by
      rcases hN with h | ⟨g, hg, _⟩
      · exact h
      · cases hg
    subst h0
    exact run_convert_bytes_nil (P := Try.prog) (w := W) 63 5 Try.underlying63 Try.underlying5 l c 9 Try.underlying9
  | some ad =>
    rcases h.2 with ⟨h1, _⟩ | ⟨g, cap, cur, hv, hbg, hg, hnc, hcm, hcs, htake⟩
    · cases h1
    · injection hv with q1 q2 q3
      cases q1
      have hcell : ∀ i, i < l → W.cell? ⟨g, 0 + i, none⟩ = some (.int .u8 (ss.getD i 0)) := fun i hi => by
        have hi' : i < ss.length := by omega
        rw [Nat.zero_add, cell_of_row W g i cur _ (0, 0) hg]
        have : cur[i]? = (cellsY ss)[i]? := by
          rw [← htake, List.getElem?_take, if_pos (by omega)]; simp
        rw [this]
        simp [cellsY, List.getD, hi']
      exact run_convert_bytes_arg (P := Try.prog) W 63 5 Try.underlying63 Try.underlying5 g 0 l c ss e2.symm hcell 9 Try.underlying9

section
variable (d : Int) (a : Option Addr) (cap : Nat) (z : List Int) (hl : z.length ≤ 1048576) (w : World) (hr : IRow 0 w.heap.size w a z)
include hl hr
theorem sGroupText_1 (h : grpB d z = false) : Calls Try.prog 36 #[.int .i64 d, .slice a z.length cap] w fun e w' => e = .returned (.tuple #[.string { data := #[] }, .int .i64 2]) ∧ Below w.heap.size w w' := by
  have H := Lib.hid (l09Is_c 0 w.heap.size d a cap z hl w hr)
  have HB := Lib.hid h
  clear hr h
  go_enter Try.func36, Try.ntmps36
  go_wp2_with (go_at_call 40; refine H.out.mono ?_; rw [HB.out]; rintro e w' ⟨rfl, rfl⟩)
  go_ret2
  exact ⟨rfl, Below.refl _ _⟩
theorem iGroupText_1 (h : grpB d z = false) : Calls Try.prog 37 #[.int .i64 d, .slice a z.length cap] w fun e w' => e = .returned (.tuple #[.string { data := #[] }, .int .i64 2]) ∧ Below w.heap.size w w' := by
  have H := Lib.hid (iIsGroupWord_c 0 w.heap.size d a cap z hl w hr)
  have HB := Lib.hid h
  clear hr h
  go_enter Try.func37, Try.ntmps37
  go_wp2_with (go_at_call 15; refine H.out.mono ?_; rw [HB.out]; rintro e w' ⟨rfl, rfl⟩)
  go_ret2
  exact ⟨rfl, Below.refl _ _⟩
set_option maxRecDepth 100000 in
set_option maxHeartbeats 2000000 in
theorem iGroupText_2 (h : grpB d z = true) : Calls Try.prog 37 #[.int .i64 d, .slice a z.length cap] w fun e w' => e = .returned (.tuple #[.string (textG z), .int .i64 0]) ∧ Below w.heap.size w w' := by
  have H := Lib.hid (iIsGroupWord_c 0 w.heap.size d a cap z hl w hr)
  have HB := Lib.hid h
  have HT := Lib.hid hr
  have hl12 := (grpB_true h).len
  have HL := Lib.hid (grpB_true h).letters
  have HM := Lib.hid (fun k (hk : k < z.length) => map_take_snoc hk chrG)
  clear hr h
  go_enter Try.func37, Try.ntmps37
  go_wp2_with (go_at_call 15; refine H.out.mono ?_; rw [HB.out]; rintro e w' ⟨rfl, rfl⟩)
  go_loopw [6, 15] (fun vs vi wr => ∃ (k c : Nat) (a' : Option Addr), k ≤ z.length ∧ vi = .int .i64 k ∧ vs = .slice a' k c ∧ Below w.heap.size w wr ∧ OwnY wr w.heap.size (.slice a' k c) ((z.map chrG).take k)) (fun _ vi _ => z.length - (intOf vi).toNat)
  case atStart => exact ⟨0, 0, none, Nat.zero_le _, rfl, rfl, Below.refl _ _, by simpa using OwnY.nil w w.heap.size⟩
  case round =>
    obtain ⟨k, c, a', hk, rfl, rfl, hB, hO⟩ := hrel
    have hzr := hB.size
    have HB := Lib.hid hB
    have HO := Lib.hid hO
    clear hO
    by_cases hlt : k < z.length
    · rcases (HT.out.below hB (Nat.le_refl _)) with h | ⟨b', o', rfl, _, hb', hI'⟩
      · rw [h] at hlt; simp at hlt
      have c1 := hI' k hlt
      have hx' := HL.out z[k] (List.getElem_mem hlt)
      have HS := Lib.hid (HM.out k hlt)
      obtain ⟨x, hx⟩ : ∃ x, z[k] = x := ⟨_, rfl⟩
      rw [hx] at c1 hx' HS
      have HX := Lib.hid hx'
      have e0 : (0 : Int) ≤ (k : Int) := by omega
      have e1 : (k : Int) < (z.length : Int) := by omega
      clear hx hI' hB hx'
      go_wp2_with fail
      refine (byteOfNumber_c x HX.out _).mono ?_
      rintro e w' ⟨rfl, rfl⟩
      go_wp2_with (at_builtin; refine wpList_append_bys rfl _ _ rfl w.heap.size (.slice a' k c) k ((z.map chrG).take k) [chrG x] rfl (by simp; omega) (HO.out.alloc _) _ 1 1 rfl rfl (.inr ⟨_, 0, rfl, bys_one _ _⟩) (by omega) (by simp; omega) ?_)
      intro a4 c4 w4 hO4 hG4 _
      have HB4 := Lib.hid (HB.out.trans (((below1 _ _).mono (by exact hzr)).trans (own_grownY (by exact OwnY.alloc (by exact HO.out) _) hG4 (by simp; omega))))
      have HO4 := Lib.hid hO4
      clear hO4 hG4
      go_wp2
      go_roundw
      case rel => exact ⟨k + 1, c4, a4, by omega, by go_num, rfl, HB4.out, by rw [HS.out]; exact HO4.out⟩
      case measure => simp [intOf]; omega
    · obtain rfl : k = z.length := by omega
      have hO := HO.out
      rw [List.take_of_length_le (by simp)] at hO
      have hcv := conv_own hO
      clear hB hO
      go_wp2
      go_ret2
      exact ⟨rfl, HB.out⟩
set_option maxRecDepth 100000 in
set_option maxHeartbeats 4000000 in
theorem l09Text_c (hl12 : z.length ≤ 12) (hx : ∀ x ∈ z, x = -3 ∨ x = -2 ∨ x = -1 ∨ x = 1 ∨ x = 2 ∨ x = 3) : Calls Try.prog 54 #[.slice a z.length cap] w fun e w' => e = .returned (.string (textG z)) ∧ Below w.heap.size w w' := by
  have HT := Lib.hid hr
  have HL := Lib.hid hx
  have HM := Lib.hid (fun k (hk : k < z.length) => map_take_snoc hk chrG)
  clear hr hx
  go_enter Try.func54, Try.ntmps54
  go_wp2
  go_loopw [3, 4] (fun vs vi wr => ∃ (k c : Nat) (a' : Option Addr), k ≤ z.length ∧ vi = .int .i64 k ∧ vs = .slice a' k c ∧ Below w.heap.size w wr ∧ OwnY wr w.heap.size (.slice a' k c) ((z.map chrG).take k)) (fun _ vi _ => z.length - (intOf vi).toNat)
  case atStart => exact ⟨0, 0, _, Nat.zero_le _, rfl, rfl, below1 _ _, by simpa using OwnY.emptyRow (heap_alloc_new w _) (Nat.le_refl _)⟩
  case round =>
    obtain ⟨k, c, a', hk, rfl, rfl, hB, hO⟩ := hrel
    have hzr := hB.size
    have HB := Lib.hid hB
    have HO := Lib.hid hO
    clear hO
    by_cases hlt : k < z.length
    · rcases (HT.out.below hB (Nat.le_refl _)) with h | ⟨b', o', rfl, _, hb', hI'⟩
      · rw [h] at hlt; simp at hlt
      have c1 := hI' k hlt
      have hx' := HL.out z[k] (List.getElem_mem hlt)
      have HS := Lib.hid (HM.out k hlt)
      obtain ⟨x, hx⟩ : ∃ x, z[k] = x := ⟨_, rfl⟩
      rw [hx] at c1 hx' HS
      have e0 : (0 : Int) ≤ (k : Int) := by omega
      have e1 : (k : Int) < (z.length : Int) := by omega
      clear hx hI' hB
      rcases hx' with rfl | rfl | rfl | rfl | rfl | rfl <;>
      · go_wp2_with (at_builtin; refine wpList_append_bys rfl _ _ rfl w.heap.size (.slice a' k c) k ((z.map chrG).take k) [_] rfl (by simp; omega) (HO.out.alloc _) _ 1 1 rfl rfl (.inr ⟨_, 0, rfl, bys_one _ _⟩) (by omega) (by simp; omega) ?_)
        intro a4 c4 w4 hO4 hG4 _
        have HB4 := Lib.hid (HB.out.trans (((below1 _ _).mono (by exact hzr)).trans (own_grownY (by exact OwnY.alloc (by exact HO.out) _) hG4 (by simp; omega))))
        have HO4 := Lib.hid hO4
        clear hO4 hG4
        go_wp2
        go_roundw
        case rel => exact ⟨k + 1, c4, a4, by omega, by go_num, rfl, HB4.out, by rw [HS.out]; exact HO4.out⟩
        case measure => simp [intOf]; omega
    · obtain rfl : k = z.length := by omega
      have hO := HO.out
      rw [List.take_of_length_le (by simp)] at hO
      have hcv := conv_own hO
      clear hB hO
      go_wp2
      go_ret
      exact ⟨rfl, HB.out⟩
theorem sGroupText_2 (h : grpB d z = true) : Calls Try.prog 36 #[.int .i64 d, .slice a z.length cap] w fun e w' => e = .returned (.tuple #[.string (textG z), .int .i64 0]) ∧ Below w.heap.size w w' := by
  have H := Lib.hid (l09Is_c 0 w.heap.size d a cap z hl w hr)
  have HC := Lib.hid (l09Text_c a cap z hl w hr (grpB_true h).len (grpB_true h).letters)
  have HB := Lib.hid h
  clear hr h
  go_enter Try.func36, Try.ntmps36
  go_wp2_with (go_at_call 40; refine H.out.mono ?_; rw [HB.out]; rintro e w' ⟨rfl, rfl⟩)
  refine HC.out.mono ?_
  rintro e w1 ⟨rfl, hb1⟩
  go_wp2
  go_ret2
  exact ⟨rfl, hb1⟩
end
end Go.Proofs.Ytnhiceopgjfaaaa
