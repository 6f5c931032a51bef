/-
  A series of the laws' own package, handed in by value: opened to its letters, its level and its row of terms; and the row's last step over such arguments.
  A slice of int64, handed in: opened to its numbers.
  A list of the laws' own terms, handed in by itself: opened to its terms.
-/
import Derived.Test.YtolbgdgoambliaaRes
import Derived.Test.YtolbgdgoambliaaPaths
import Derived.Deep.Slices
import Derived.Carry
import Derived.Deep.Matrix
namespace Go.Proofs.Ytolbgdgoambliaa
open Go.ChangeShapes Go.WideShapes Go.ChangeAt Go.RowKit

theorem list_of {m : Nat} {p : Nat → Tm → Prop} (h : ∀ i, i < m → ∃ t, p i t) : ∃ ts : List Tm, ts.length = m ∧ ∀ i (hi : i < ts.length), p i ts[i] := by
  induction m with
  | zero => exact ⟨[], rfl, fun i hi => absurd hi (Nat.not_lt_zero _)⟩
  | succ m ih =>
    obtain ⟨ts, hl, ht⟩ := ih fun i hi => h i (by omega)
    obtain ⟨t, hm⟩ := h m (by omega)
    refine ⟨ts ++ [t], by simp [hl], fun i hi => ?_⟩
    by_cases hlt : i < ts.length
    · rw [List.getElem_append_left hlt]; exact ht i hlt
    · have hi' : i = ts.length := by rw [List.length_append] at hi; simp at hi; omega
      subst hi'
      rw [List.getElem_append_right (Nat.le_refl _)]
      simp only [Nat.sub_self, List.getElem_singleton]
      rw [hl]; exact hm

theorem string_cells : Try.prog.cellsOf 9 = 1 := by kernel_rfl
theorem int64_cells : Try.prog.cellsOf 2 = 1 := by kernel_rfl
theorem seatLaid : laidOutB Try.prog = true := by kernel_rfl

theorem addr_of {w : World} {a : Addr} {v : Value} (h : w.cell? a = some v) : a.spot = none ∧ a.block < w.heap.size := by
  unfold World.cell? at h
  split at h
  · rename_i c e f hb
    refine ⟨?_, (Array.getElem?_eq_some_iff.1 hb).1⟩
    cases hs : a.spot with
    | none => rfl
    | some x => rw [hs] at h; simp at h
  · cases h
theorem add_form {b off k : Nat} : (⟨b, off, none⟩ : Addr).add k = ⟨b, off + k, none⟩ := by
  unfold Addr.add
  split
  · rename_i h; subst h; rfl
  · rfl

section
variable {H : Type} {enc : TypeId × Value → H} {w : World} {base : Nat} {spare : Nat → Bool} {held : Bool}
end

section
variable {H : Type} {enc : TypeId × Value → H} {P : Program}
/-- The last step of a row that does not say 'again': the arguments read as before as far as 'Below' shows it. -/
theorem shut_reads {f : Func} {s : ChangeSpec} {fresh handsOn : Bool} {W W' : World} {args : Array Value} {v : Value} {ds : List (DataW H)} {pa : List MemPlace}
    (hW : DataW.Whole enc P f.params.toList s.vars false W args.toList ds [] pa)
    (hres : ∀ (b : Nat) (sp : Nat → Bool) (hd : Bool), DataW.TrodAll enc P W' b sp hd f.resultTypes.toList (v.resultList f.resultTypes.size) (s.fn H (ds ++ [])).results [])
    (hargs : DataW.TrodAll enc P W' 0 (fun b => decide (b < W.heap.size)) true f.params.toList args.toList (s.fn H (ds ++ [])).args pa)
    (hvars : ∀ sp : Nat → Bool, DataW.TrodVars enc P W' sp s.vars (s.fn H (ds ++ [])).vars [])
    (hb : Below W.heap.size W W') :
    s.post enc P f false fresh handsOn false W args v W' :=
  ⟨ds, [], pa, [], pa, [], hW, hres _ _ _, hargs, hvars _, World.keptBut_mono (fun p hp => ⟨hp, Or.inr (by simpa using hp)⟩) (hb.frame (· ∈ pa)), fun h => by cases h⟩
end
end Go.Proofs.Ytolbgdgoambliaa

namespace Go.Proofs.Ytolbgdgoambliaa
open Go.ChangeShapes Go.WideShapes Go.ChangeAt Go.RowKit

section
variable {H : Type} {enc : TypeId × Value → H} {w : World} {base : Nat} {held : Bool}
theorem int64_cells2 : Try.prog.cellsOf 2 = 1 := by kernel_rfl
set_option maxRecDepth 100000 in
theorem open_row {r0 : Reach} {b0 : Nat} {v : Value} {d : DataW H} {p : List MemPlace} (hv : Value.okWide Try.prog w r0 b0 72 v) (h : DataW.Trod enc Try.prog w base (fun _ => true) held 72 v d p) :
    ∃ (a : Option Addr) (cap : Nat) (zs : List Int), v = .slice a zs.length cap ∧ zs.length ≤ maxLen ∧ IRow 0 w.heap.size w a zs := by
  obtain ⟨a0, len1, cap1, rfl⟩ := okWide_slice Try.underlying72 hv
  obtain ⟨fuel, h⟩ := h
  rcases open_ints Try.underlying72 Try.underlying2 int64_cells2 h with ⟨e, _⟩ | ⟨a', len', cap', zs, e, hb', hl', hm', hz, _, hcell, hwz⟩
  · simp [Value.cells] at e
    obtain ⟨rfl, rfl, rfl⟩ := e
    exact ⟨none, 0, [], rfl, by simp, .inl rfl⟩
  · simp [Value.cells] at e
    obtain ⟨rfl, rfl, rfl⟩ := e
    simp only [if_true] at hz
    have hlen : (zs.take len1).length = len1 := by rw [List.length_take]; omega
    refine ⟨some a', cap1, zs.take len1, by rw [hlen], by rw [hlen]; omega, ?_⟩
    by_cases h0 : len1 = 0
    · exact .inl (by rw [h0, List.take_zero])
    · obtain ⟨hsp', hab'⟩ := addr_of (hcell 0 (by omega))
      have hbase' : (a'.add 0) = a' := by simp [Addr.add]
      rw [hbase'] at hsp' hab'
      obtain ⟨b', off', sp'⟩ := a'
      simp only at hsp' hab'
      subst hsp'
      refine .inr ⟨b', off', rfl, Nat.zero_le _, hab', fun j hj => ?_⟩
      rw [hlen] at hj
      have hq := hcell j (by omega)
      rw [add_form] at hq
      rw [hq, List.getElem_take, List.getD_eq_getElem?_getD, List.getElem?_eq_getElem (by omega)]
      rfl
end
end Go.Proofs.Ytolbgdgoambliaa

namespace Go.Proofs.Ytolbgdgoambliaa
open Go.ChangeShapes Go.WideShapes Go.ChangeAt Go.RowKit

section
variable {H : Type} {enc : TypeId × Value → H} {w : World} {base : Nat} {spare : Nat → Bool} {held : Bool}
end
end Go.Proofs.Ytolbgdgoambliaa
