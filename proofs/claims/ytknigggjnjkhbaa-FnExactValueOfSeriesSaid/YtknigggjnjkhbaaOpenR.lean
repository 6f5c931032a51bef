/-
  A series of the laws' own package, handed in by value: opened to its letters, its level and its row of terms; and the row's last step over such arguments.
  A slice of int64, handed in: opened to its numbers.
  A list of the laws' own terms, handed in by itself: opened to its terms.
-/
import Derived.Test.YtknigggjnjkhbaaRes
import Derived.Test.YtknigggjnjkhbaaPaths
import Derived.Deep.Slices
import Derived.Carry
import Derived.Deep.Matrix
namespace Go.Proofs.Ytknigggjnjkhbaa
open Go.ChangeShapes Go.WideShapes Go.ChangeAt Go.RowKit

theorem list_of {m : Nat} {p : Nat → Tm → Prop} (h : ∀ i, i < m → ∃ t, p i t) : ∃ ts : List Tm, ts.length = m ∧ ∀ i (hi : i < ts.length), p i ts[i] := by
  induction m with
  | zero => exact ⟨[], rfl, fun i hi => absurd hi (Nat.not_lt_zero _)⟩
  | succ m ih =>
    obtain ⟨ts, hl, ht⟩ := ih fun i hi => h i (by omega)
    obtain ⟨t, hm⟩ := h m (by omega)
    refine ⟨ts ++ [t], by simp [hl], fun i hi => ?_⟩
    by_cases hlt : i < ts.length
    · rw [List.getElem_append_left hlt]; exact ht i hlt
    · have hi' : i = ts.length := by rw [List.length_append] at hi; simp at hi; omega
      subst hi'
      rw [List.getElem_append_right (Nat.le_refl _)]
      simp only [Nat.sub_self, List.getElem_singleton]
      rw [hl]; exact hm

theorem lawsTerm_cells : Try.prog.cellsOf 77 = 3 := by kernel_rfl
theorem lawsSeries_cells : Try.prog.cellsOf 24 = 3 := by kernel_rfl
theorem string_cells : Try.prog.cellsOf 9 = 1 := by kernel_rfl
theorem int64_cells : Try.prog.cellsOf 2 = 1 := by kernel_rfl
theorem seatLaid : laidOutB Try.prog = true := by kernel_rfl

theorem addr_of {w : World} {a : Addr} {v : Value} (h : w.cell? a = some v) : a.spot = none ∧ a.block < w.heap.size := by
  unfold World.cell? at h
  split at h
  · rename_i c e f hb
    refine ⟨?_, (Array.getElem?_eq_some_iff.1 hb).1⟩
    cases hs : a.spot with
    | none => rfl
    | some x => rw [hs] at h; simp at h
  · cases h
theorem add_form {b off k : Nat} : (⟨b, off, none⟩ : Addr).add k = ⟨b, off + k, none⟩ := by
  unfold Addr.add
  split
  · rename_i h; subst h; rfl
  · rfl

section
variable {H : Type} {enc : TypeId × Value → H} {w : World} {base : Nat} {spare : Nat → Bool} {held : Bool}
set_option maxRecDepth 100000 in
theorem open_term {fuel : Nat} {cs : List Value} {x : DataW H × List MemPlace} (h : DataW.trod enc Try.prog w base spare held fuel 77 cs = some x) :
    ∃ (s : ByteArray) (n d : Int), cs = [.string s, .int .i64 n, .int .i64 d] ∧ s.size ≤ maxLen := by
  obtain ⟨y0, y1, m, _, hl, h0, h1⟩ := trod_struct2 Try.underlying77 h
  rw [lawsTerm_cells] at hl
  match cs, hl with
  | [c0, c1, c2], _ =>
    simp only [string_cells, lawsFraction_cells, List.drop_zero, List.drop_succ_cons, List.take_succ_cons, List.take_zero] at h0 h1
    obtain ⟨s, e0, _, hs⟩ := DataW.trod_string Try.underlying9 h0
    obtain ⟨z0, z1, m2, _, _, g0, g1⟩ := trod_struct2 Try.underlying75 h1
    simp only [int64_cells, List.drop_zero, List.drop_succ_cons, List.take_succ_cons, List.take_zero] at g0 g1
    obtain ⟨n, e1, _, _⟩ := DataW.trod_int Try.underlying2 g0
    obtain ⟨d, e2, _, _⟩ := DataW.trod_int Try.underlying2 g1
    simp at e0 e1 e2
    exact ⟨s, n, d, by rw [e0, e1, e2], hs⟩

set_option maxRecDepth 100000 in
theorem open_series {r : Reach} {b0 : Nat} {v : Value} {d : DataW H} {p : List MemPlace}
    (hv : Value.okWide Try.prog w r b0 24 v) (h : DataW.Trod enc Try.prog w base spare held 24 v d p) :
    ∃ (L V : Int) (a : Option Addr) (cap : Nat) (ts : List Tm), v = .agg #[.int .i64 L, .int .i64 V, .slice a ts.length cap] ∧ ts.length ≤ maxLen ∧ (∀ i (hi : i < ts.length), (ts[i]).s.size ≤ maxLen) ∧ Row w a ts := by
  obtain ⟨v0, v1, v2, y0, y1, y2, n, rfl, _, hp, h0, h1, h2⟩ := Joins.open_agg3 Try.underlying24 (by kernel_rfl) lawsSeries_cells hv h
  obtain ⟨L, e0, _, _⟩ := DataW.trod_int Try.underlying2 h0
  obtain ⟨V, e1, _, _⟩ := DataW.trod_int Try.underlying2 h1
  simp at e0 e1
  subst e0 e1
  rcases Deep.open_slice Try.underlying22 h2 with ⟨e2, _⟩ | ⟨a, len, cap, m, n2, D, Pl, e2, _, hlc, hcap, hm, hx, hel⟩
  · simp at e2
    subst e2
    exact ⟨L, V, none, 0, [], rfl, by simp, fun i hi => absurd hi (Nat.not_lt_zero _), .inl rfl⟩
  · simp at e2
    subst e2
    have hlm : len ≤ m := by rw [hm]; split <;> omega
    rw [lawsTerm_cells] at hel hx
    obtain ⟨ts, htl, hts⟩ := list_of (m := len) (p := fun i t => w.cell? (a.add (i * 3)) = some (.string t.s) ∧ w.cell? (a.add (i * 3 + 1)) = some (.int .i64 t.n) ∧ w.cell? (a.add (i * 3 + 2)) = some (.int .i64 t.d) ∧ t.s.size ≤ maxLen) (fun i hi => by
      obtain ⟨cs', hc, ht⟩ := hel i (by omega)
      obtain ⟨s, n, d, rfl, hs⟩ := open_term ht
      obtain ⟨_, _, hat⟩ := World.cells?_some hc
      refine ⟨⟨s, n, d⟩, ?_, ?_, ?_, hs⟩
      · exact hat 0 (by omega)
      · rw [← Go.Deep.add_add]; exact hat 1 (by omega)
      · rw [← Go.Deep.add_add]; exact hat 2 (by omega))
    refine ⟨L, V, some a, cap, ts, by rw [htl], by omega, fun i hi => (hts i hi).2.2.2, ?_⟩
    by_cases h0 : ts = []
    · exact .inl h0
    · have hpos : 0 < ts.length := List.length_pos_iff.2 h0
      obtain ⟨hsp, hab⟩ := addr_of (hts 0 hpos).1
      have hbase : (a.add (0 * 3)) = a := by simp [Addr.add]
      rw [hbase] at hsp hab
      obtain ⟨b, off, sp⟩ := a
      simp only at hsp hab
      subst hsp
      refine .inr ⟨b, off, rfl, hab, fun i hi => ?_⟩
      have hi2 := hts i hi
      simp only [add_form] at hi2
      exact ⟨hi2.1, hi2.2.1, hi2.2.2.1⟩
end

section
variable {H : Type} {enc : TypeId × Value → H} {P : Program}
/-- The last step of a row that does not say 'again': the arguments read as before as far as 'Below' shows it. -/
theorem shut_reads {f : Func} {s : ChangeSpec} {fresh handsOn : Bool} {W W' : World} {args : Array Value} {v : Value} {ds : List (DataW H)} {pa : List MemPlace}
    (hW : DataW.Whole enc P f.params.toList s.vars false W args.toList ds [] pa)
    (hres : ∀ (b : Nat) (sp : Nat → Bool) (hd : Bool), DataW.TrodAll enc P W' b sp hd f.resultTypes.toList (v.resultList f.resultTypes.size) (s.fn H (ds ++ [])).results [])
    (hargs : DataW.TrodAll enc P W' 0 (fun b => decide (b < W.heap.size)) true f.params.toList args.toList (s.fn H (ds ++ [])).args pa)
    (hvars : ∀ sp : Nat → Bool, DataW.TrodVars enc P W' sp s.vars (s.fn H (ds ++ [])).vars [])
    (hb : Below W.heap.size W W') :
    s.post enc P f false fresh handsOn false W args v W' :=
  ⟨ds, [], pa, [], pa, [], hW, hres _ _ _, hargs, hvars _, World.keptBut_mono (fun p hp => ⟨hp, Or.inr (by simpa using hp)⟩) (hb.frame (· ∈ pa)), fun h => by cases h⟩
end
end Go.Proofs.Ytknigggjnjkhbaa

namespace Go.Proofs.Ytknigggjnjkhbaa
open Go.ChangeShapes Go.WideShapes Go.ChangeAt Go.RowKit

section
variable {H : Type} {enc : TypeId × Value → H} {w : World} {base : Nat} {held : Bool}
theorem int64_cells2 : Try.prog.cellsOf 2 = 1 := by kernel_rfl
set_option maxRecDepth 100000 in
theorem open_row {r0 : Reach} {b0 : Nat} {v : Value} {d : DataW H} {p : List MemPlace} (hv : Value.okWide Try.prog w r0 b0 79 v) (h : DataW.Trod enc Try.prog w base (fun _ => true) held 79 v d p) :
    ∃ (a : Option Addr) (cap : Nat) (zs : List Int), v = .slice a zs.length cap ∧ zs.length ≤ maxLen ∧ IRow 0 w.heap.size w a zs := by
  obtain ⟨a0, len1, cap1, rfl⟩ := okWide_slice Try.underlying79 hv
  obtain ⟨fuel, h⟩ := h
  rcases open_ints Try.underlying79 Try.underlying2 int64_cells2 h with ⟨e, _⟩ | ⟨a', len', cap', zs, e, hb', hl', hm', hz, _, hcell, hwz⟩
  · simp [Value.cells] at e
    obtain ⟨rfl, rfl, rfl⟩ := e
    exact ⟨none, 0, [], rfl, by simp, .inl rfl⟩
  · simp [Value.cells] at e
    obtain ⟨rfl, rfl, rfl⟩ := e
    simp only [if_true] at hz
    have hlen : (zs.take len1).length = len1 := by rw [List.length_take]; omega
    refine ⟨some a', cap1, zs.take len1, by rw [hlen], by rw [hlen]; omega, ?_⟩
    by_cases h0 : len1 = 0
    · exact .inl (by rw [h0, List.take_zero])
    · obtain ⟨hsp', hab'⟩ := addr_of (hcell 0 (by omega))
      have hbase' : (a'.add 0) = a' := by simp [Addr.add]
      rw [hbase'] at hsp' hab'
      obtain ⟨b', off', sp'⟩ := a'
      simp only at hsp' hab'
      subst hsp'
      refine .inr ⟨b', off', rfl, Nat.zero_le _, hab', fun j hj => ?_⟩
      rw [hlen] at hj
      have hq := hcell j (by omega)
      rw [add_form] at hq
      rw [hq, List.getElem_take, List.getD_eq_getElem?_getD, List.getElem?_eq_getElem (by omega)]
      rfl
end
end Go.Proofs.Ytknigggjnjkhbaa

namespace Go.Proofs.Ytknigggjnjkhbaa
open Go.ChangeShapes Go.WideShapes Go.ChangeAt Go.RowKit

section
variable {H : Type} {enc : TypeId × Value → H} {w : World} {base : Nat} {spare : Nat → Bool} {held : Bool}
set_option maxRecDepth 100000 in
theorem open_terms {r : Reach} {b0 : Nat} {v : Value} {d : DataW H} {p : List MemPlace}
    (hv : Value.okWide Try.prog w r b0 22 v) (h : DataW.Trod enc Try.prog w base spare held 22 v d p) :
    ∃ (a : Option Addr) (cap : Nat) (ts : List Tm), v = .slice a ts.length cap ∧ ts.length ≤ maxLen ∧ (∀ i (hi : i < ts.length), (ts[i]).s.size ≤ maxLen) ∧ Row w a ts := by
  obtain ⟨a0, len1, cap1, rfl⟩ := okWide_slice Try.underlying22 hv
  obtain ⟨fuel, h⟩ := h
  rcases Deep.open_slice Try.underlying22 h with ⟨e2, _⟩ | ⟨a, len, cap, m, n2, D, Pl, e2, _, hlc, hcap, hm, hx, hel⟩
  · simp [Value.cells] at e2
    obtain ⟨rfl, rfl, rfl⟩ := e2
    exact ⟨none, 0, [], rfl, by simp, fun i hi => absurd hi (Nat.not_lt_zero _), .inl rfl⟩
  · simp [Value.cells] at e2
    obtain ⟨rfl, rfl, rfl⟩ := e2
    have hlm : len1 ≤ m := by rw [hm]; split <;> omega
    rw [lawsTerm_cells] at hel hx
    obtain ⟨ts, htl, hts⟩ := list_of (m := len1) (p := fun i t => w.cell? (a.add (i * 3)) = some (.string t.s) ∧ w.cell? (a.add (i * 3 + 1)) = some (.int .i64 t.n) ∧ w.cell? (a.add (i * 3 + 2)) = some (.int .i64 t.d) ∧ t.s.size ≤ maxLen) (fun i hi => by
      obtain ⟨cs', hc, ht⟩ := hel i (by omega)
      obtain ⟨s, n, d, rfl, hs⟩ := open_term ht
      obtain ⟨_, _, hat⟩ := World.cells?_some hc
      refine ⟨⟨s, n, d⟩, ?_, ?_, ?_, hs⟩
      · exact hat 0 (by omega)
      · rw [← Go.Deep.add_add]; exact hat 1 (by omega)
      · rw [← Go.Deep.add_add]; exact hat 2 (by omega))
    refine ⟨some a, cap1, ts, by rw [htl], by omega, fun i hi => (hts i hi).2.2.2, ?_⟩
    by_cases h0 : ts = []
    · exact .inl h0
    · have hpos : 0 < ts.length := List.length_pos_iff.2 h0
      obtain ⟨hsp, hab⟩ := addr_of (hts 0 hpos).1
      have hbase : (a.add (0 * 3)) = a := by simp [Addr.add]
      rw [hbase] at hsp hab
      obtain ⟨b, off, sp⟩ := a
      simp only at hsp hab
      subst hsp
      refine .inr ⟨b, off, rfl, hab, fun i hi => ?_⟩
      have hi2 := hts i hi
      simp only [add_form] at hi2
      exact ⟨hi2.1, hi2.2.1, hi2.2.2.1⟩
end
end Go.Proofs.Ytknigggjnjkhbaa
