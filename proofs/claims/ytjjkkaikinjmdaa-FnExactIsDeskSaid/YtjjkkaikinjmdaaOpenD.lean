/-
  A desk of the laws' own package, handed in by value: opened to its two series and its path.
-/
import Derived.Test.YtjjkkaikinjmdaaOpenP
namespace Go.Proofs.Ytjjkkaikinjmdaa
open Go.ChangeShapes Go.WideShapes Go.ChangeAt Go.RowKit

section
variable {H : Type} {enc : TypeId × Value → H} {w : World} {base : Nat} {held : Bool}
theorem lawsDesk_cells : Try.prog.cellsOf 43 = 7 := by kernel_rfl
theorem lawsTerms_cells : Try.prog.cellsOf 22 = 1 := by kernel_rfl
theorem path_cells : Try.prog.cellsOf 33 = 1 := by kernel_rfl
set_option maxRecDepth 100000 in
theorem open_path_cells {fuel : Nat} {cs : List Value} {x : DataW H × List MemPlace} (h : DataW.trod enc Try.prog w base (fun _ => true) held fuel 33 cs = some x) :
    ∃ (a : Option Addr) (cap : Nat) (ps : List (List Int)), cs = [.slice a ps.length cap] ∧ ps.length ≤ maxLen ∧ (∀ i (hi : i < ps.length), (ps[i]).length ≤ maxLen) ∧ PRow 0 w.heap.size w a ps := by
  rcases Deep.open_int_rows Try.underlying33 Try.underlying48 Try.underlying2 row_cells int64_cells1 h with ⟨e, _⟩ | ⟨a, len, cap, A, L, C, Z, e, hb, hl, hm, _, hr⟩
  · subst e
    exact ⟨none, 0, [], rfl, by simp, fun i hi => absurd hi (Nat.not_lt_zero _), .inl rfl⟩
  · subst e
    refine ⟨some a, cap, (List.range len).map fun r => (Z r).take (L r), by simp, by simp; omega, fun i hi => ?_, ?_⟩
    · have hi' : i < len := by simpa using hi
      obtain ⟨_, h1, h2, h3, _⟩ := hr i (by omega)
      simp only [List.getElem_map, List.getElem_range, List.length_take]
      omega
    · by_cases h0 : len = 0
      · subst h0; exact .inl (by simp)
      · obtain ⟨hsp, hab⟩ := addr_of (hr 0 (by omega)).1
        have hbase : (a.add 0) = a := by simp [Addr.add]
        rw [hbase] at hsp hab
        obtain ⟨b, off, sp⟩ := a
        simp only at hsp hab
        subst hsp
        refine .inr ⟨b, off, rfl, Nat.zero_le _, hab, fun i hi => ?_⟩
        have hi' : i < len := by simpa using hi
        obtain ⟨hc, h1, h2, h3, _, h4, h5⟩ := hr i (by omega)
        have hlen : ((Z i).take (L i)).length = L i := by rw [List.length_take]; omega
        refine ⟨A i, C i, ?_, ?_⟩
        · simp only [List.getElem_map, List.getElem_range, hlen]
          rw [add_form] at hc
          exact hc
        · simp only [List.getElem_map, List.getElem_range]
          by_cases hz : L i = 0
          · exact .inl (by rw [hz, List.take_zero])
          · have hAn : A i ≠ none := fun e => by have := h4 e; omega
            obtain ⟨a', ha'⟩ := Option.ne_none_iff_exists'.1 hAn
            obtain ⟨_, hcc⟩ := h5 a' ha'
            obtain ⟨hsp', hab'⟩ := addr_of (hcc 0 (by omega))
            have hbase' : (a'.add 0) = a' := by simp [Addr.add]
            rw [hbase'] at hsp' hab'
            obtain ⟨b', off', sp'⟩ := a'
            simp only at hsp' hab'
            subst hsp'
            refine .inr ⟨b', off', ha', Nat.zero_le _, hab', fun j hj => ?_⟩
            rw [hlen] at hj
            have hq := hcc j (by omega)
            rw [add_form] at hq
            rw [hq, List.getElem_take, List.getD_eq_getElem?_getD, List.getElem?_eq_getElem (by omega)]
            rfl

set_option maxRecDepth 100000 in
theorem open_series_cells {fuel : Nat} {cs : List Value} {x : DataW H × List MemPlace} (h : DataW.trod enc Try.prog w base (fun _ => true) held fuel 41 cs = some x) :
    ∃ (L V : Int) (a : Option Addr) (cap : Nat) (ts : List Tm), cs = [.int .i64 L, .int .i64 V, .slice a ts.length cap] ∧ ts.length ≤ maxLen ∧ (∀ i (hi : i < ts.length), (ts[i]).s.size ≤ maxLen) ∧ Row w a ts := by
  obtain ⟨y0, y1, y2, m0, _, hlc0, h0, h1, h2⟩ := Deep.trod_struct3 Try.underlying41 h
  rw [lawsSeries_cells] at hlc0
  match cs, hlc0 with
  | [v0, v1, v2], _ =>
    simp only [int64_cells, lawsTerms_cells, List.drop_zero, List.drop_succ_cons, List.take_succ_cons, List.take_zero] at h0 h1 h2
    obtain ⟨L, e0, _, _⟩ := DataW.trod_int Try.underlying2 h0
    obtain ⟨V, e1, _, _⟩ := DataW.trod_int Try.underlying2 h1
    simp at e0 e1
    subst e0 e1
    rcases Deep.open_slice Try.underlying22 h2 with ⟨e2, _⟩ | ⟨a, len, cap, m, n2, D, Pl, e2, _, hlc, hcap, hm, hx, hel⟩
    · simp at e2
      subst e2
      exact ⟨L, V, none, 0, [], rfl, by simp, fun i hi => absurd hi (Nat.not_lt_zero _), .inl rfl⟩
    · simp at e2
      subst e2
      have hlm : len ≤ m := by rw [hm]; split <;> omega
      rw [lawsTerm_cells] at hel hx
      obtain ⟨ts, htl, hts⟩ := list_of (m := len) (p := fun i t => w.cell? (a.add (i * 3)) = some (.string t.s) ∧ w.cell? (a.add (i * 3 + 1)) = some (.int .i64 t.n) ∧ w.cell? (a.add (i * 3 + 2)) = some (.int .i64 t.d) ∧ t.s.size ≤ maxLen) (fun i hi => by
        obtain ⟨cs', hc, ht⟩ := hel i (by omega)
        obtain ⟨s, n, d, rfl, hs⟩ := open_term ht
        obtain ⟨_, _, hat⟩ := World.cells?_some hc
        refine ⟨⟨s, n, d⟩, ?_, ?_, ?_, hs⟩
        · exact hat 0 (by omega)
        · rw [← Go.Deep.add_add]; exact hat 1 (by omega)
        · rw [← Go.Deep.add_add]; exact hat 2 (by omega))
      refine ⟨L, V, some a, cap, ts, by rw [htl], by omega, fun i hi => (hts i hi).2.2.2, ?_⟩
      by_cases h0 : ts = []
      · exact .inl h0
      · have hpos : 0 < ts.length := List.length_pos_iff.2 h0
        obtain ⟨hsp, hab⟩ := addr_of (hts 0 hpos).1
        have hbase : (a.add (0 * 3)) = a := by simp [Addr.add]
        rw [hbase] at hsp hab
        obtain ⟨b, off, sp⟩ := a
        simp only at hsp hab
        subst hsp
        refine .inr ⟨b, off, rfl, hab, fun i hi => ?_⟩
        have hi2 := hts i hi
        simp only [add_form] at hi2
        exact ⟨hi2.1, hi2.2.1, hi2.2.2.1⟩

set_option maxRecDepth 100000 in
theorem open_desk {r : Reach} {b0 : Nat} {v : Value} {d : DataW H} {p : List MemPlace} (hv : Value.okWide Try.prog w r b0 43 v) (h : DataW.Trod enc Try.prog w base (fun _ => true) held 43 v d p) :
    ∃ (L1 V1 : Int) (a1 : Option Addr) (c1 : Nat) (ts : List Tm) (L2 V2 : Int) (a2 : Option Addr) (c2 : Nat) (us : List Tm) (a3 : Option Addr) (c3 : Nat) (ps : List (List Int)),
      v = .agg #[.int .i64 L1, .int .i64 V1, .slice a1 ts.length c1, .int .i64 L2, .int .i64 V2, .slice a2 us.length c2, .slice a3 ps.length c3] ∧
      (ts.length ≤ maxLen ∧ (∀ i (hi : i < ts.length), (ts[i]).s.size ≤ maxLen) ∧ Row w a1 ts) ∧ (us.length ≤ maxLen ∧ (∀ i (hi : i < us.length), (us[i]).s.size ≤ maxLen) ∧ Row w a2 us) ∧
      (ps.length ≤ maxLen ∧ (∀ i (hi : i < ps.length), (ps[i]).length ≤ maxLen) ∧ PRow 0 w.heap.size w a3 ps) := by
  obtain ⟨cs, rfl, hsz⟩ := okWide_struct Try.underlying43 hv
  rw [lawsDesk_cells] at hsz
  obtain ⟨l⟩ := cs
  match l, hsz with
  | [k0, k1, k2, k3, k4, k5, k6], _ =>
    obtain ⟨fuel, hf⟩ := h
    obtain ⟨y0, y1, y2, n, _, _, h0, h1, h2⟩ := Deep.trod_struct3 Try.underlying43 hf
    simp only [Value.cells, lawsSeries_cells, path_cells, List.drop_zero, List.drop_succ_cons, List.take_succ_cons, List.take_zero] at h0 h1 h2
    obtain ⟨L1, V1, a1, c1, ts, e1, q1⟩ := open_series_cells h0
    obtain ⟨L2, V2, a2, c2, us, e2, q2⟩ := open_series_cells h1
    obtain ⟨a3, c3, ps, e3, q3⟩ := open_path_cells h2
    injection e1 with e10 e1
    injection e1 with e11 e1
    injection e1 with e12 _
    injection e2 with e20 e2
    injection e2 with e21 e2
    injection e2 with e22 _
    injection e3 with e30 _
    subst e10 e11 e12 e20 e21 e22 e30
    exact ⟨L1, V1, a1, c1, ts, L2, V2, a2, c2, us, a3, c3, ps, rfl, q1, q2, q3⟩
end
end Go.Proofs.Ytjjkkaikinjmdaa
