/-
  Rows of rows of rows of numbers (tables, slices of slices of slices of int64) in memory: read, copied, compared, measured, marked.
-/
import Derived.Test.YtknigggjnjkhbaaAnyP
namespace Go.Proofs.Ytknigggjnjkhbaa
open Go.RowKit

abbrev Tabs := List (List (List Int))
/-- how many rows and numbers the tables have together -/
def sz3 : Tabs → Nat
  | [] => 0
  | z :: r => z.length + flat z + sz3 r
def flat3 : Tabs → Nat
  | [] => 0
  | z :: r => flat z + flat3 r
theorem sz3_append : ∀ (xs ys : Tabs), sz3 (xs ++ ys) = sz3 xs + sz3 ys
  | [], ys => by simp [sz3]
  | x :: r, ys => by simp [sz3, sz3_append r ys]; omega
theorem flat3_append : ∀ (xs ys : Tabs), flat3 (xs ++ ys) = flat3 xs + flat3 ys
  | [], ys => by simp [flat3]
  | x :: r, ys => by simp [flat3, flat3_append r ys]; omega
theorem sz3_take {ps : Tabs} {k : Nat} (h : k < ps.length) : sz3 (ps.take (k + 1)) = sz3 (ps.take k) + ((ps[k]).length + flat ps[k]) := by
  rw [List.take_succ_eq_append_getElem h, sz3_append]; simp [sz3]
theorem flat3_take {ps : Tabs} {k : Nat} (h : k < ps.length) : flat3 (ps.take (k + 1)) = flat3 (ps.take k) + flat ps[k] := by
  rw [List.take_succ_eq_append_getElem h, flat3_append]; simp [flat3]
theorem sz3_take_le (ps : Tabs) (k : Nat) : sz3 (ps.take k) ≤ sz3 ps := by
  have h := sz3_append (ps.take k) (ps.drop k)
  rw [List.take_append_drop] at h
  omega
theorem flat3_take_le (ps : Tabs) (k : Nat) : flat3 (ps.take k) ≤ flat3 ps := by
  have h := flat3_append (ps.take k) (ps.drop k)
  rw [List.take_append_drop] at h
  omega
theorem sz3_one {ps : Tabs} {k : Nat} (h : k < ps.length) : (ps[k]).length + flat ps[k] ≤ sz3 ps := by
  have h1 := sz3_take_le ps (k + 1)
  rw [sz3_take h] at h1
  omega
theorem flat3_get {ps : Tabs} {k : Nat} (h : k < ps.length) : flat3 (ps.take k) + flat ps[k] ≤ flat3 ps := by
  have h1 := flat3_take_le ps (k + 1)
  rw [flat3_take h] at h1
  exact h1
theorem flat3_sz3 : ∀ ps : Tabs, flat3 ps ≤ sz3 ps
  | [] => Nat.le_refl _
  | z :: r => by have := flat3_sz3 r; simp only [flat3, sz3]; omega

/-- tables in a row of cells of block `b` from `off` on -/
def TabIn (lo hi : Nat) (w : World) (b off : Nat) (ps : Tabs) : Prop := ∀ i (h : i < ps.length), ∃ a c, w.cell? ⟨b, off + i, none⟩ = some (.slice a (ps[i]).length c) ∧ PRow lo hi w a ps[i]
def TRow (lo hi : Nat) (w : World) (a : Option Addr) (ps : Tabs) : Prop := ps = [] ∨ ∃ b off, a = some ⟨b, off, none⟩ ∧ lo ≤ b ∧ b < hi ∧ TabIn lo hi w b off ps
theorem TRow.mono {lo hi lo' hi' : Nat} {w : World} {a : Option Addr} {ps : Tabs} (h : TRow lo hi w a ps) (h1 : lo' ≤ lo) (h2 : hi ≤ hi') : TRow lo' hi' w a ps := by
  rcases h with h | ⟨b, off, e, a1, a2, a3⟩
  · exact .inl h
  · exact .inr ⟨b, off, e, by omega, by omega, fun i hi => by obtain ⟨a, c, q, r⟩ := a3 i hi; exact ⟨a, c, q, r.mono h1 h2⟩⟩
theorem TRow.below {lo hi B : Nat} {w w' : World} {a : Option Addr} {ps : Tabs} (h : TRow lo hi w a ps) (hb : Below B w w') (hh : hi ≤ B) : TRow lo hi w' a ps := by
  rcases h with h | ⟨b, off, e, a1, a2, a3⟩
  · exact .inl h
  · exact .inr ⟨b, off, e, a1, a2, fun i hi => by obtain ⟨a, c, q, r⟩ := a3 i hi; exact ⟨a, c, (hb.cell (p := ⟨b, _, none⟩) (by show b < B; omega)).trans q, r.below hb hh⟩⟩
theorem TRow.outside {lo hi l h' : Nat} {w w' : World} {a : Option Addr} {ps : Tabs} (h : TRow lo hi w a ps) (hg : Outside l h' w w') (hs : hi ≤ w.heap.size) (ho : hi ≤ l ∨ h' ≤ lo) : TRow lo hi w' a ps := by
  rcases h with h | ⟨b, off, e, a1, a2, a3⟩
  · exact .inl h
  · exact .inr ⟨b, off, e, a1, a2, fun i hi => by obtain ⟨a, c, q, r⟩ := a3 i hi; exact ⟨a, c, (hg.cell (by omega) (by omega)).trans q, r.outside hg hs ho⟩⟩
theorem TRow.get {lo hi B : Nat} {w w' : World} {a : Option Addr} {ps : Tabs} (h : TRow lo hi w a ps) (hb : Below B w w') (hh : hi ≤ B) {k : Nat} (hk : k < ps.length) :
    ∃ b off a' c, a = some ⟨b, off, none⟩ ∧ w'.cell? ⟨b, off + k, none⟩ = some (.slice a' (ps[k]).length c) ∧ PRow lo hi w' a' ps[k] := by
  rcases (h.below hb hh) with h | ⟨b, off, e, a1, a2, a3⟩
  · rw [h] at hk; simp at hk
  · obtain ⟨a', c, q, r⟩ := a3 k hk
    exact ⟨b, off, a', c, e, q, r⟩

/-- new tables within bounds: each of them lies within bounds of its own, one behind the other, and may be written -/
def NewT (lo hi : Nat) (w : World) (a : Option Addr) (ps : Tabs) : Prop :=
  ps = [] ∨ ∃ (g : Nat) (G : Nat → Option Addr) (C L H : Nat → Nat), a = some ⟨g, 0, none⟩ ∧ lo ≤ g ∧ g < hi ∧ Made w g ps.length ∧
    (∀ i (h : i < ps.length), w.cell? ⟨g, i, none⟩ = some (.slice (G i) (ps[i]).length (C i)) ∧ AnyP (L i) (H i) w (G i) ps[i] ∧ lo ≤ L i ∧ L i ≤ H i ∧ H i ≤ hi ∧ (g < L i ∨ H i ≤ g)) ∧
    ∀ i j, i < j → j < ps.length → H i ≤ L j
theorem NewT.row {lo hi : Nat} {w : World} {a : Option Addr} {ps : Tabs} (h : NewT lo hi w a ps) : TRow lo hi w a ps := by
  rcases h with h | ⟨g, G, C, L, H, e, a1, a2, a3, a4, a5⟩
  · exact .inl h
  · exact .inr ⟨g, 0, e, a1, a2, fun i hi => ⟨G i, C i, by rw [Nat.zero_add]; exact (a4 i hi).1, (a4 i hi).2.1.row.mono (a4 i hi).2.2.1 (a4 i hi).2.2.2.2.1⟩⟩
theorem NewT.mono {lo hi lo' hi' : Nat} {w : World} {a : Option Addr} {ps : Tabs} (h : NewT lo hi w a ps) (h1 : lo' ≤ lo) (h2 : hi ≤ hi') : NewT lo' hi' w a ps := by
  rcases h with h | ⟨g, G, C, L, H, e, a1, a2, a3, a4, a5⟩
  · exact .inl h
  · exact .inr ⟨g, G, C, L, H, e, by omega, by omega, a3, fun i hi => ⟨(a4 i hi).1, (a4 i hi).2.1, by have := (a4 i hi).2.2.1; omega, (a4 i hi).2.2.2.1, by have := (a4 i hi).2.2.2.2.1; omega, (a4 i hi).2.2.2.2.2⟩, a5⟩
theorem NewT.below {lo hi B : Nat} {w w' : World} {a : Option Addr} {ps : Tabs} (h : NewT lo hi w a ps) (hb : Below B w w') (hh : hi ≤ B) : NewT lo hi w' a ps := by
  rcases h with h | ⟨g, G, C, L, H, e, a1, a2, a3, a4, a5⟩
  · exact .inl h
  · exact .inr ⟨g, G, C, L, H, e, a1, a2, a3.below hb (by omega), fun i hi => ⟨(hb.cell (p := ⟨g, _, none⟩) (by show g < B; omega)).trans (a4 i hi).1, (a4 i hi).2.1.below hb (by have := (a4 i hi).2.2.2.2.1; omega), (a4 i hi).2.2⟩, a5⟩
theorem NewT.outside {lo hi l h' : Nat} {w w' : World} {a : Option Addr} {ps : Tabs} (h : NewT lo hi w a ps) (hg : Outside l h' w w') (ho : hi ≤ l ∨ h' ≤ lo) : NewT lo hi w' a ps := by
  rcases h with h | ⟨g, G, C, L, H, e, a1, a2, a3, a4, a5⟩
  · exact .inl h
  · exact .inr ⟨g, G, C, L, H, e, a1, a2, hg.made a3 (by omega), fun i hi => ⟨(hg.cell a3.1 (by omega)).trans (a4 i hi).1, (a4 i hi).2.1.outside hg (by have := (a4 i hi).2.2; omega), (a4 i hi).2.2⟩, a5⟩

theorem info_tab : (Try.prog.info? 50).map (fun i => (i.zero, i.size, i.bytes)) = some (some (.slice none 0 0), 1, 24) := by kernel_rfl
theorem make_tabs (n : Nat) (hn : n ≤ 1048576) : ∃ O : Obj, (∀ W : World, (Instr.makeSlice 25 (.int .i64 (n : Int)) (.int .i64 (n : Int))).run Try.prog W = .ok (.slice (some ⟨W.heap.size, 0, none⟩) n n) (W.alloc O)) ∧ ∀ W : World, Made (W.alloc O) W.heap.size n := by
  obtain ⟨i, hi, hz, hs, hby⟩ := info_parts info_tab
  refine ⟨.cells (madeCells #[.slice none 0 0] n) 50, fun W => ?_, fun W => ⟨by simp, fun j hj => ?_⟩⟩
  · have h := run_make (P := Try.prog) W 25 50 i _ Try.underlying25 hi hz .i64 .i64 (n : Int) (n : Int) (by omega) (by omega) (by rw [hby]; omega) (by omega)
    simp only [Int.toNat_natCast, hs, Nat.mul_one] at h
    exact h
  · refine ⟨⟨_, (World.cell?_alloc_new _ _ _ _).trans (Array.getElem?_eq_getElem (by rw [size_madeCells]; exact hj))⟩, ?_⟩
    simp

/-- tables that are being filled: `k` of them stand -/
def PartT (g : Nat) (w : World) (m : Nat) (ps : Tabs) (k : Nat) : Prop :=
  ∃ (G : Nat → Option Addr) (C L H : Nat → Nat), Made w g m ∧
    (∀ i (h : i < ps.length), i < k → w.cell? ⟨g, i, none⟩ = some (.slice (G i) (ps[i]).length (C i)) ∧ AnyP (L i) (H i) w (G i) ps[i] ∧ g < L i ∧ L i ≤ H i ∧ H i ≤ w.heap.size) ∧
    ∀ i j, i < j → j < k → H i ≤ L j
theorem PartT.zero {g : Nat} {w : World} {m : Nat} {ps : Tabs} (hM : Made w g m) : PartT g w m ps 0 :=
  ⟨fun _ => none, fun _ => 0, fun _ => 0, fun _ => 0, hM, fun _ _ hi => absurd hi (Nat.not_lt_zero _), fun _ _ _ hi => absurd hi (Nat.not_lt_zero _)⟩
theorem PartT.done {g : Nat} {w : World} {ps : Tabs} (h : PartT g w ps.length ps ps.length) : NewT g w.heap.size w (some ⟨g, 0, none⟩) ps := by
  obtain ⟨G, C, L, H, hM, hc, hd⟩ := h
  exact .inr ⟨g, G, C, L, H, rfl, Nat.le_refl _, hM.1, hM, fun i hi => by obtain ⟨q1, q2, q3, q4, q5⟩ := hc i hi hi; exact ⟨q1, q2, by omega, q4, q5, .inl q3⟩, hd⟩
theorem Outside.set1 (w : World) (g i : Nat) (u : Value) : Outside g (g + 1) w (w.setCell ⟨g, i, none⟩ u) :=
  ⟨rfl, rfl, rfl, by simp, fun k _ ho => Below.heap_setCell w ⟨g, i, none⟩ u k (by show k ≠ g; omega)⟩
theorem PartT.snoc {g : Nat} {w w' : World} {m : Nat} {ps : Tabs} {k : Nat} (h : PartT g w m ps k) (hk : k < ps.length) (hm : m = ps.length) (hb : Below w.heap.size w w') {a : Option Addr} {c : Nat} (hN : AnyP w.heap.size w'.heap.size w' a ps[k]) :
    PartT g (w'.setCell ⟨g, k, none⟩ (.slice a (ps[k]).length c)) m ps (k + 1) := by
  obtain ⟨G, C, L, H, hM, hc, hd⟩ := h
  have hMb := hM.below hb hM.1
  have hgw := hM.1
  have hO := Outside.set1 w' g k (.slice a (ps[k]).length c)
  refine ⟨fun i => if i = k then a else G i, fun i => if i = k then c else C i, fun i => if i = k then w.heap.size else L i, fun i => if i = k then w'.heap.size else H i, hMb.set _ _, fun i hi hik => ?_, fun i j hij hjk => ?_⟩
  · by_cases e : i = k
    · subst e
      simp only [if_pos]
      obtain ⟨⟨v0, m0⟩, -⟩ := hMb.2 i (by omega)
      exact ⟨World.cell?_setCell_same _ _ _ m0, hN.outside hO (.inr (by omega)), hgw, hb.size, by simp⟩
    · simp only [if_neg e]
      obtain ⟨q1, q2, q3, q4, q5⟩ := hc i hi (by omega)
      have hbs := hb.size
      refine ⟨?_, (q2.below hb q5).outside hO (.inr (by omega)), q3, q4, by simp; omega⟩
      rw [World.cell?_setCell_other _ _ _ _ (fun e2 => by injection e2 with _ e3; omega), hb.cell (p := ⟨g, i, none⟩) (by show g < _; omega)]
      exact q1
  · by_cases ej : j = k
    · have ei : ¬ i = k := by omega
      simp only [if_neg ei, if_pos ej]
      exact (hc i (by omega) (by omega)).2.2.2.2
    · have ei : ¬ i = k := by omega
      simp only [if_neg ei, if_neg ej]
      exact hd i j hij (by omega)

/-- what copying tables comes to -/
def ToTPost (ps : Tabs) (W : World) (e : Ending) (w' : World) : Prop :=
  ∃ a, e = .returned (.slice a ps.length ps.length) ∧ Below W.heap.size W w' ∧ NewT W.heap.size w'.heap.size w' a ps
theorem toInt64SSS_c (lo hi : Nat) (a : Option Addr) (cap : Nat) (ps : Tabs) (hl : ps.length ≤ 1048576) (hs : sz3 ps ≤ 1048576) (w : World) (hr : TRow lo hi w a ps) (hh : hi ≤ w.heap.size) :
    Calls Try.prog 9 #[.slice a ps.length cap] w (ToTPost ps w) := by
  obtain ⟨O, hmk, hmade⟩ := make_tabs ps.length hl
  have HM := Lib.hid hmade
  have HT := Lib.hid hr
  clear hmade hr
  have e0 : (0 : Int) ≤ (ps.length : Int) := by omega
  go_enter Try.func9, Try.ntmps9
  go_wp2
  clear hmk
  go_loopw [4] (fun vi wr => ∃ k : Nat, k ≤ ps.length ∧ vi = .int .i64 k ∧ Below w.heap.size w wr ∧ PartT w.heap.size wr ps.length ps k) (fun i _ => ps.length - (intOf i).toNat)
  case atStart => exact ⟨0, Nat.zero_le _, rfl, (Below.refl _ _).alloc (Nat.le_refl _) _, PartT.zero (HM.out _)⟩
  case round =>
    obtain ⟨k, hk, rfl, hB, hP⟩ := hrel
    have HP := Lib.hid hP
    clear hP
    by_cases hlt : k < ps.length
    · obtain ⟨b, off, a', c, rfl, c0, hI⟩ := HT.out.get hB hh hlt
      have hzl : (ps[k]).length ≤ 1048576 := by have := sz3_one hlt; omega
      have hzf : flat ps[k] ≤ 1048576 := by have := sz3_one hlt; omega
      have HI := Lib.hid hI
      have HSz := Lib.hid hB.size
      obtain ⟨z, hez⟩ : ∃ z, ps[k] = z := ⟨_, rfl⟩
      have HE := Lib.hid hez
      rw [hez] at c0 hzl hzf HI
      have HB := Lib.hid hB
      clear hez hB hI
      go_wp2_with fail
      refine (toInt64SS_c lo hi a' c z hzl hzf _ HI.out (by have := HSz.out; omega)).mono ?_
      rintro e w1 ⟨g', rfl, hb1, hN1⟩
      obtain ⟨_, _, _, _, hMk, _, _⟩ := HP.out
      obtain ⟨⟨v0, m0⟩, z0⟩ := (hMk.below hb1 hMk.1).2 k hlt
      have HB1 := Lib.hid (HB.out.trans (hb1.mono HSz.out))
      have HP1 := Lib.hid (PartT.snoc (c := z.length) HP.out hlt rfl hb1 (by rw [HE.out]; exact .inl hN1))
      rw [HE.out] at HP1
      clear hb1 hN1 hMk c0
      go_wp2
      go_roundw
      case rel => exact ⟨k + 1, by omega, by go_num, HB1.out.setCell (p := ⟨w.heap.size, k, none⟩) (Nat.le_refl _) _, HP1.out⟩
      case measure => simp [intOf]; omega
    · obtain rfl : k = ps.length := by omega
      go_wp2
      go_ret
      exact ⟨_, rfl, hB, HP.out.done⟩

theorem eqInt64SSS_row (lo1 hi1 lo2 hi2 : Nat) (a1 a2 : Option Addr) (c1 c2 : Nat) (ps : List (List (List Int))) (hl : ps.length ≤ 1048576) (hs : sz3 ps ≤ 1048576) (w : World) (h1 : TRow lo1 hi1 w a1 ps) (h2 : TRow lo2 hi2 w a2 ps) (hh1 : hi1 ≤ w.heap.size) (hh2 : hi2 ≤ w.heap.size) :
    Calls Try.prog 13 #[.slice a1 ps.length c1, .slice a2 ps.length c2] w fun e w' => e = .returned (.bool true) ∧ Below w.heap.size w w' := by
  have H1 := Lib.hid h1
  have H2 := Lib.hid h2
  clear h1 h2
  go_enter Try.func13, Try.ntmps13
  go_wp2
  go_loopw [5] (fun vi wr => ∃ k : Nat, k ≤ ps.length ∧ vi = .int .i64 k ∧ Below w.heap.size w wr) (fun i _ => ps.length - (intOf i).toNat)
  case atStart => exact ⟨0, Nat.zero_le _, rfl, Below.refl _ _⟩
  case round =>
    obtain ⟨k, hk, rfl, hB⟩ := hrel
    by_cases hlt : k < ps.length
    · obtain ⟨b1, o1, x1, y1, rfl, d1, I1⟩ := H1.out.get hB hh1 hlt
      obtain ⟨b2, o2, x2, y2, rfl, d2, I2⟩ := H2.out.get hB hh2 hlt
      have hzl : (ps[k]).length ≤ 1048576 := by have := sz3_one hlt; omega
      have hzf : flat ps[k] ≤ 1048576 := by have := sz3_one hlt; omega
      have HI1 := Lib.hid I1
      have HI2 := Lib.hid I2
      have HSz := Lib.hid hB.size
      obtain ⟨z, hez⟩ : ∃ z, ps[k] = z := ⟨_, rfl⟩
      rw [hez] at d1 d2 hzl hzf HI1 HI2
      have hHB := Lib.hid hB
      clear hez hB I1 I2
      go_upto_region 6 with fail
      go_cut [26] (fun s26 wc => s26 = .bool false ∧ Below wr.heap.size wr wc)
      case first =>
        go_region_with (go_at_call 36; refine (eqInt64SS_row lo1 hi1 lo2 hi2 x1 x2 y1 y2 z hzl hzf wr.drew HI1.out HI2.out (show hi1 ≤ wr.heap.size by have := HSz.out; omega) (show hi2 ≤ wr.heap.size by have := HSz.out; omega)).mono ?_; rintro e w1 ⟨rfl, hb1⟩)
        all_goals (go_wp2_with fail; go_meet)
        all_goals exact ⟨rfl, ⟨hb1.os, hb1.tape, hb1.output, hb1.size, hb1.block⟩⟩
      case rest =>
        obtain ⟨rfl, hBc⟩ := hcut
        have hB1 := hHB.out.trans (hBc.mono hHB.out.size)
        clear d1 d2 hBc
        go_wp2
        go_roundw
        case rel => exact ⟨k + 1, by omega, by go_num, hB1⟩
        case measure => simp [intOf]; omega
    · go_wp2
      go_ret
      exact ⟨rfl, hB⟩

/-- the tables that marking leaves, from `k` on -/
def markedT (k : Int) : Tabs → Tabs
  | [] => []
  | z :: r => markedP k z :: markedT (k + flat z) r
theorem markedT_length : ∀ (k : Int) (ps : Tabs), (markedT k ps).length = ps.length
  | _, [] => rfl
  | k, _ :: r => by simp [markedT, markedT_length _ r]
theorem markedT_get : ∀ (k : Int) (ps : Tabs) (i : Nat) (h : i < (markedT k ps).length), (markedT k ps)[i] = markedP (k + flat3 (ps.take i)) (ps[i]'(by rw [markedT_length] at h; exact h))
  | _, [], i, h => by simp [markedT] at h
  | k, _ :: r, 0, _ => by simp [markedT, flat3]
  | k, z :: r, i + 1, h => by
    have hi : i < (markedT (k + flat z) r).length := by simpa [markedT] using h
    have e := markedT_get (k + flat z) r i hi
    have e2 : k + (flat z : Int) + (flat3 (r.take i) : Int) = k + ((flat z + flat3 (r.take i) : Nat) : Int) := by omega
    rw [e2] at e
    simpa [markedT, flat3] using e
theorem markedT_nil {k : Int} {ps : Tabs} : markedT k ps = [] ↔ ps = [] := by cases ps <;> simp [markedT]
theorem flat_markedP : ∀ (k : Int) (ps : List (List Int)), flat (markedP k ps) = flat ps
  | _, [] => rfl
  | k, z :: r => by simp [markedP, flat, markedI_length, flat_markedP _ r]
/-- what marking comes to: nothing outside of the bounds has changed -/
def MarkTR (lo hi : Nat) (a : Option Addr) (ps' : Tabs) (k' : Int) (W : World) (e : Ending) (w' : World) : Prop :=
  e = .returned (.int .i64 k') ∧ Outside lo hi W w' ∧ NewT lo hi w' a ps'
/-- tables of which the first `i` are marked -/
def HalfT (g : Nat) (G : Nat → Option Addr) (C L H : Nat → Nat) (w : World) (k : Int) (ps : Tabs) (i : Nat) : Prop :=
  Made w g ps.length ∧ ∀ j (h : j < ps.length), w.cell? ⟨g, j, none⟩ = some (.slice (G j) (ps[j]).length (C j)) ∧ AnyP (L j) (H j) w (G j) (if j < i then markedP (k + flat3 (ps.take j)) ps[j] else ps[j])
theorem HalfT.step {lo hi g : Nat} {G : Nat → Option Addr} {C L H : Nat → Nat} {w w' : World} {k : Int} {ps : Tabs} {i : Nat} (h : HalfT g G C L H w k ps i) (hi' : i < ps.length)
    (ho : ∀ i (_ : i < ps.length), lo ≤ L i ∧ L i ≤ H i ∧ H i ≤ hi ∧ (g < L i ∨ H i ≤ g)) (hd : ∀ i j, i < j → j < ps.length → H i ≤ L j)
    (hG : Outside (L i) (H i) w w') (hN : AnyP (L i) (H i) w' (G i) (markedP (k + flat3 (ps.take i)) ps[i])) : HalfT g G C L H w' k ps (i + 1) := by
  obtain ⟨hM, hc⟩ := h
  have hoi := ho i hi'
  refine ⟨hG.made hM hoi.2.2.2, fun j hj => ⟨(hG.cell hM.1 hoi.2.2.2).trans (hc j hj).1, ?_⟩⟩
  by_cases e : j = i
  · subst e
    rw [if_pos (by omega)]; exact hN
  · have q := (hc j hj).2
    have hs : H j ≤ L i ∨ H i ≤ L j := by
      by_cases hlt : j < i
      · exact .inl (hd j i hlt hi')
      · exact .inr (hd i j (by omega) hj)
    have hsp : H j ≤ L i ∨ H i ≤ L j := hs
    by_cases hlt : j < i
    · rw [if_pos hlt] at q; rw [if_pos (by omega)]
      exact q.outside hG hsp
    · rw [if_neg hlt] at q; rw [if_neg (by omega)]
      exact q.outside hG hsp
theorem Outside.wide {lo hi lo' hi' : Nat} {w w' : World} (h : Outside lo hi w w') (h1 : lo' ≤ lo) (h2 : hi ≤ hi') : Outside lo' hi' w w' := ⟨h.os, h.tape, h.output, h.size, fun k hk ho => h.block k hk (by omega)⟩

theorem markInt64SSS_row (lo hi : Nat) (a : Option Addr) (cap : Nat) (ps : Tabs) (k : Int) (hk : 0 < k) (hk2 : k + (flat3 ps : Int) < 100000000) (hl : ps.length ≤ 1048576) (hs : sz3 ps ≤ 1048576) (w : World) (h : NewT lo hi w a ps) :
    Calls Try.prog 15 #[.slice a ps.length cap, .int .i64 k] w (MarkTR lo hi a (markedT k ps) (k + flat3 ps) w) := by
  by_cases h0 : ps = []
  · subst h0
    clear hk2 h
    go_enter Try.func15, Try.ntmps15
    go_wp2
    go_loopw [1, 5] (fun vk vi wr => vk = .int .i64 k ∧ vi = .int .i64 0 ∧ wr = w) (fun _ _ _ => 0)
    case atStart => exact ⟨rfl, rfl, rfl⟩
    case round =>
      obtain ⟨rfl, rfl, rfl⟩ := hrel
      go_wp2
      go_ret
      exact ⟨by simp [flat3], Outside.refl _ _ _, .inl rfl⟩
  · rcases h with h | ⟨g, G, C, L, H, rfl, h1, h2, hM, hc, hd⟩
    · exact absurd h h0
    have HH := Lib.hid (show HalfT g G C L H w k ps 0 from ⟨hM, fun j hj => ⟨(hc j hj).1, by rw [if_neg (by omega)]; exact (hc j hj).2.1⟩⟩)
    have HO := Lib.hid (fun i (h : i < ps.length) => (hc i h).2.2)
    have HD := Lib.hid hd
    clear hM hc hd h0
    go_enter Try.func15, Try.ntmps15
    go_wp2
    go_loopw [1, 5] (fun vk vi wr => ∃ (i : Nat) (m : Int), i ≤ ps.length ∧ vi = .int .i64 i ∧ vk = .int .i64 m ∧ Hid (m = k + flat3 (ps.take i)) ∧ Outside lo hi w wr ∧ HalfT g G C L H wr k ps i) (fun _ vi _ => ps.length - (intOf vi).toNat)
    case atStart => exact ⟨0, k, Nat.zero_le _, rfl, rfl, Lib.hid (by simp [flat3]), Outside.refl _ _ _, HH.out⟩
    case round =>
      obtain ⟨i, m, hi', rfl, rfl, hm, hOut, hHalf⟩ := hrel
      have HOut := Lib.hid hOut
      have HHf := Lib.hid hHalf
      clear hOut hHalf
      by_cases hlt : i < ps.length
      · obtain ⟨c0, hN⟩ := HHf.out.2 i hlt
        rw [if_neg (by omega)] at hN
        have HN := Lib.hid hN
        have hzl : m + (flat ps[i] : Int) < 100000000 := by have := flat3_get hlt; have := hm.out; omega
        have hzn : (ps[i]).length ≤ 1048576 := by have := sz3_one hlt; omega
        have hm0 : 0 < m := by have := hm.out; omega
        have HF := Lib.hid (flat3_take hlt)
        obtain ⟨z, hez⟩ : ∃ z, ps[i] = z := ⟨_, rfl⟩
        have HE := Lib.hid hez
        rw [hez] at c0 hzl hzn HN HF
        clear hez hN
        go_wp2_with fail
        refine (markInt64SS_any (L i) (H i) (G i) (C i) z m hm0 hzl hzn _ HN.out).mono ?_
        rintro e w1 ⟨rfl, hG1, hN1⟩
        have HH1 := Lib.hid (HHf.out.step hlt HO.out HD.out hG1 (by rw [HE.out, ← hm.out]; exact hN1))
        have HO1 := Lib.hid (HOut.out.trans (hG1.wide (HO.out i hlt).1 (HO.out i hlt).2.2.1))
        clear hG1 hN1 c0
        go_wp2
        go_roundw
        case rel => exact ⟨i + 1, m + flat z, by omega, by go_num, rfl, Lib.hid (by rw [HF.out, hm.out]; omega), HO1.out, HH1.out⟩
        case measure => simp [intOf]; omega
      · obtain rfl : i = ps.length := by omega
        have HL := Lib.hid (markedT_length k ps)
        go_wp2
        go_ret
        refine ⟨ret_int (by rw [hm.out, List.take_length]), HOut.out, .inr ⟨g, G, C, L, H, rfl, h1, h2, by rw [HL.out]; exact HHf.out.1, fun j hj => ?_, fun i j hij hj => ?_⟩⟩
        · have hj' : j < ps.length := by rw [← HL.out]; exact hj
          obtain ⟨q1, q2⟩ := HHf.out.2 j hj'
          rw [if_pos hj'] at q2
          rw [markedT_get, markedP_length]
          exact ⟨q1, q2, HO.out j hj'⟩
        · exact HD.out i j hij (by rw [← HL.out]; exact hj)

/-- what measuring comes to: -1, or a number from which all the lengths were taken -/
def SzTPost (ps : Tabs) (left : Int) (W : World) (e : Ending) (w' : World) : Prop :=
  (e = .returned (.int .i64 (-1)) ∨ ∃ r : Int, 0 ≤ r ∧ r + ps.length + sz3 ps = left ∧ e = .returned (.int .i64 r)) ∧ Below W.heap.size W w'
theorem szInt64SSS_c (lo hi : Nat) (a : Option Addr) (cap : Nat) (ps : Tabs) (hl : ps.length ≤ maxLen) (hs : ∀ i (h : i < ps.length), (ps[i]).length ≤ maxLen ∧ ∀ j (h2 : j < (ps[i]).length), ((ps[i])[j]).length ≤ maxLen) (left : Int) (h0 : 0 ≤ left ∧ left ≤ 1048576) (w : World) (hr : TRow lo hi w a ps) (hh : hi ≤ w.heap.size) :
    Calls Try.prog 6 #[.slice a ps.length cap, .int .i64 left] w (SzTPost ps left w) := by
  have HT := Lib.hid hr
  have HS := Lib.hid hs
  clear hr hs
  unfold maxLen at hl
  by_cases hbig : left < (ps.length : Int)
  · go_enter Try.func6, Try.ntmps6
    go_wp2
    go_ret
    exact ⟨.inl rfl, Below.refl _ _⟩
  · have hfit : (ps.length : Int) ≤ left := by omega
    go_enter Try.func6, Try.ntmps6
    go_wp2
    go_loopw [1, 5] (fun vl vi wr => ∃ (k : Nat) (l : Int), k ≤ ps.length ∧ vi = .int .i64 k ∧ vl = .int .i64 l ∧ 0 ≤ l ∧ l ≤ 1048576 ∧ Hid (l + ps.length + sz3 (ps.take k) = left) ∧ Below w.heap.size w wr) (fun _ i _ => ps.length - (intOf i).toNat)
    case atStart => exact ⟨0, _, Nat.zero_le _, rfl, rfl, by omega, by omega, Lib.hid (by simp [sz3]), Below.refl _ _⟩
    case round =>
      obtain ⟨k, l, hk, rfl, rfl, hl0, hl1, hm, hB⟩ := hrel
      by_cases hlt : k < ps.length
      · obtain ⟨b, off, a', c, rfl, c0, hI⟩ := HT.out.get hB hh hlt
        have HI := Lib.hid hI
        have hz := HS.out k hlt
        have HF := Lib.hid (sz3_take hlt)
        clear hI
        generalize ps[k] = z at c0 hz HF HI
        have HZ := Lib.hid hz
        have HB := Lib.hid hB
        clear hz hB
        go_wp2_with fail
        refine (szInt64SS_c lo hi a' c z HZ.out.1 HZ.out.2 l (by omega) _ HI.out (by have := HB.out.size; omega)).mono ?_
        rintro e w1 ⟨he, hb1⟩
        have HB1 := Lib.hid (HB.out.trans (hb1.mono HB.out.size))
        clear c0 hb1
        rcases he with rfl | ⟨r, hr0, hr1, rfl⟩
        · go_wp2
          go_ret
          exact ⟨.inl rfl, HB1.out⟩
        · have HR1 := Lib.hid hr1
          have hrl : r ≤ 1048576 := by omega
          clear hr1
          go_wp2
          go_roundw
          case rel => exact ⟨k + 1, r, by omega, by go_num, rfl, by omega, by omega, Lib.hid (by rw [HF.out]; have := hm.out; have := HR1.out; omega), HB1.out⟩
          case measure => simp [intOf]; omega
      · obtain rfl : k = ps.length := by omega
        have HM := Lib.hid (show l + ps.length + sz3 ps = left from by have := hm.out; rwa [List.take_length] at this)
        go_wp2
        go_ret
        exact ⟨.inr ⟨l, hl0, HM.out, rfl⟩, hB⟩
end Go.Proofs.Ytknigggjnjkhbaa
