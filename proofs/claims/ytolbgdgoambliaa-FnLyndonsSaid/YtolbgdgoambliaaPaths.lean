/-
  Rows of numbers (slices of int64) in memory, and the laws' own helpers over them: measured, copied, compared, marked.
  Rows of rows of numbers (paths, slices of slices of int64) in memory: read, copied, compared, measured, marked.
-/
import Derived.Test.YtolbgdgoambliaaSer
import Derived.IntWalk
namespace Go.Proofs.Ytolbgdgoambliaa
open Go.RowKit

/-- outside of the blocks `lo` .. `hi - 1` nothing that was there has changed -/
structure Outside (lo hi : Nat) (w w' : World) : Prop where
  os : w'.os = w.os
  tape : w'.tape = w.tape
  output : w'.output = w.output
  size : w.heap.size ≤ w'.heap.size
  block : ∀ k, k < w.heap.size → (k < lo ∨ hi ≤ k) → w'.heap[k]? = w.heap[k]?
theorem Outside.refl (lo hi : Nat) (w : World) : Outside lo hi w w := ⟨rfl, rfl, rfl, Nat.le_refl _, fun _ _ _ => rfl⟩
theorem Outside.trans {lo hi : Nat} {a b c : World} (h : Outside lo hi a b) (k : Outside lo hi b c) : Outside lo hi a c :=
  ⟨k.os.trans h.os, k.tape.trans h.tape, k.output.trans h.output, Nat.le_trans h.size k.size, fun i hi hk => (k.block i (Nat.lt_of_lt_of_le hi h.size) hk).trans (h.block i hi hk)⟩
theorem Outside.of_grown {lo hi : Nat} {w w' : World} {r : Option Nat} (h : w.grownBy w' r) (hr : ∀ g, r = some g → lo ≤ g ∧ g < hi) : Outside lo hi w w' :=
  ⟨h.os, h.tape, h.output, h.size, fun k hk ho => h.block k hk (fun e => by have := hr k e.symm; omega)⟩
theorem Outside.of_below {lo hi : Nat} {w w' : World} (h : Below w.heap.size w w') : Outside lo hi w w' := ⟨h.os, h.tape, h.output, h.size, fun k hk _ => h.block k hk⟩
theorem Outside.below {lo hi B : Nat} {w w' : World} (h : Outside lo hi w w') (h1 : B ≤ lo) (h2 : B ≤ w.heap.size) : Below B w w' := ⟨h.os, h.tape, h.output, h.size, fun k hk => h.block k (by omega) (.inl (by omega))⟩
theorem Outside.cell {lo hi : Nat} {w w' : World} (h : Outside lo hi w w') {b o : Nat} (hb : b < w.heap.size) (ho : b < lo ∨ hi ≤ b) : w'.cell? ⟨b, o, none⟩ = w.cell? ⟨b, o, none⟩ := World.cell?_of_block (a := ⟨b, o, none⟩) (h.block b hb ho)
theorem Outside.frozen {lo hi : Nat} {w w' : World} (h : Outside lo hi w w') {b o : Nat} (hb : b < w.heap.size) (ho : b < lo ∨ hi ≤ b) : w'.frozen? ⟨b, o, none⟩ = w.frozen? ⟨b, o, none⟩ := World.frozen?_of_block (a := ⟨b, o, none⟩) (h.block b hb ho)
theorem Outside.made {lo hi g m : Nat} {w w' : World} (h : Outside lo hi w w') (hM : Made w g m) (ho : g < lo ∨ hi ≤ g) : Made w' g m :=
  ⟨Nat.lt_of_lt_of_le hM.1 h.size, fun j hj => by rw [h.cell hM.1 ho, h.frozen hM.1 ho]; exact hM.2 j hj⟩

/-- numbers in a row of cells of block `b` from `off` on -/
def IntsIn (w : World) (b off : Nat) (zs : List Int) : Prop := ∀ i (h : i < zs.length), w.cell? ⟨b, off + i, none⟩ = some (.int .i64 zs[i])
theorem IntsIn.below {w w' : World} {B b off : Nat} {zs : List Int} (h : IntsIn w b off zs) (hb : Below B w w') (hlt : b < B) : IntsIn w' b off zs := fun i hi =>
  (hb.cell (p := ⟨b, _, none⟩) hlt).trans (h i hi)
theorem IntsIn.outside {lo hi : Nat} {w w' : World} {b off : Nat} {zs : List Int} (h : IntsIn w b off zs) (hg : Outside lo hi w w') (hlt : b < w.heap.size) (ho : b < lo ∨ hi ≤ b) : IntsIn w' b off zs := fun i hi =>
  (hg.cell hlt ho).trans (h i hi)
theorem IntsIn.setCell {w : World} {g off : Nat} {zs : List Int} (h : IntsIn w g off zs) {p : Addr} (hp : p.block ≠ g) (u : Value) : IntsIn (w.setCell p u) g off zs := fun i hi =>
  (World.cell?_setCell_far _ _ _ _ hp).trans (h i hi)
theorem IntsIn.snoc {w : World} {g k : Nat} {zs : List Int} (hk : k < zs.length) (h : IntsIn w g 0 (zs.take k)) (hm : Made w g zs.length) {z : Int} (hz : zs[k] = z) : IntsIn (w.setCell ⟨g, k, none⟩ (.int .i64 z)) g 0 (zs.take (k + 1)) := by
  intro i hi
  have hi' : i < k + 1 := by rw [List.length_take] at hi; omega
  rw [List.getElem_take]
  simp only [Nat.zero_add]
  by_cases hik : i < k
  · have h0 := h i (by rw [List.length_take]; omega)
    rw [List.getElem_take] at h0
    simp only [Nat.zero_add] at h0
    rw [World.cell?_setCell_other _ _ _ _ (fun e => by injection e with _ e2; omega)]; exact h0
  · obtain rfl : i = k := by omega
    obtain ⟨⟨v0, m0⟩, -⟩ := hm.2 i hk
    rw [hz]
    exact World.cell?_setCell_same _ _ _ m0

/-- a row of numbers within bounds of blocks, or none -/
def IRow (lo hi : Nat) (w : World) (a : Option Addr) (zs : List Int) : Prop := zs = [] ∨ ∃ b off, a = some ⟨b, off, none⟩ ∧ lo ≤ b ∧ b < hi ∧ IntsIn w b off zs
theorem IRow.mono {lo hi lo' hi' : Nat} {w : World} {a : Option Addr} {zs : List Int} (h : IRow lo hi w a zs) (h1 : lo' ≤ lo) (h2 : hi ≤ hi') : IRow lo' hi' w a zs := by
  rcases h with h | ⟨b, off, e, a1, a2, a3⟩
  · exact .inl h
  · exact .inr ⟨b, off, e, by omega, by omega, a3⟩
theorem IRow.below {lo hi B : Nat} {w w' : World} {a : Option Addr} {zs : List Int} (h : IRow lo hi w a zs) (hb : Below B w w') (hh : hi ≤ B) : IRow lo hi w' a zs := by
  rcases h with h | ⟨b, off, e, a1, a2, a3⟩
  · exact .inl h
  · exact .inr ⟨b, off, e, a1, a2, a3.below hb (by omega)⟩
theorem IRow.outside {lo hi l h' : Nat} {w w' : World} {a : Option Addr} {zs : List Int} (h : IRow lo hi w a zs) (hg : Outside l h' w w') (hs : hi ≤ w.heap.size) (ho : hi ≤ l ∨ h' ≤ lo) : IRow lo hi w' a zs := by
  rcases h with h | ⟨b, off, e, a1, a2, a3⟩
  · exact .inl h
  · exact .inr ⟨b, off, e, a1, a2, a3.outside hg (by omega) (by omega)⟩
/-- a new row of numbers within bounds, which may be written -/
def NewI (lo hi : Nat) (w : World) (a : Option Addr) (zs : List Int) : Prop := zs = [] ∨ ∃ g, a = some ⟨g, 0, none⟩ ∧ lo ≤ g ∧ g < hi ∧ Made w g zs.length ∧ IntsIn w g 0 zs
theorem NewI.row {lo hi : Nat} {w : World} {a : Option Addr} {zs : List Int} (h : NewI lo hi w a zs) : IRow lo hi w a zs := by
  rcases h with h | ⟨g, h1, h2, h3, h4, h5⟩
  · exact .inl h
  · exact .inr ⟨g, 0, h1, h2, h3, h5⟩
theorem NewI.mono {lo hi lo' hi' : Nat} {w : World} {a : Option Addr} {zs : List Int} (h : NewI lo hi w a zs) (h1 : lo' ≤ lo) (h2 : hi ≤ hi') : NewI lo' hi' w a zs := by
  rcases h with h | ⟨g, e, a1, a2, a3, a4⟩
  · exact .inl h
  · exact .inr ⟨g, e, by omega, by omega, a3, a4⟩
theorem NewI.below {lo hi B : Nat} {w w' : World} {a : Option Addr} {zs : List Int} (h : NewI lo hi w a zs) (hb : Below B w w') (hh : hi ≤ B) : NewI lo hi w' a zs := by
  rcases h with h | ⟨g, e, a1, a2, a3, a4⟩
  · exact .inl h
  · exact .inr ⟨g, e, a1, a2, a3.below hb (by omega), a4.below hb (by omega)⟩
theorem NewI.outside {lo hi l h' : Nat} {w w' : World} {a : Option Addr} {zs : List Int} (h : NewI lo hi w a zs) (hg : Outside l h' w w') (ho : hi ≤ l ∨ h' ≤ lo) : NewI lo hi w' a zs := by
  rcases h with h | ⟨g, e, a1, a2, a3, a4⟩
  · exact .inl h
  · exact .inr ⟨g, e, a1, a2, hg.made a3 (by omega), a4.outside hg a3.1 (by omega)⟩
/-- only one block has been written, and the row lies elsewhere -/
theorem NewI.aside {lo hi : Nat} {w w' : World} {r : Option Nat} {a : Option Addr} {zs : List Int} (h : NewI lo hi w a zs) (hg : w.grownBy w' r) (ho : ∀ g, r = some g → zs ≠ [] → a ≠ some ⟨g, 0, none⟩) : NewI lo hi w' a zs := by
  rcases h with h | ⟨b, e, a1, a2, a3, a4⟩
  · exact .inl h
  · by_cases h0 : zs = []
    · exact .inl h0
    · have hne : some b ≠ r := fun e2 => ho b e2.symm h0 e
      refine .inr ⟨b, e, a1, a2, ⟨Nat.lt_of_lt_of_le a3.1 hg.size, fun j hj => ?_⟩, fun i hi => ?_⟩
      · rw [World.cell?_of_block (a := ⟨b, j, none⟩) (hg.block b a3.1 hne), World.frozen?_of_block (a := ⟨b, j, none⟩) (hg.block b a3.1 hne)]; exact a3.2 j hj
      · rw [World.cell?_of_block (a := ⟨b, _, none⟩) (hg.block b a3.1 hne)]; exact a4 i hi

theorem info_int64 : (Try.prog.info? 2).map (fun i => (i.zero, i.size, i.bytes)) = some (some (.int .i64 0), 1, 8) := by kernel_rfl

theorem make_ints (n : Nat) (hn : n ≤ 1048576) : ∃ O : Obj, (∀ W : World, (Instr.makeSlice 72 (.int .i64 (n : Int)) (.int .i64 (n : Int))).run Try.prog W = .ok (.slice (some ⟨W.heap.size, 0, none⟩) n n) (W.alloc O)) ∧ ∀ W : World, Made (W.alloc O) W.heap.size n ∧ IntsIn (W.alloc O) W.heap.size 0 (List.replicate n 0) := by
  obtain ⟨i, hi, hz, hs, hby⟩ := info_parts info_int64
  refine ⟨.cells (madeCells #[.int .i64 0] n) 2, fun W => ?_, fun W => ⟨⟨by simp, fun j hj => ?_⟩, fun j hj => ?_⟩⟩
  · have h := run_make (P := Try.prog) W 72 2 i _ Try.underlying72 hi hz .i64 .i64 (n : Int) (n : Int) (by omega) (by omega) (by rw [hby]; omega) (by omega)
    simp only [Int.toNat_natCast, hs, Nat.mul_one] at h
    exact h
  · refine ⟨⟨_, (World.cell?_alloc_new _ _ _ _).trans (Array.getElem?_eq_getElem (by rw [size_madeCells]; exact hj))⟩, ?_⟩
    simp
  · have hj' : j < n := by simpa using hj
    rw [World.cell?_alloc_new]
    simp [madeCells, hj', Nat.mod_one]

/-- what copying numbers comes to: a new row of the same numbers, which may be written -/
def ToIPost (zs : List Int) (W : World) (e : Ending) (w' : World) : Prop :=
  ∃ g, e = .returned (.slice (some ⟨g, 0, none⟩) zs.length zs.length) ∧ Below W.heap.size W w' ∧ W.heap.size ≤ g ∧ Made w' g zs.length ∧ IntsIn w' g 0 zs
/-- the numbers that marking leaves, from `k` on -/
def markedI (k : Int) : List Int → List Int
  | [] => []
  | _ :: r => k :: markedI (k + 1) r
theorem markedI_length : ∀ (k : Int) (zs : List Int), (markedI k zs).length = zs.length
  | _, [] => rfl
  | k, _ :: r => by simp [markedI, markedI_length (k + 1) r]
theorem markedI_get : ∀ (k : Int) (zs : List Int) (i : Nat) (h : i < (markedI k zs).length), (markedI k zs)[i] = k + i
  | _, [], i, h => by simp [markedI] at h
  | k, _ :: r, 0, _ => by simp [markedI]
  | k, _ :: r, i + 1, h => by
    have hi : i < (markedI (k + 1) r).length := by simpa [markedI] using h
    have e := markedI_get (k + 1) r i hi
    have e2 : k + 1 + (i : Int) = k + ((i + 1 : Nat) : Int) := by omega
    rw [e2] at e
    simpa [markedI] using e
theorem markedI_nil {k : Int} {zs : List Int} : markedI k zs = [] ↔ zs = [] := by cases zs <;> simp [markedI]

/-- what marking comes to: at most the row's own block has changed -/
def MarkIR (lo hi : Nat) (a : Option Addr) (zs zs' : List Int) (k' : Int) (W : World) (e : Ending) (w' : World) : Prop :=
  ∃ r : Option Nat, e = .returned (.int .i64 k') ∧ W.grownBy w' r ∧ (∀ g, r = some g → lo ≤ g ∧ g < hi ∧ zs ≠ [] ∧ a = some ⟨g, 0, none⟩) ∧ NewI lo hi w' a zs'

end Go.Proofs.Ytolbgdgoambliaa

namespace Go.Proofs.Ytolbgdgoambliaa
open Go.RowKit

/-- how many numbers the rows have together -/
def flat : List (List Int) → Nat
  | [] => 0
  | z :: r => z.length + flat r
theorem flat_append : ∀ (xs ys : List (List Int)), flat (xs ++ ys) = flat xs + flat ys
  | [], ys => by simp [flat]
  | x :: r, ys => by simp [flat, flat_append r ys]; omega
theorem flat_take {ps : List (List Int)} {k : Nat} (h : k < ps.length) : flat (ps.take (k + 1)) = flat (ps.take k) + (ps[k]).length := by
  rw [List.take_succ_eq_append_getElem h, flat_append]; simp [flat]
theorem flat_take_le (ps : List (List Int)) (k : Nat) : flat (ps.take k) ≤ flat ps := by
  have h := flat_append (ps.take k) (ps.drop k)
  rw [List.take_append_drop] at h
  omega
theorem flat_get {ps : List (List Int)} {k : Nat} (h : k < ps.length) : flat (ps.take k) + (ps[k]).length ≤ flat ps := by
  have h1 := flat_take_le ps (k + 1)
  rw [flat_take h] at h1
  exact h1
theorem flat_one {ps : List (List Int)} {k : Nat} (h : k < ps.length) : (ps[k]).length ≤ flat ps := by have := flat_get h; omega

/-- rows of numbers in a row of cells of block `b` from `off` on -/
def PathIn (lo hi : Nat) (w : World) (b off : Nat) (ps : List (List Int)) : Prop := ∀ i (h : i < ps.length), ∃ a c, w.cell? ⟨b, off + i, none⟩ = some (.slice a (ps[i]).length c) ∧ IRow lo hi w a ps[i]
/-- a row of rows of numbers within bounds of blocks, or none -/
def PRow (lo hi : Nat) (w : World) (a : Option Addr) (ps : List (List Int)) : Prop := ps = [] ∨ ∃ b off, a = some ⟨b, off, none⟩ ∧ lo ≤ b ∧ b < hi ∧ PathIn lo hi w b off ps
theorem PRow.mono {lo hi lo' hi' : Nat} {w : World} {a : Option Addr} {ps : List (List Int)} (h : PRow lo hi w a ps) (h1 : lo' ≤ lo) (h2 : hi ≤ hi') : PRow lo' hi' w a ps := by
  rcases h with h | ⟨b, off, e, a1, a2, a3⟩
  · exact .inl h
  · exact .inr ⟨b, off, e, by omega, by omega, fun i hi => by obtain ⟨a, c, q, r⟩ := a3 i hi; exact ⟨a, c, q, r.mono h1 h2⟩⟩
theorem PRow.below {lo hi B : Nat} {w w' : World} {a : Option Addr} {ps : List (List Int)} (h : PRow lo hi w a ps) (hb : Below B w w') (hh : hi ≤ B) : PRow lo hi w' a ps := by
  rcases h with h | ⟨b, off, e, a1, a2, a3⟩
  · exact .inl h
  · exact .inr ⟨b, off, e, a1, a2, fun i hi => by obtain ⟨a, c, q, r⟩ := a3 i hi; exact ⟨a, c, (hb.cell (p := ⟨b, _, none⟩) (by show b < B; omega)).trans q, r.below hb hh⟩⟩
theorem addr_lt {w : World} {b o : Nat} {v : Value} (h : w.cell? ⟨b, o, none⟩ = some v) : b < w.heap.size := by
  rcases Nat.lt_or_ge b w.heap.size with hlt | hge
  · exact hlt
  · simp [World.cell?, Array.getElem?_eq_none hge] at h
theorem PRow.outside {lo hi l h' : Nat} {w w' : World} {a : Option Addr} {ps : List (List Int)} (h : PRow lo hi w a ps) (hg : Outside l h' w w') (hs : hi ≤ w.heap.size) (ho : hi ≤ l ∨ h' ≤ lo) : PRow lo hi w' a ps := by
  rcases h with h | ⟨b, off, e, a1, a2, a3⟩
  · exact .inl h
  · exact .inr ⟨b, off, e, a1, a2, fun i hi => by obtain ⟨a, c, q, r⟩ := a3 i hi; exact ⟨a, c, (hg.cell (by omega) (by omega)).trans q, r.outside hg hs ho⟩⟩
/-- one row of a path that has it -/
theorem PRow.get {lo hi B : Nat} {w w' : World} {a : Option Addr} {ps : List (List Int)} (h : PRow lo hi w a ps) (hb : Below B w w') (hh : hi ≤ B) {k : Nat} (hk : k < ps.length) :
    ∃ b off a' c, a = some ⟨b, off, none⟩ ∧ w'.cell? ⟨b, off + k, none⟩ = some (.slice a' (ps[k]).length c) ∧ IRow lo hi w' a' ps[k] := by
  rcases (h.below hb hh) with h | ⟨b, off, e, a1, a2, a3⟩
  · rw [h] at hk; simp at hk
  · obtain ⟨a', c, q, r⟩ := a3 k hk
    exact ⟨b, off, a', c, e, q, r⟩
theorem PRow.getB {lo hi B : Nat} {w w' : World} {a : Option Addr} {ps : List (List Int)} (h : PRow lo hi w a ps) (hb : Below B w w') (hh : hi ≤ B) {k : Nat} (hk : k < ps.length) :
    ∃ b off a' c, a = some ⟨b, off, none⟩ ∧ b < hi ∧ w'.cell? ⟨b, off + k, none⟩ = some (.slice a' (ps[k]).length c) ∧ IRow lo hi w' a' ps[k] := by
  rcases (h.below hb hh) with h | ⟨b, off, e, a1, a2, a3⟩
  · rw [h] at hk; simp at hk
  · obtain ⟨a', c, q, r⟩ := a3 k hk
    exact ⟨b, off, a', c, e, a2, q, r⟩

/-- a new row of rows of numbers within bounds, whose rows are apart and may be written -/
def NewP (lo hi : Nat) (w : World) (a : Option Addr) (ps : List (List Int)) : Prop :=
  ps = [] ∨ ∃ (g : Nat) (G : Nat → Option Addr) (C : Nat → Nat), a = some ⟨g, 0, none⟩ ∧ lo ≤ g ∧ g < hi ∧ Made w g ps.length ∧
    (∀ i (h : i < ps.length), w.cell? ⟨g, i, none⟩ = some (.slice (G i) (ps[i]).length (C i)) ∧ NewI lo hi w (G i) ps[i] ∧ (ps[i] ≠ [] → G i ≠ some ⟨g, 0, none⟩)) ∧
    ∀ i j (hi : i < ps.length) (hj : j < ps.length), i ≠ j → ps[i] ≠ [] → ps[j] ≠ [] → G i ≠ G j
theorem NewP.row {lo hi : Nat} {w : World} {a : Option Addr} {ps : List (List Int)} (h : NewP lo hi w a ps) : PRow lo hi w a ps := by
  rcases h with h | ⟨g, G, C, e, a1, a2, a3, a4, a5⟩
  · exact .inl h
  · exact .inr ⟨g, 0, e, a1, a2, fun i hi => ⟨G i, C i, by rw [Nat.zero_add]; exact (a4 i hi).1, (a4 i hi).2.1.row⟩⟩
theorem NewP.mono {lo hi lo' hi' : Nat} {w : World} {a : Option Addr} {ps : List (List Int)} (h : NewP lo hi w a ps) (h1 : lo' ≤ lo) (h2 : hi ≤ hi') : NewP lo' hi' w a ps := by
  rcases h with h | ⟨g, G, C, e, a1, a2, a3, a4, a5⟩
  · exact .inl h
  · exact .inr ⟨g, G, C, e, by omega, by omega, a3, fun i hi => ⟨(a4 i hi).1, (a4 i hi).2.1.mono h1 h2, (a4 i hi).2.2⟩, a5⟩
theorem NewP.below {lo hi B : Nat} {w w' : World} {a : Option Addr} {ps : List (List Int)} (h : NewP lo hi w a ps) (hb : Below B w w') (hh : hi ≤ B) : NewP lo hi w' a ps := by
  rcases h with h | ⟨g, G, C, e, a1, a2, a3, a4, a5⟩
  · exact .inl h
  · exact .inr ⟨g, G, C, e, a1, a2, a3.below hb (by omega), fun i hi => ⟨(hb.cell (p := ⟨g, _, none⟩) (by show g < B; omega)).trans (a4 i hi).1, (a4 i hi).2.1.below hb hh, (a4 i hi).2.2⟩, a5⟩
theorem NewP.outside {lo hi l h' : Nat} {w w' : World} {a : Option Addr} {ps : List (List Int)} (h : NewP lo hi w a ps) (hg : Outside l h' w w') (ho : hi ≤ l ∨ h' ≤ lo) : NewP lo hi w' a ps := by
  rcases h with h | ⟨g, G, C, e, a1, a2, a3, a4, a5⟩
  · exact .inl h
  · exact .inr ⟨g, G, C, e, a1, a2, hg.made a3 (by omega), fun i hi => ⟨(hg.cell a3.1 (by omega)).trans (a4 i hi).1, (a4 i hi).2.1.outside hg ho, (a4 i hi).2.2⟩, a5⟩

theorem info_row : (Try.prog.info? 72).map (fun i => (i.zero, i.size, i.bytes)) = some (some (.slice none 0 0), 1, 24) := by kernel_rfl
/-- a path that is being filled: `k` of its rows stand -/
def PartP (lo hi g : Nat) (w : World) (m : Nat) (ps : List (List Int)) (k : Nat) : Prop :=
  ∃ (G : Nat → Option Addr) (C : Nat → Nat), lo ≤ g ∧ g < hi ∧ Made w g m ∧
    (∀ i (h : i < ps.length), i < k → w.cell? ⟨g, i, none⟩ = some (.slice (G i) (ps[i]).length (C i)) ∧ NewI lo hi w (G i) ps[i] ∧ (ps[i] ≠ [] → G i ≠ some ⟨g, 0, none⟩)) ∧
    ∀ i j (hi : i < ps.length) (hj : j < ps.length), i < k → j < k → i ≠ j → ps[i] ≠ [] → ps[j] ≠ [] → G i ≠ G j
theorem PartP.zero {lo hi g : Nat} {w : World} {m : Nat} {ps : List (List Int)} (h1 : lo ≤ g) (h2 : g < hi) (hM : Made w g m) : PartP lo hi g w m ps 0 :=
  ⟨fun _ => none, fun _ => 0, h1, h2, hM, fun _ _ hi => absurd hi (Nat.not_lt_zero _), fun _ _ _ _ hi => absurd hi (Nat.not_lt_zero _)⟩
theorem PartP.done {lo hi g : Nat} {w : World} {ps : List (List Int)} (h : PartP lo hi g w ps.length ps ps.length) : NewP lo hi w (some ⟨g, 0, none⟩) ps := by
  obtain ⟨G, C, h1, h2, hM, hc, hd⟩ := h
  exact .inr ⟨g, G, C, rfl, h1, h2, hM, fun i hi => hc i hi hi, fun i j hi hj => hd i j hi hj hi hj⟩
theorem PartP.snoc {lo hi hi' g : Nat} {w w' : World} {m : Nat} {ps : List (List Int)} {k : Nat} (h : PartP lo hi g w m ps k) (hk : k < ps.length) (hm : m = ps.length) (hb : Below w.heap.size w w') (hhi : hi ≤ w.heap.size) {g' c : Nat}
    (hg' : w.heap.size ≤ g') (hg2 : g' < hi') (hM' : Made w' g' (ps[k]).length) (hI : IntsIn w' g' 0 ps[k]) :
    PartP lo hi' g (w'.setCell ⟨g, k, none⟩ (.slice (some ⟨g', 0, none⟩) (ps[k]).length c)) m ps (k + 1) := by
  obtain ⟨G, C, h1, h2, hM, hc, hd⟩ := h
  have hMb := hM.below hb (by omega)
  have hfar : g' ≠ g := by omega
  have hGo : ∀ i (h : i < ps.length), i < k → ps[i] ≠ [] → G i ≠ some ⟨g', 0, none⟩ := fun i hi hik h0 e => by
    rcases (hc i hi hik).2.1 with hn | ⟨gi, e1, a1, a2, _⟩
    · exact h0 hn
    · rw [e1] at e; injection e with e; injection e with e; omega
  have hrowK : NewI lo hi' (w'.setCell ⟨g, k, none⟩ (.slice (some ⟨g', 0, none⟩) (ps[k]).length c)) (some ⟨g', 0, none⟩) ps[k] :=
    .inr ⟨g', rfl, by omega, hg2, hM'.set _ _, hI.setCell (by show g ≠ g'; omega) _⟩
  have hGk : some (⟨g', 0, none⟩ : Addr) ≠ some ⟨g, 0, none⟩ := fun e => by injection e with e; injection e with e; omega
  refine ⟨fun i => if i = k then some ⟨g', 0, none⟩ else G i, fun i => if i = k then c else C i, h1, by omega, hMb.set _ _, fun i hi hik => ?_, fun i j hi hj hik hjk hne h0 h1 => ?_⟩
  · by_cases e : i = k
    · subst e
      simp only [if_pos]
      obtain ⟨⟨v0, m0⟩, -⟩ := hMb.2 i (by omega)
      exact ⟨World.cell?_setCell_same _ _ _ m0, hrowK, fun _ => hGk⟩
    · simp only [if_neg e]
      obtain ⟨q1, q2, q3⟩ := hc i hi (by omega)
      refine ⟨?_, ?_, q3⟩
      · rw [World.cell?_setCell_other _ _ _ _ (fun e2 => by injection e2 with _ e3; omega), hb.cell (p := ⟨g, i, none⟩) (by show g < _; omega)]
        exact q1
      · have q4 := q2.below hb hhi
        rcases q4 with q4 | ⟨gi, e1, a1, a2, a3, a4⟩
        · exact .inl q4
        · by_cases h0 : ps[i] = []
          · exact .inl h0
          · have hgi : g ≠ gi := fun e2 => by subst e2; exact q3 h0 e1
            exact .inr ⟨gi, e1, a1, by omega, a3.set _ _, a4.setCell hgi _⟩
  · by_cases ei : i = k
    · subst ei
      have ej : ¬ j = i := fun e => hne e.symm
      simp only [if_neg ej]
      exact fun e => hGo j hj (by omega) h1 e.symm
    · simp only [if_neg ei]
      by_cases ej : j = k
      · rw [if_pos ej]
        exact hGo i hi (by omega) h0
      · simp only [if_neg ej]
        exact hd i j hi hj (by omega) (by omega) hne h0 h1

/-- what copying a path comes to -/
def ToPPost (ps : List (List Int)) (W : World) (e : Ending) (w' : World) : Prop :=
  ∃ a, e = .returned (.slice a ps.length ps.length) ∧ Below W.heap.size W w' ∧ NewP W.heap.size w'.heap.size w' a ps
/-- the path that marking leaves, from `k` on -/
def markedP (k : Int) : List (List Int) → List (List Int)
  | [] => []
  | z :: r => markedI k z :: markedP (k + z.length) r
theorem markedP_length : ∀ (k : Int) (ps : List (List Int)), (markedP k ps).length = ps.length
  | _, [] => rfl
  | k, _ :: r => by simp [markedP, markedP_length _ r]
theorem markedP_get : ∀ (k : Int) (ps : List (List Int)) (i : Nat) (h : i < (markedP k ps).length), (markedP k ps)[i] = markedI (k + flat (ps.take i)) (ps[i]'(by rw [markedP_length] at h; exact h))
  | _, [], i, h => by simp [markedP] at h
  | k, _ :: r, 0, _ => by simp [markedP, flat]
  | k, z :: r, i + 1, h => by
    have hi : i < (markedP (k + z.length) r).length := by simpa [markedP] using h
    have e := markedP_get (k + z.length) r i hi
    have e2 : k + (z.length : Int) + (flat (r.take i) : Int) = k + ((z.length + flat (r.take i) : Nat) : Int) := by omega
    rw [e2] at e
    simpa [markedP, flat] using e
theorem markedP_nil {k : Int} {ps : List (List Int)} : markedP k ps = [] ↔ ps = [] := by cases ps <;> simp [markedP]

/-- what marking comes to: nothing outside of the bounds has changed -/
def MarkPR (lo hi : Nat) (a : Option Addr) (ps' : List (List Int)) (k' : Int) (W : World) (e : Ending) (w' : World) : Prop :=
  e = .returned (.int .i64 k') ∧ Outside lo hi W w' ∧ NewP lo hi w' a ps'

/-- a path of which the first `i` rows are marked -/
def HalfP (lo hi g : Nat) (G : Nat → Option Addr) (C : Nat → Nat) (w : World) (k : Int) (ps : List (List Int)) (i : Nat) : Prop :=
  Made w g ps.length ∧ ∀ j (h : j < ps.length), w.cell? ⟨g, j, none⟩ = some (.slice (G j) (ps[j]).length (C j)) ∧ NewI lo hi w (G j) (if j < i then markedI (k + flat (ps.take j)) ps[j] else ps[j])
theorem HalfP.step {lo hi g : Nat} {G : Nat → Option Addr} {C : Nat → Nat} {w w' : World} {k : Int} {ps : List (List Int)} {i : Nat} (h : HalfP lo hi g G C w k ps i) (hi' : i < ps.length)
    (ho : ∀ i (h : i < ps.length), ps[i] ≠ [] → G i ≠ some ⟨g, 0, none⟩) (hd : ∀ i j (hi : i < ps.length) (hj : j < ps.length), i ≠ j → ps[i] ≠ [] → ps[j] ≠ [] → G i ≠ G j)
    {r : Option Nat} (hG : w.grownBy w' r) (hr : ∀ g, r = some g → lo ≤ g ∧ g < hi ∧ ps[i] ≠ [] ∧ G i = some ⟨g, 0, none⟩) (hN : NewI lo hi w' (G i) (markedI (k + flat (ps.take i)) ps[i])) : HalfP lo hi g G C w' k ps (i + 1) := by
  obtain ⟨hM, hc⟩ := h
  have hrg : some g ≠ r := fun e => by
    obtain ⟨_, _, h0, e2⟩ := hr g e.symm
    exact ho i hi' h0 e2
  refine ⟨⟨Nat.lt_of_lt_of_le hM.1 hG.size, fun j hj => by rw [World.cell?_of_block (a := ⟨g, j, none⟩) (hG.block g hM.1 hrg), World.frozen?_of_block (a := ⟨g, j, none⟩) (hG.block g hM.1 hrg)]; exact hM.2 j hj⟩, fun j hj => ⟨?_, ?_⟩⟩
  · rw [World.cell?_of_block (a := ⟨g, j, none⟩) (hG.block g hM.1 hrg)]; exact (hc j hj).1
  · by_cases e : j = i
    · subst e
      rw [if_pos (by omega)]; exact hN
    · have q := (hc j hj).2
      have key : ∀ zs : List Int, (zs ≠ [] → ps[j] ≠ []) → NewI lo hi w (G j) zs → NewI lo hi w' (G j) zs := fun zs hz hq =>
        hq.aside hG fun x hx h0 e2 => by
          obtain ⟨_, _, h1, e3⟩ := hr x hx
          exact hd j i hj hi' e (hz h0) h1 (e2.trans e3.symm)
      by_cases hlt : j < i
      · rw [if_pos hlt] at q; rw [if_pos (by omega)]
        exact key _ (fun h0 h1 => h0 (by rw [h1]; rfl)) q
      · rw [if_neg hlt] at q; rw [if_neg (by omega)]
        exact key _ (fun h0 => h0) q

/-- what measuring comes to: -1, or a number from which all the lengths were taken -/
def SzPPost (ps : List (List Int)) (left : Int) (W : World) (e : Ending) (w' : World) : Prop :=
  (e = .returned (.int .i64 (-1)) ∨ ∃ r : Int, 0 ≤ r ∧ r + ps.length + flat ps = left ∧ e = .returned (.int .i64 r)) ∧ Below W.heap.size W w'
end Go.Proofs.Ytolbgdgoambliaa
