/-
  Rows of numbers (slices of int64) in memory, and the laws' own helpers over them: measured, copied, compared, marked.
-/
import Derived.Test.YtngpnbdndkddlaaMark
import Derived.IntWalk
namespace Go.Proofs.Ytngpnbdndkddlaa
open Go.RowKit

/-- outside of the blocks `lo` .. `hi - 1` nothing that was there has changed -/
structure Outside (lo hi : Nat) (w w' : World) : Prop where
  os : w'.os = w.os
  tape : w'.tape = w.tape
  output : w'.output = w.output
  size : w.heap.size ≤ w'.heap.size
  block : ∀ k, k < w.heap.size → (k < lo ∨ hi ≤ k) → w'.heap[k]? = w.heap[k]?
theorem Outside.refl (lo hi : Nat) (w : World) : Outside lo hi w w := ⟨rfl, rfl, rfl, Nat.le_refl _, fun _ _ _ => rfl⟩
theorem Outside.trans {lo hi : Nat} {a b c : World} (h : Outside lo hi a b) (k : Outside lo hi b c) : Outside lo hi a c :=
  ⟨k.os.trans h.os, k.tape.trans h.tape, k.output.trans h.output, Nat.le_trans h.size k.size, fun i hi hk => (k.block i (Nat.lt_of_lt_of_le hi h.size) hk).trans (h.block i hi hk)⟩
theorem Outside.of_grown {lo hi : Nat} {w w' : World} {r : Option Nat} (h : w.grownBy w' r) (hr : ∀ g, r = some g → lo ≤ g ∧ g < hi) : Outside lo hi w w' :=
  ⟨h.os, h.tape, h.output, h.size, fun k hk ho => h.block k hk (fun e => by have := hr k e.symm; omega)⟩
theorem Outside.of_below {lo hi : Nat} {w w' : World} (h : Below w.heap.size w w') : Outside lo hi w w' := ⟨h.os, h.tape, h.output, h.size, fun k hk _ => h.block k hk⟩
theorem Outside.below {lo hi B : Nat} {w w' : World} (h : Outside lo hi w w') (h1 : B ≤ lo) (h2 : B ≤ w.heap.size) : Below B w w' := ⟨h.os, h.tape, h.output, h.size, fun k hk => h.block k (by omega) (.inl (by omega))⟩
theorem Outside.cell {lo hi : Nat} {w w' : World} (h : Outside lo hi w w') {b o : Nat} (hb : b < w.heap.size) (ho : b < lo ∨ hi ≤ b) : w'.cell? ⟨b, o, none⟩ = w.cell? ⟨b, o, none⟩ := World.cell?_of_block (a := ⟨b, o, none⟩) (h.block b hb ho)
theorem Outside.frozen {lo hi : Nat} {w w' : World} (h : Outside lo hi w w') {b o : Nat} (hb : b < w.heap.size) (ho : b < lo ∨ hi ≤ b) : w'.frozen? ⟨b, o, none⟩ = w.frozen? ⟨b, o, none⟩ := World.frozen?_of_block (a := ⟨b, o, none⟩) (h.block b hb ho)
theorem Outside.made {lo hi g m : Nat} {w w' : World} (h : Outside lo hi w w') (hM : Made w g m) (ho : g < lo ∨ hi ≤ g) : Made w' g m :=
  ⟨Nat.lt_of_lt_of_le hM.1 h.size, fun j hj => by rw [h.cell hM.1 ho, h.frozen hM.1 ho]; exact hM.2 j hj⟩

/-- numbers in a row of cells of block `b` from `off` on -/
def IntsIn (w : World) (b off : Nat) (zs : List Int) : Prop := ∀ i (h : i < zs.length), w.cell? ⟨b, off + i, none⟩ = some (.int .i64 zs[i])
theorem IntsIn.below {w w' : World} {B b off : Nat} {zs : List Int} (h : IntsIn w b off zs) (hb : Below B w w') (hlt : b < B) : IntsIn w' b off zs := fun i hi =>
  (hb.cell (p := ⟨b, _, none⟩) hlt).trans (h i hi)
theorem IntsIn.outside {lo hi : Nat} {w w' : World} {b off : Nat} {zs : List Int} (h : IntsIn w b off zs) (hg : Outside lo hi w w') (hlt : b < w.heap.size) (ho : b < lo ∨ hi ≤ b) : IntsIn w' b off zs := fun i hi =>
  (hg.cell hlt ho).trans (h i hi)
theorem IntsIn.setCell {w : World} {g off : Nat} {zs : List Int} (h : IntsIn w g off zs) {p : Addr} (hp : p.block ≠ g) (u : Value) : IntsIn (w.setCell p u) g off zs := fun i hi =>
  (World.cell?_setCell_far _ _ _ _ hp).trans (h i hi)
theorem IntsIn.snoc {w : World} {g k : Nat} {zs : List Int} (hk : k < zs.length) (h : IntsIn w g 0 (zs.take k)) (hm : Made w g zs.length) {z : Int} (hz : zs[k] = z) : IntsIn (w.setCell ⟨g, k, none⟩ (.int .i64 z)) g 0 (zs.take (k + 1)) := by
  intro i hi
  have hi' : i < k + 1 := by rw [List.length_take] at hi; omega
  rw [List.getElem_take]
  simp only [Nat.zero_add]
  by_cases hik : i < k
  · have h0 := h i (by rw [List.length_take]; omega)
    rw [List.getElem_take] at h0
    simp only [Nat.zero_add] at h0
    rw [World.cell?_setCell_other _ _ _ _ (fun e => by injection e with _ e2; omega)]; exact h0
  · obtain rfl : i = k := by omega
    obtain ⟨⟨v0, m0⟩, -⟩ := hm.2 i hk
    rw [hz]
    exact World.cell?_setCell_same _ _ _ m0

/-- a row of numbers within bounds of blocks, or none -/
def IRow (lo hi : Nat) (w : World) (a : Option Addr) (zs : List Int) : Prop := zs = [] ∨ ∃ b off, a = some ⟨b, off, none⟩ ∧ lo ≤ b ∧ b < hi ∧ IntsIn w b off zs
theorem IRow.mono {lo hi lo' hi' : Nat} {w : World} {a : Option Addr} {zs : List Int} (h : IRow lo hi w a zs) (h1 : lo' ≤ lo) (h2 : hi ≤ hi') : IRow lo' hi' w a zs := by
  rcases h with h | ⟨b, off, e, a1, a2, a3⟩
  · exact .inl h
  · exact .inr ⟨b, off, e, by omega, by omega, a3⟩
theorem IRow.below {lo hi B : Nat} {w w' : World} {a : Option Addr} {zs : List Int} (h : IRow lo hi w a zs) (hb : Below B w w') (hh : hi ≤ B) : IRow lo hi w' a zs := by
  rcases h with h | ⟨b, off, e, a1, a2, a3⟩
  · exact .inl h
  · exact .inr ⟨b, off, e, a1, a2, a3.below hb (by omega)⟩
theorem IRow.outside {lo hi l h' : Nat} {w w' : World} {a : Option Addr} {zs : List Int} (h : IRow lo hi w a zs) (hg : Outside l h' w w') (hs : hi ≤ w.heap.size) (ho : hi ≤ l ∨ h' ≤ lo) : IRow lo hi w' a zs := by
  rcases h with h | ⟨b, off, e, a1, a2, a3⟩
  · exact .inl h
  · exact .inr ⟨b, off, e, a1, a2, a3.outside hg (by omega) (by omega)⟩
/-- a new row of numbers within bounds, which may be written -/
def NewI (lo hi : Nat) (w : World) (a : Option Addr) (zs : List Int) : Prop := zs = [] ∨ ∃ g, a = some ⟨g, 0, none⟩ ∧ lo ≤ g ∧ g < hi ∧ Made w g zs.length ∧ IntsIn w g 0 zs
theorem NewI.row {lo hi : Nat} {w : World} {a : Option Addr} {zs : List Int} (h : NewI lo hi w a zs) : IRow lo hi w a zs := by
  rcases h with h | ⟨g, h1, h2, h3, h4, h5⟩
  · exact .inl h
  · exact .inr ⟨g, 0, h1, h2, h3, h5⟩
theorem NewI.mono {lo hi lo' hi' : Nat} {w : World} {a : Option Addr} {zs : List Int} (h : NewI lo hi w a zs) (h1 : lo' ≤ lo) (h2 : hi ≤ hi') : NewI lo' hi' w a zs := by
  rcases h with h | ⟨g, e, a1, a2, a3, a4⟩
  · exact .inl h
  · exact .inr ⟨g, e, by omega, by omega, a3, a4⟩
theorem NewI.below {lo hi B : Nat} {w w' : World} {a : Option Addr} {zs : List Int} (h : NewI lo hi w a zs) (hb : Below B w w') (hh : hi ≤ B) : NewI lo hi w' a zs := by
  rcases h with h | ⟨g, e, a1, a2, a3, a4⟩
  · exact .inl h
  · exact .inr ⟨g, e, a1, a2, a3.below hb (by omega), a4.below hb (by omega)⟩
theorem NewI.outside {lo hi l h' : Nat} {w w' : World} {a : Option Addr} {zs : List Int} (h : NewI lo hi w a zs) (hg : Outside l h' w w') (ho : hi ≤ l ∨ h' ≤ lo) : NewI lo hi w' a zs := by
  rcases h with h | ⟨g, e, a1, a2, a3, a4⟩
  · exact .inl h
  · exact .inr ⟨g, e, a1, a2, hg.made a3 (by omega), a4.outside hg a3.1 (by omega)⟩
/-- only one block has been written, and the row lies elsewhere -/
theorem NewI.aside {lo hi : Nat} {w w' : World} {r : Option Nat} {a : Option Addr} {zs : List Int} (h : NewI lo hi w a zs) (hg : w.grownBy w' r) (ho : ∀ g, r = some g → zs ≠ [] → a ≠ some ⟨g, 0, none⟩) : NewI lo hi w' a zs := by
  rcases h with h | ⟨b, e, a1, a2, a3, a4⟩
  · exact .inl h
  · by_cases h0 : zs = []
    · exact .inl h0
    · have hne : some b ≠ r := fun e2 => ho b e2.symm h0 e
      refine .inr ⟨b, e, a1, a2, ⟨Nat.lt_of_lt_of_le a3.1 hg.size, fun j hj => ?_⟩, fun i hi => ?_⟩
      · rw [World.cell?_of_block (a := ⟨b, j, none⟩) (hg.block b a3.1 hne), World.frozen?_of_block (a := ⟨b, j, none⟩) (hg.block b a3.1 hne)]; exact a3.2 j hj
      · rw [World.cell?_of_block (a := ⟨b, _, none⟩) (hg.block b a3.1 hne)]; exact a4 i hi

theorem info_int64 : (Try.prog.info? 2).map (fun i => (i.zero, i.size, i.bytes)) = some (some (.int .i64 0), 1, 8) := by kernel_rfl

theorem make_ints (n : Nat) (hn : n ≤ 1048576) : ∃ O : Obj, (∀ W : World, (Instr.makeSlice 41 (.int .i64 (n : Int)) (.int .i64 (n : Int))).run Try.prog W = .ok (.slice (some ⟨W.heap.size, 0, none⟩) n n) (W.alloc O)) ∧ ∀ W : World, Made (W.alloc O) W.heap.size n ∧ IntsIn (W.alloc O) W.heap.size 0 (List.replicate n 0) := by
  obtain ⟨i, hi, hz, hs, hby⟩ := info_parts info_int64
  refine ⟨.cells (madeCells #[.int .i64 0] n) 2, fun W => ?_, fun W => ⟨⟨by simp, fun j hj => ?_⟩, fun j hj => ?_⟩⟩
  · have h := run_make (P := Try.prog) W 41 2 i _ Try.underlying41 hi hz .i64 .i64 (n : Int) (n : Int) (by omega) (by omega) (by rw [hby]; omega) (by omega)
    simp only [Int.toNat_natCast, hs, Nat.mul_one] at h
    exact h
  · refine ⟨⟨_, (World.cell?_alloc_new _ _ _ _).trans (Array.getElem?_eq_getElem (by rw [size_madeCells]; exact hj))⟩, ?_⟩
    simp
  · have hj' : j < n := by simpa using hj
    rw [World.cell?_alloc_new]
    simp [madeCells, hj', Nat.mod_one]

/-- what copying numbers comes to: a new row of the same numbers, which may be written -/
def ToIPost (zs : List Int) (W : World) (e : Ending) (w' : World) : Prop :=
  ∃ g, e = .returned (.slice (some ⟨g, 0, none⟩) zs.length zs.length) ∧ Below W.heap.size W w' ∧ W.heap.size ≤ g ∧ Made w' g zs.length ∧ IntsIn w' g 0 zs
theorem toInt64S_c (lo hi : Nat) (a : Option Addr) (cap : Nat) (zs : List Int) (hl : zs.length ≤ 1048576) (w : World) (hr : IRow lo hi w a zs) (hh : hi ≤ w.heap.size) :
    Calls Try.prog 41 #[.slice a zs.length cap] w (ToIPost zs w) := by
  obtain ⟨O, hmk, hmade⟩ := make_ints zs.length hl
  have HM := Lib.hid hmade
  clear hmade
  have HT := Lib.hid hr
  clear hr
  have e0 : (0 : Int) ≤ (zs.length : Int) := by omega
  go_enter Try.func41, Try.ntmps41
  go_wp2
  clear hmk
  go_loopw [4] (fun vi wr => ∃ k : Nat, k ≤ zs.length ∧ vi = .int .i64 k ∧ Below w.heap.size w wr ∧ Made wr w.heap.size zs.length ∧ IntsIn wr w.heap.size 0 (zs.take k)) (fun i _ => zs.length - (intOf i).toNat)
  case atStart => exact ⟨0, Nat.zero_le _, rfl, (Below.refl _ _).alloc (Nat.le_refl _) _, (HM.out _).1, fun i hi => by simp at hi⟩
  case round =>
    obtain ⟨k, hk, rfl, hB, hM, hTk⟩ := hrel
    have HMk := Lib.hid hM
    have HTk := Lib.hid hTk
    have hgs := hM.1
    clear hM hTk
    by_cases hlt : k < zs.length
    · rcases HT.out with h | ⟨b, off, rfl, hb0, hb, ht⟩
      · rw [h] at hlt; simp at hlt
      have c0 := ht.below hB (by omega) k hlt
      obtain ⟨z, hez⟩ : ∃ z, zs[k] = z := ⟨_, rfl⟩
      rw [hez] at c0
      have HE := Lib.hid hez
      obtain ⟨⟨v0, m0⟩, z0⟩ := HMk.out.2 k hlt
      have HB := Lib.hid hB
      clear hez ht hB
      go_wp2
      go_roundw
      case rel => exact ⟨k + 1, by omega, by go_num, HB.out.setCell (p := ⟨w.heap.size, k, none⟩) (Nat.le_refl _) _, HMk.out.set _ _, HTk.out.snoc hlt HMk.out HE.out⟩
      case measure => simp [intOf]; omega
    · obtain rfl : k = zs.length := by omega
      go_wp2
      go_ret
      exact ⟨w.heap.size, rfl, hB, Nat.le_refl _, HMk.out, by have := HTk.out; rwa [List.take_length] at this⟩

theorem eqInt64S_row (lo1 hi1 lo2 hi2 : Nat) (a1 a2 : Option Addr) (c1 c2 : Nat) (zs : List Int) (hl : zs.length ≤ 1048576) (w : World) (h1 : IRow lo1 hi1 w a1 zs) (h2 : IRow lo2 hi2 w a2 zs) (hh1 : hi1 ≤ w.heap.size) (hh2 : hi2 ≤ w.heap.size) :
    Calls Try.prog 32 #[.slice a1 zs.length c1, .slice a2 zs.length c2] w fun e w' => e = .returned (.bool true) ∧ Below w.heap.size w w' := by
  have H1 := Lib.hid h1
  have H2 := Lib.hid h2
  clear h1 h2
  go_enter Try.func32, Try.ntmps32
  go_wp2
  go_loopw [5] (fun vi wr => ∃ k : Nat, k ≤ zs.length ∧ vi = .int .i64 k ∧ Below w.heap.size w wr) (fun vi _ => zs.length - (intOf vi).toNat)
  case atStart => exact ⟨0, Nat.zero_le _, rfl, Below.refl _ _⟩
  case round =>
    obtain ⟨k, hk, rfl, hB⟩ := hrel
    by_cases hlt : k < zs.length
    · rcases H1.out with h | ⟨b1, o1, rfl, hb0, hb1, t1⟩
      · rw [h] at hlt; simp at hlt
      rcases H2.out with h | ⟨b2, o2, rfl, hb3, hb2, t2⟩
      · rw [h] at hlt; simp at hlt
      have d1 := t1.below hB (by omega) k hlt
      have d2 := t2.below hB (by omega) k hlt
      generalize zs[k] = z at d1 d2
      have HB := Lib.hid hB
      clear hB t1 t2
      have e0 : (0 : Int) ≤ (k : Int) := by omega
      have e1 : (k : Int) < (zs.length : Int) := by omega
      go_wp2
      go_quiet (fail)
      go_wp2
      go_roundw
      case rel => exact ⟨k + 1, by omega, by go_num, ⟨HB.out.os, HB.out.tape, HB.out.output, HB.out.size, HB.out.block⟩⟩
      case measure => simp [intOf]; omega
    · go_wp2
      go_ret
      exact ⟨rfl, hB⟩

/-- the numbers that marking leaves, from `k` on -/
def markedI (k : Int) : List Int → List Int
  | [] => []
  | _ :: r => k :: markedI (k + 1) r
theorem markedI_length : ∀ (k : Int) (zs : List Int), (markedI k zs).length = zs.length
  | _, [] => rfl
  | k, _ :: r => by simp [markedI, markedI_length (k + 1) r]
theorem markedI_get : ∀ (k : Int) (zs : List Int) (i : Nat) (h : i < (markedI k zs).length), (markedI k zs)[i] = k + i
  | _, [], i, h => by simp [markedI] at h
  | k, _ :: r, 0, _ => by simp [markedI]
  | k, _ :: r, i + 1, h => by
    have hi : i < (markedI (k + 1) r).length := by simpa [markedI] using h
    have e := markedI_get (k + 1) r i hi
    have e2 : k + 1 + (i : Int) = k + ((i + 1 : Nat) : Int) := by omega
    rw [e2] at e
    simpa [markedI] using e
theorem markedI_nil {k : Int} {zs : List Int} : markedI k zs = [] ↔ zs = [] := by cases zs <;> simp [markedI]

/-- what marking comes to: at most the row's own block has changed -/
def MarkIR (lo hi : Nat) (a : Option Addr) (zs zs' : List Int) (k' : Int) (W : World) (e : Ending) (w' : World) : Prop :=
  ∃ r : Option Nat, e = .returned (.int .i64 k') ∧ W.grownBy w' r ∧ (∀ g, r = some g → lo ≤ g ∧ g < hi ∧ zs ≠ [] ∧ a = some ⟨g, 0, none⟩) ∧ NewI lo hi w' a zs'

theorem markInt64S_row (lo hi : Nat) (a : Option Addr) (cap : Nat) (zs : List Int) (k : Int) (hk : 0 < k) (hk2 : k + (zs.length : Int) < 100000000) (w : World) (h : NewI lo hi w a zs) :
    Calls Try.prog 33 #[.slice a zs.length cap, .int .i64 k] w (MarkIR lo hi a zs (markedI k zs) (k + zs.length) w) := by
  by_cases h0 : zs = []
  · subst h0
    clear hk2 h
    go_enter Try.func33, Try.ntmps33
    go_wp2
    go_loopw [1, 5] (fun vk vi wr => vk = .int .i64 k ∧ vi = .int .i64 0 ∧ wr = w) (fun _ _ _ => 0)
    case atStart => exact ⟨rfl, rfl, rfl⟩
    case round =>
      obtain ⟨rfl, rfl, rfl⟩ := hrel
      go_wp2
      go_ret
      exact ⟨none, by simp, World.grownBy.refl _ _, fun g h => (by cases h), .inl rfl⟩
  · rcases h with h | ⟨g, rfl, hlo, hhi, hM, hT⟩
    · exact absurd h h0
    have HM := Lib.hid hM
    have H0 := Lib.hid h0
    clear hM hT h0
    go_enter Try.func33, Try.ntmps33
    go_wp2
    go_loopw [1, 5] (fun vk vi wr => ∃ i : Nat, i ≤ zs.length ∧ vi = .int .i64 i ∧ vk = .int .i64 (k + i) ∧ w.grownBy wr (some g) ∧ Made wr g zs.length ∧ IntsIn wr g 0 ((markedI k zs).take i)) (fun _ vi _ => zs.length - (intOf vi).toNat)
    case atStart => exact ⟨0, Nat.zero_le _, rfl, by simp, World.grownBy.refl _ _, HM.out, fun i hi => by simp at hi⟩
    case round =>
      obtain ⟨i, hi', rfl, rfl, hG, hMr, hTr⟩ := hrel
      have HG := Lib.hid hG
      have HMr := Lib.hid hMr
      have HTr := Lib.hid hTr
      have hgs := hMr.1
      have HL := Lib.hid (markedI_length k zs)
      clear hG hMr hTr
      by_cases hlt : i < zs.length
      · obtain ⟨⟨v0, m0⟩, z0⟩ := HMr.out.2 i hlt
        have HGe := Lib.hid (markedI_get k zs i (by rw [markedI_length]; exact hlt))
        go_wp2
        go_roundw
        case rel =>
          refine ⟨i + 1, by omega, by go_num, by congr 1; omega, grown_set HG.out _, HMr.out.set _ _, ?_⟩
          exact IntsIn.snoc (zs := markedI k zs) (by rw [HL.out]; exact hlt) HTr.out (by rw [HL.out]; exact HMr.out) HGe.out
        case measure => simp [intOf]; omega
      · obtain rfl : i = zs.length := by omega
        go_wp2
        go_ret
        refine ⟨some g, rfl, HG.out, fun g' e => by cases e; exact ⟨hlo, hhi, H0.out, rfl⟩, .inr ⟨g, rfl, hlo, hhi, by rw [HL.out]; exact HMr.out, ?_⟩⟩
        have e := HTr.out
        rwa [List.take_of_length_le (by rw [HL.out]; exact Nat.le_refl _)] at e

theorem heldInt64S_row (lo hi : Nat) (a : Option Addr) (cap : Nat) (zs : List Int) (k : Int) (hk : 0 < k) (hk2 : k + (zs.length : Int) < 100000000) (w : World) (h : NewI lo hi w a (markedI k zs)) :
    Calls Try.prog 34 #[.slice a zs.length cap, .int .i64 k] w fun e w' => e = .returned (.int .i64 (k + zs.length)) ∧ Below w.heap.size w w' := by
  have H := Lib.hid h
  have HLn := Lib.hid (markedI_length k zs)
  clear h
  go_enter Try.func34, Try.ntmps34
  go_wp2
  go_loopw [1, 5] (fun vk vi wr => ∃ i : Nat, i ≤ zs.length ∧ vi = .int .i64 i ∧ vk = .int .i64 (k + i) ∧ Below w.heap.size w wr) (fun _ vi _ => zs.length - (intOf vi).toNat)
  case atStart => exact ⟨0, Nat.zero_le _, rfl, by simp, Below.refl _ _⟩
  case round =>
    obtain ⟨i, hi', rfl, rfl, hB⟩ := hrel
    by_cases hlt : i < zs.length
    · rcases H.out with h | ⟨g, rfl, hlo, hhi, hM, hT⟩
      · have := HLn.out; rw [h] at this; simp at this; omega
      have c0 := hT.below hB hM.1 i (by rw [HLn.out]; exact hlt)
      rw [markedI_get, Nat.zero_add] at c0
      have HB := Lib.hid hB
      clear hB hT hM
      have e0 : (0 : Int) ≤ (i : Int) := by omega
      have e1 : (i : Int) < (zs.length : Int) := by omega
      go_wp2
      go_roundw
      case rel => exact ⟨i + 1, by omega, by go_num, by congr 1; omega, ⟨HB.out.os, HB.out.tape, HB.out.output, HB.out.size, HB.out.block⟩⟩
      case measure => simp [intOf]; omega
    · obtain rfl : i = zs.length := by omega
      go_wp2
      go_ret
      exact ⟨rfl, hB⟩

theorem szInt64S_yes (a : Option Addr) (len cap : Nat) (left : Int) (hl : len ≤ maxLen) (h0 : (len : Int) ≤ left) (h1 : left ≤ 1048576) (w : World) :
    Calls Try.prog 40 #[.slice a len cap, .int .i64 left] w fun e w' => e = .returned (.int .i64 (left - len)) ∧ Below w.heap.size w w' := by
  unfold maxLen at hl
  go_enter Try.func40, Try.ntmps40
  go_wp2
  go_ret
  exact ⟨rfl, Below.refl _ _⟩
theorem szInt64S_no (a : Option Addr) (len cap : Nat) (left : Int) (hl : len ≤ maxLen) (h0 : left < (len : Int)) (h2 : 0 ≤ left) (h1 : left ≤ 1048576) (w : World) :
    Calls Try.prog 40 #[.slice a len cap, .int .i64 left] w fun e w' => e = .returned (.int .i64 (-1)) ∧ Below w.heap.size w w' := by
  unfold maxLen at hl
  go_enter Try.func40, Try.ntmps40
  go_wp2
  go_ret
  exact ⟨rfl, Below.refl _ _⟩
end Go.Proofs.Ytngpnbdndkddlaa
