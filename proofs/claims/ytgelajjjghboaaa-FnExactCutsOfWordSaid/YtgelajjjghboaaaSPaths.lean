/-
  Rows of rows of words (slices of slices of strings) in memory: compared, marked.
-/
import Derived.Test.YtgelajjjghboaaaPaths
import Derived.Test.YtgelajjjghboaaaWordsOf
namespace Go.Proofs.Ytgelajjjghboaaa
open Go.RowKit

theorem StrsIn.outside {lo hi : Nat} {w w' : World} {b off : Nat} {zs : List ByteArray} (h : StrsIn w b off zs) (hg : Outside lo hi w w') (hlt : b < w.heap.size) (ho : b < lo ∨ hi ≤ b) : StrsIn w' b off zs := fun i hi =>
  (hg.cell hlt ho).trans (h i hi)
/-- a row of words within bounds of blocks, or none -/
def SRowL (lo hi : Nat) (w : World) (a : Option Addr) (zs : List ByteArray) : Prop := zs = [] ∨ ∃ b off, a = some ⟨b, off, none⟩ ∧ lo ≤ b ∧ b < hi ∧ StrsIn w b off zs
theorem SRowL.srow {lo hi : Nat} {w : World} {a : Option Addr} {zs : List ByteArray} (h : SRowL lo hi w a zs) (hh : hi ≤ w.heap.size) : SRow w a zs := by
  rcases h with h | ⟨b, off, e, a1, a2, a3⟩
  · exact .inl h
  · exact .inr ⟨b, off, e, by omega, a3⟩
theorem SRowL.mono {lo hi lo' hi' : Nat} {w : World} {a : Option Addr} {zs : List ByteArray} (h : SRowL lo hi w a zs) (h1 : lo' ≤ lo) (h2 : hi ≤ hi') : SRowL lo' hi' w a zs := by
  rcases h with h | ⟨b, off, e, a1, a2, a3⟩
  · exact .inl h
  · exact .inr ⟨b, off, e, by omega, by omega, a3⟩
theorem SRowL.below {lo hi B : Nat} {w w' : World} {a : Option Addr} {zs : List ByteArray} (h : SRowL lo hi w a zs) (hb : Below B w w') (hh : hi ≤ B) : SRowL lo hi w' a zs := by
  rcases h with h | ⟨b, off, e, a1, a2, a3⟩
  · exact .inl h
  · exact .inr ⟨b, off, e, a1, a2, a3.below hb (by omega)⟩
theorem SRowL.outside {lo hi l h' : Nat} {w w' : World} {a : Option Addr} {zs : List ByteArray} (h : SRowL lo hi w a zs) (hg : Outside l h' w w') (hs : hi ≤ w.heap.size) (ho : hi ≤ l ∨ h' ≤ lo) : SRowL lo hi w' a zs := by
  rcases h with h | ⟨b, off, e, a1, a2, a3⟩
  · exact .inl h
  · exact .inr ⟨b, off, e, a1, a2, a3.outside hg (by omega) (by omega)⟩
theorem NewS.rowL {lo hi : Nat} {w : World} {a : Option Addr} {zs : List ByteArray} (h : NewS lo hi w a zs) : SRowL lo hi w a zs := by
  rcases h with h | ⟨g, h1, h2, h3, h4, h5⟩
  · exact .inl h
  · exact .inr ⟨g, 0, h1, h2, h3, h5⟩
theorem NewS.outside {lo hi l h' : Nat} {w w' : World} {a : Option Addr} {zs : List ByteArray} (h : NewS lo hi w a zs) (hg : Outside l h' w w') (ho : hi ≤ l ∨ h' ≤ lo) : NewS lo hi w' a zs := by
  rcases h with h | ⟨g, e, a1, a2, a3, a4⟩
  · exact .inl h
  · exact .inr ⟨g, e, a1, a2, hg.made a3 (by omega), a4.outside hg a3.1 (by omega)⟩
/-- only one block has been written, and the row lies elsewhere -/
theorem NewS.aside {lo hi : Nat} {w w' : World} {r : Option Nat} {a : Option Addr} {zs : List ByteArray} (h : NewS lo hi w a zs) (hg : w.grownBy w' r) (ho : ∀ g, r = some g → zs ≠ [] → a ≠ some ⟨g, 0, none⟩) : NewS lo hi w' a zs := by
  rcases h with h | ⟨b, e, a1, a2, a3, a4⟩
  · exact .inl h
  · by_cases h0 : zs = []
    · exact .inl h0
    · have hne : some b ≠ r := fun e2 => ho b e2.symm h0 e
      refine .inr ⟨b, e, a1, a2, ⟨Nat.lt_of_lt_of_le a3.1 hg.size, fun j hj => ?_⟩, fun i hi => ?_⟩
      · rw [World.cell?_of_block (a := ⟨b, j, none⟩) (hg.block b a3.1 hne), World.frozen?_of_block (a := ⟨b, j, none⟩) (hg.block b a3.1 hne)]; exact a3.2 j hj
      · rw [World.cell?_of_block (a := ⟨b, _, none⟩) (hg.block b a3.1 hne)]; exact a4 i hi
theorem markedS_nil {k : Int} {ss : List ByteArray} : markedS k ss = [] ↔ ss = [] := by cases ss <;> simp [markedS]
/-- marking, with more said of the block that is written -/
def MarkSR2 (lo hi : Nat) (a : Option Addr) (ss : List ByteArray) (k : Int) (W : World) (e : Ending) (w' : World) : Prop :=
  ∃ r : Option Nat, e = .returned (.int .i64 (k + ss.length)) ∧ W.grownBy w' r ∧ (∀ g, r = some g → lo ≤ g ∧ g < hi ∧ ss ≠ [] ∧ a = some ⟨g, 0, none⟩) ∧ NewS lo hi w' a (markedS k ss)
theorem markStringS_row2 (lo hi : Nat) (a : Option Addr) (cap : Nat) (ss : List ByteArray) (k : Int) (hk : 0 < k) (hk2 : k + (ss.length : Int) < 100000000) (w : World) (h : NewS lo hi w a ss) :
    Calls Try.prog 22 #[.slice a ss.length cap, .int .i64 k] w (MarkSR2 lo hi a ss k w) := by
  by_cases h0 : ss = []
  · subst h0
    refine (markStringS_row 0 0 a cap [] k hk hk2 w (.inl rfl)).mono ?_
    rintro e w' ⟨r, rfl, hG, hr, hN⟩
    exact ⟨r, rfl, hG, fun g e => absurd (hr g e).2 (Nat.not_lt_zero _), .inl rfl⟩
  · rcases h with h | ⟨g, rfl, hlo, hhi, hM, hT⟩
    · exact absurd h h0
    · refine (markStringS_row g (g + 1) _ cap ss k hk hk2 w (.inr ⟨g, rfl, Nat.le_refl _, Nat.lt_succ_self _, hM, hT⟩)).mono ?_
      rintro e w' ⟨r, rfl, hG, hr, hN⟩
      refine ⟨r, rfl, hG, fun g' e => ?_, hN.mono hlo (by omega)⟩
      have := hr g' e
      obtain rfl : g' = g := by omega
      exact ⟨hlo, hhi, h0, rfl⟩

/-- how many numbers the rows have together -/
def flatS : List (List ByteArray) → Nat
  | [] => 0
  | z :: r => z.length + flatS r
theorem flatS_append : ∀ (xs ys : List (List ByteArray)), flatS (xs ++ ys) = flatS xs + flatS ys
  | [], ys => by simp [flatS]
  | x :: r, ys => by simp [flatS, flatS_append r ys]; omega
theorem flatS_take {ps : List (List ByteArray)} {k : Nat} (h : k < ps.length) : flatS (ps.take (k + 1)) = flatS (ps.take k) + (ps[k]).length := by
  rw [List.take_succ_eq_append_getElem h, flatS_append]; simp [flatS]
theorem flatS_take_le (ps : List (List ByteArray)) (k : Nat) : flatS (ps.take k) ≤ flatS ps := by
  have h := flatS_append (ps.take k) (ps.drop k)
  rw [List.take_append_drop] at h
  omega
theorem flatS_get {ps : List (List ByteArray)} {k : Nat} (h : k < ps.length) : flatS (ps.take k) + (ps[k]).length ≤ flatS ps := by
  have h1 := flatS_take_le ps (k + 1)
  rw [flatS_take h] at h1
  exact h1
theorem flatS_one {ps : List (List ByteArray)} {k : Nat} (h : k < ps.length) : (ps[k]).length ≤ flatS ps := by have := flatS_get h; omega

/-- rows of numbers in a row of cells of block `b` from `off` on -/
def SPathIn (lo hi : Nat) (w : World) (b off : Nat) (ps : List (List ByteArray)) : Prop := ∀ i (h : i < ps.length), ∃ a c, w.cell? ⟨b, off + i, none⟩ = some (.slice a (ps[i]).length c) ∧ SRowL lo hi w a ps[i]
/-- a row of rows of numbers within bounds of blocks, or none -/
def SPRow (lo hi : Nat) (w : World) (a : Option Addr) (ps : List (List ByteArray)) : Prop := ps = [] ∨ ∃ b off, a = some ⟨b, off, none⟩ ∧ lo ≤ b ∧ b < hi ∧ SPathIn lo hi w b off ps
theorem SPRow.mono {lo hi lo' hi' : Nat} {w : World} {a : Option Addr} {ps : List (List ByteArray)} (h : SPRow lo hi w a ps) (h1 : lo' ≤ lo) (h2 : hi ≤ hi') : SPRow lo' hi' w a ps := by
  rcases h with h | ⟨b, off, e, a1, a2, a3⟩
  · exact .inl h
  · exact .inr ⟨b, off, e, by omega, by omega, fun i hi => by obtain ⟨a, c, q, r⟩ := a3 i hi; exact ⟨a, c, q, r.mono h1 h2⟩⟩
theorem SPRow.below {lo hi B : Nat} {w w' : World} {a : Option Addr} {ps : List (List ByteArray)} (h : SPRow lo hi w a ps) (hb : Below B w w') (hh : hi ≤ B) : SPRow lo hi w' a ps := by
  rcases h with h | ⟨b, off, e, a1, a2, a3⟩
  · exact .inl h
  · exact .inr ⟨b, off, e, a1, a2, fun i hi => by obtain ⟨a, c, q, r⟩ := a3 i hi; exact ⟨a, c, (hb.cell (p := ⟨b, _, none⟩) (by show b < B; omega)).trans q, r.below hb hh⟩⟩
theorem SPRow.outside {lo hi l h' : Nat} {w w' : World} {a : Option Addr} {ps : List (List ByteArray)} (h : SPRow lo hi w a ps) (hg : Outside l h' w w') (hs : hi ≤ w.heap.size) (ho : hi ≤ l ∨ h' ≤ lo) : SPRow lo hi w' a ps := by
  rcases h with h | ⟨b, off, e, a1, a2, a3⟩
  · exact .inl h
  · exact .inr ⟨b, off, e, a1, a2, fun i hi => by obtain ⟨a, c, q, r⟩ := a3 i hi; exact ⟨a, c, (hg.cell (by omega) (by omega)).trans q, r.outside hg hs ho⟩⟩
/-- one row of a path that has it -/
theorem SPRow.get {lo hi B : Nat} {w w' : World} {a : Option Addr} {ps : List (List ByteArray)} (h : SPRow lo hi w a ps) (hb : Below B w w') (hh : hi ≤ B) {k : Nat} (hk : k < ps.length) :
    ∃ b off a' c, a = some ⟨b, off, none⟩ ∧ w'.cell? ⟨b, off + k, none⟩ = some (.slice a' (ps[k]).length c) ∧ SRowL lo hi w' a' ps[k] := by
  rcases (h.below hb hh) with h | ⟨b, off, e, a1, a2, a3⟩
  · rw [h] at hk; simp at hk
  · obtain ⟨a', c, q, r⟩ := a3 k hk
    exact ⟨b, off, a', c, e, q, r⟩
theorem SPRow.getB {lo hi B : Nat} {w w' : World} {a : Option Addr} {ps : List (List ByteArray)} (h : SPRow lo hi w a ps) (hb : Below B w w') (hh : hi ≤ B) {k : Nat} (hk : k < ps.length) :
    ∃ b off a' c, a = some ⟨b, off, none⟩ ∧ b < hi ∧ w'.cell? ⟨b, off + k, none⟩ = some (.slice a' (ps[k]).length c) ∧ SRowL lo hi w' a' ps[k] := by
  rcases (h.below hb hh) with h | ⟨b, off, e, a1, a2, a3⟩
  · rw [h] at hk; simp at hk
  · obtain ⟨a', c, q, r⟩ := a3 k hk
    exact ⟨b, off, a', c, e, a2, q, r⟩

/-- a new row of rows of numbers within bounds, whose rows are apart and may be written -/
def NewSP (lo hi : Nat) (w : World) (a : Option Addr) (ps : List (List ByteArray)) : Prop :=
  ps = [] ∨ ∃ (g : Nat) (G : Nat → Option Addr) (C : Nat → Nat), a = some ⟨g, 0, none⟩ ∧ lo ≤ g ∧ g < hi ∧ Made w g ps.length ∧
    (∀ i (h : i < ps.length), w.cell? ⟨g, i, none⟩ = some (.slice (G i) (ps[i]).length (C i)) ∧ NewS lo hi w (G i) ps[i] ∧ (ps[i] ≠ [] → G i ≠ some ⟨g, 0, none⟩)) ∧
    ∀ i j (hi : i < ps.length) (hj : j < ps.length), i ≠ j → ps[i] ≠ [] → ps[j] ≠ [] → G i ≠ G j
theorem NewSP.row {lo hi : Nat} {w : World} {a : Option Addr} {ps : List (List ByteArray)} (h : NewSP lo hi w a ps) : SPRow lo hi w a ps := by
  rcases h with h | ⟨g, G, C, e, a1, a2, a3, a4, a5⟩
  · exact .inl h
  · exact .inr ⟨g, 0, e, a1, a2, fun i hi => ⟨G i, C i, by rw [Nat.zero_add]; exact (a4 i hi).1, (a4 i hi).2.1.rowL⟩⟩
theorem NewSP.mono {lo hi lo' hi' : Nat} {w : World} {a : Option Addr} {ps : List (List ByteArray)} (h : NewSP lo hi w a ps) (h1 : lo' ≤ lo) (h2 : hi ≤ hi') : NewSP lo' hi' w a ps := by
  rcases h with h | ⟨g, G, C, e, a1, a2, a3, a4, a5⟩
  · exact .inl h
  · exact .inr ⟨g, G, C, e, by omega, by omega, a3, fun i hi => ⟨(a4 i hi).1, (a4 i hi).2.1.mono h1 h2, (a4 i hi).2.2⟩, a5⟩
theorem NewSP.below {lo hi B : Nat} {w w' : World} {a : Option Addr} {ps : List (List ByteArray)} (h : NewSP lo hi w a ps) (hb : Below B w w') (hh : hi ≤ B) : NewSP lo hi w' a ps := by
  rcases h with h | ⟨g, G, C, e, a1, a2, a3, a4, a5⟩
  · exact .inl h
  · exact .inr ⟨g, G, C, e, a1, a2, a3.below hb (by omega), fun i hi => ⟨(hb.cell (p := ⟨g, _, none⟩) (by show g < B; omega)).trans (a4 i hi).1, (a4 i hi).2.1.below hb hh, (a4 i hi).2.2⟩, a5⟩
theorem NewSP.outside {lo hi l h' : Nat} {w w' : World} {a : Option Addr} {ps : List (List ByteArray)} (h : NewSP lo hi w a ps) (hg : Outside l h' w w') (ho : hi ≤ l ∨ h' ≤ lo) : NewSP lo hi w' a ps := by
  rcases h with h | ⟨g, G, C, e, a1, a2, a3, a4, a5⟩
  · exact .inl h
  · exact .inr ⟨g, G, C, e, a1, a2, hg.made a3 (by omega), fun i hi => ⟨(hg.cell a3.1 (by omega)).trans (a4 i hi).1, (a4 i hi).2.1.outside hg ho, (a4 i hi).2.2⟩, a5⟩

theorem eqStringSS_row (lo1 hi1 lo2 hi2 : Nat) (a1 a2 : Option Addr) (c1 c2 : Nat) (ps : List (List ByteArray)) (hl : ps.length ≤ 1048576) (hs : flatS ps ≤ 1048576) (w : World) (h1 : SPRow lo1 hi1 w a1 ps) (h2 : SPRow lo2 hi2 w a2 ps) (hh1 : hi1 ≤ w.heap.size) (hh2 : hi2 ≤ w.heap.size) :
    Calls Try.prog 30 #[.slice a1 ps.length c1, .slice a2 ps.length c2] w fun e w' => e = .returned (.bool true) ∧ Below w.heap.size w w' := by
  have H1 := Lib.hid h1
  have H2 := Lib.hid h2
  clear h1 h2
  go_enter Try.func30, Try.ntmps30
  go_wp2
  go_loopw [5] (fun vi wr => ∃ k : Nat, k ≤ ps.length ∧ vi = .int .i64 k ∧ Below w.heap.size w wr) (fun i _ => ps.length - (intOf i).toNat)
  case atStart => exact ⟨0, Nat.zero_le _, rfl, Below.refl _ _⟩
  case round =>
    obtain ⟨k, hk, rfl, hB⟩ := hrel
    by_cases hlt : k < ps.length
    · obtain ⟨b1, o1, x1, y1, rfl, d1, I1⟩ := H1.out.get hB hh1 hlt
      obtain ⟨b2, o2, x2, y2, rfl, d2, I2⟩ := H2.out.get hB hh2 hlt
      have hzl : (ps[k]).length ≤ 1048576 := by have := flatS_one hlt; omega
      have HI1 := Lib.hid I1
      have HI2 := Lib.hid I2
      have HSz := Lib.hid hB.size
      obtain ⟨z, hez⟩ : ∃ z, ps[k] = z := ⟨_, rfl⟩
      rw [hez] at d1 d2 hzl HI1 HI2
      have hHB := Lib.hid hB
      clear hez hB I1 I2
      go_upto_region 6 with fail
      go_cut [26] (fun s26 wc => s26 = .bool false ∧ Below wr.heap.size wr wc)
      case first =>
        go_region_with (go_at_call 21; refine (eqStringS_row x1 x2 y1 y2 z hzl wr.drew (HI1.out.srow (show hi1 ≤ wr.heap.size by have := HSz.out; omega)) (HI2.out.srow (show hi2 ≤ wr.heap.size by have := HSz.out; omega))).mono ?_; rintro e w1 ⟨rfl, hb1⟩)
        all_goals (go_wp2_with fail; go_meet)
        all_goals exact ⟨rfl, ⟨hb1.os, hb1.tape, hb1.output, hb1.size, hb1.block⟩⟩
      case rest =>
        obtain ⟨rfl, hBc⟩ := hcut
        have hB1 := hHB.out.trans (hBc.mono hHB.out.size)
        clear d1 d2 hBc
        go_wp2
        go_roundw
        case rel => exact ⟨k + 1, by omega, by go_num, hB1⟩
        case measure => simp [intOf]; omega
    · go_wp2
      go_ret
      exact ⟨rfl, hB⟩

/-- the path that marking leaves, from `k` on -/
def markedSP (k : Int) : List (List ByteArray) → List (List ByteArray)
  | [] => []
  | z :: r => markedS k z :: markedSP (k + z.length) r
theorem markedSP_length : ∀ (k : Int) (ps : List (List ByteArray)), (markedSP k ps).length = ps.length
  | _, [] => rfl
  | k, _ :: r => by simp [markedSP, markedSP_length _ r]
theorem markedSP_get : ∀ (k : Int) (ps : List (List ByteArray)) (i : Nat) (h : i < (markedSP k ps).length), (markedSP k ps)[i] = markedS (k + flatS (ps.take i)) (ps[i]'(by rw [markedSP_length] at h; exact h))
  | _, [], i, h => by simp [markedSP] at h
  | k, _ :: r, 0, _ => by simp [markedSP, flatS]
  | k, z :: r, i + 1, h => by
    have hi : i < (markedSP (k + z.length) r).length := by simpa [markedSP] using h
    have e := markedSP_get (k + z.length) r i hi
    have e2 : k + (z.length : Int) + (flatS (r.take i) : Int) = k + ((z.length + flatS (r.take i) : Nat) : Int) := by omega
    rw [e2] at e
    simpa [markedSP, flatS] using e
theorem markedSP_nil {k : Int} {ps : List (List ByteArray)} : markedSP k ps = [] ↔ ps = [] := by cases ps <;> simp [markedSP]

/-- what marking comes to: nothing outside of the bounds has changed -/
def MarkSPR (lo hi : Nat) (a : Option Addr) (ps' : List (List ByteArray)) (k' : Int) (W : World) (e : Ending) (w' : World) : Prop :=
  e = .returned (.int .i64 k') ∧ Outside lo hi W w' ∧ NewSP lo hi w' a ps'

/-- a path of which the first `i` rows are marked -/
def HalfSP (lo hi g : Nat) (G : Nat → Option Addr) (C : Nat → Nat) (w : World) (k : Int) (ps : List (List ByteArray)) (i : Nat) : Prop :=
  Made w g ps.length ∧ ∀ j (h : j < ps.length), w.cell? ⟨g, j, none⟩ = some (.slice (G j) (ps[j]).length (C j)) ∧ NewS lo hi w (G j) (if j < i then markedS (k + flatS (ps.take j)) ps[j] else ps[j])
theorem HalfSP.step {lo hi g : Nat} {G : Nat → Option Addr} {C : Nat → Nat} {w w' : World} {k : Int} {ps : List (List ByteArray)} {i : Nat} (h : HalfSP lo hi g G C w k ps i) (hi' : i < ps.length)
    (ho : ∀ i (h : i < ps.length), ps[i] ≠ [] → G i ≠ some ⟨g, 0, none⟩) (hd : ∀ i j (hi : i < ps.length) (hj : j < ps.length), i ≠ j → ps[i] ≠ [] → ps[j] ≠ [] → G i ≠ G j)
    {r : Option Nat} (hG : w.grownBy w' r) (hr : ∀ g, r = some g → lo ≤ g ∧ g < hi ∧ ps[i] ≠ [] ∧ G i = some ⟨g, 0, none⟩) (hN : NewS lo hi w' (G i) (markedS (k + flatS (ps.take i)) ps[i])) : HalfSP lo hi g G C w' k ps (i + 1) := by
  obtain ⟨hM, hc⟩ := h
  have hrg : some g ≠ r := fun e => by
    obtain ⟨_, _, h0, e2⟩ := hr g e.symm
    exact ho i hi' h0 e2
  refine ⟨⟨Nat.lt_of_lt_of_le hM.1 hG.size, fun j hj => by rw [World.cell?_of_block (a := ⟨g, j, none⟩) (hG.block g hM.1 hrg), World.frozen?_of_block (a := ⟨g, j, none⟩) (hG.block g hM.1 hrg)]; exact hM.2 j hj⟩, fun j hj => ⟨?_, ?_⟩⟩
  · rw [World.cell?_of_block (a := ⟨g, j, none⟩) (hG.block g hM.1 hrg)]; exact (hc j hj).1
  · by_cases e : j = i
    · subst e
      rw [if_pos (by omega)]; exact hN
    · have q := (hc j hj).2
      have key : ∀ zs : List ByteArray, (zs ≠ [] → ps[j] ≠ []) → NewS lo hi w (G j) zs → NewS lo hi w' (G j) zs := fun zs hz hq =>
        hq.aside hG fun x hx h0 e2 => by
          obtain ⟨_, _, h1, e3⟩ := hr x hx
          exact hd j i hj hi' e (hz h0) h1 (e2.trans e3.symm)
      by_cases hlt : j < i
      · rw [if_pos hlt] at q; rw [if_pos (by omega)]
        exact key _ (fun h0 h1 => h0 (by rw [h1]; rfl)) q
      · rw [if_neg hlt] at q; rw [if_neg (by omega)]
        exact key _ (fun h0 => h0) q

theorem markStringSS_row (lo hi : Nat) (a : Option Addr) (cap : Nat) (ps : List (List ByteArray)) (k : Int) (hk : 0 < k) (hk2 : k + (flatS ps : Int) < 100000000) (hl : ps.length ≤ 1048576) (w : World) (h : NewSP lo hi w a ps) :
    Calls Try.prog 31 #[.slice a ps.length cap, .int .i64 k] w (MarkSPR lo hi a (markedSP k ps) (k + flatS ps) w) := by
  by_cases h0 : ps = []
  · subst h0
    clear hk2 h
    go_enter Try.func31, Try.ntmps31
    go_wp2
    go_loopw [1, 5] (fun vk vi wr => vk = .int .i64 k ∧ vi = .int .i64 0 ∧ wr = w) (fun _ _ _ => 0)
    case atStart => exact ⟨rfl, rfl, rfl⟩
    case round =>
      obtain ⟨rfl, rfl, rfl⟩ := hrel
      go_wp2
      go_ret
      exact ⟨by simp [flatS], Outside.refl _ _ _, .inl rfl⟩
  · rcases h with h | ⟨g, G, C, rfl, h1, h2, hM, hc, hd⟩
    · exact absurd h h0
    have HH := Lib.hid (show HalfSP lo hi g G C w k ps 0 from ⟨hM, fun j hj => ⟨(hc j hj).1, by rw [if_neg (by omega)]; exact (hc j hj).2.1⟩⟩)
    have HO := Lib.hid (fun i (h : i < ps.length) => (hc i h).2.2)
    have HD := Lib.hid hd
    clear hM hc hd h0
    go_enter Try.func31, Try.ntmps31
    go_wp2
    go_loopw [1, 5] (fun vk vi wr => ∃ (i : Nat) (m : Int), i ≤ ps.length ∧ vi = .int .i64 i ∧ vk = .int .i64 m ∧ Hid (m = k + flatS (ps.take i)) ∧ Outside lo hi w wr ∧ HalfSP lo hi g G C wr k ps i) (fun _ vi _ => ps.length - (intOf vi).toNat)
    case atStart => exact ⟨0, k, Nat.zero_le _, rfl, rfl, Lib.hid (by simp [flatS]), Outside.refl _ _ _, HH.out⟩
    case round =>
      obtain ⟨i, m, hi', rfl, rfl, hm, hOut, hHalf⟩ := hrel
      have HOut := Lib.hid hOut
      have HHf := Lib.hid hHalf
      clear hOut hHalf
      by_cases hlt : i < ps.length
      · obtain ⟨c0, hN⟩ := HHf.out.2 i hlt
        rw [if_neg (by omega)] at hN
        have HN := Lib.hid hN
        have hzl : m + ((ps[i]).length : Int) < 100000000 := by have := flatS_get hlt; have := hm.out; omega
        have hm0 : 0 < m := by have := hm.out; omega
        have HF := Lib.hid (flatS_take hlt)
        obtain ⟨z, hez⟩ : ∃ z, ps[i] = z := ⟨_, rfl⟩
        have HE := Lib.hid hez
        rw [hez] at c0 hzl HN HF
        clear hez hN
        go_wp2_with fail
        refine (markStringS_row2 lo hi (G i) (C i) z m hm0 hzl _ HN.out).mono ?_
        rintro e w1 ⟨r, rfl, hG1, hr1, hN1⟩
        have HH1 := Lib.hid (HHf.out.step hlt HO.out HD.out hG1 (by rw [HE.out]; exact hr1) (by rw [HE.out, ← hm.out]; exact hN1))
        have HO1 := Lib.hid (HOut.out.trans (.of_grown hG1 (fun g h => ⟨(hr1 g h).1, (hr1 g h).2.1⟩)))
        clear hG1 hr1 hN1 c0
        go_wp2
        go_roundw
        case rel => exact ⟨i + 1, m + z.length, by omega, by go_num, rfl, Lib.hid (by rw [HF.out, hm.out]; omega), HO1.out, HH1.out⟩
        case measure => simp [intOf]; omega
      · obtain rfl : i = ps.length := by omega
        have HL := Lib.hid (markedSP_length k ps)
        go_wp2
        go_ret
        refine ⟨ret_int (by rw [hm.out, List.take_length]), HOut.out, .inr ⟨g, G, C, rfl, h1, h2, by rw [HL.out]; exact HHf.out.1, fun j hj => ?_, fun i j hi hj hne a b => ?_⟩⟩
        · have hj' : j < ps.length := by rw [← HL.out]; exact hj
          obtain ⟨q1, q2⟩ := HHf.out.2 j hj'
          rw [if_pos hj'] at q2
          rw [markedSP_get, markedS_length]
          exact ⟨q1, q2, fun h0 => HO.out j hj' (fun e => h0 (markedS_nil.2 e))⟩
        · rw [markedSP_get] at a b
          exact HD.out i j (by rw [← HL.out]; exact hi) (by rw [← HL.out]; exact hj) hne (fun e => a (markedS_nil.2 e)) (fun e => b (markedS_nil.2 e))

theorem heldStringSS_row (lo hi : Nat) (a : Option Addr) (cap : Nat) (ps : List (List ByteArray)) (k : Int) (hk : 0 < k) (hk2 : k + (flatS ps : Int) < 100000000) (hl : ps.length ≤ 1048576) (w : World) (h : NewSP lo hi w a (markedSP k ps)) :
    Calls Try.prog 32 #[.slice a ps.length cap, .int .i64 k] w fun e w' => e = .returned (.int .i64 (k + flatS ps)) ∧ Below w.heap.size w w' := by
  have H := Lib.hid h
  have HLn := Lib.hid (markedSP_length k ps)
  clear h
  go_enter Try.func32, Try.ntmps32
  go_wp2
  go_loopw [1, 5] (fun vk vi wr => ∃ (i : Nat) (m : Int), i ≤ ps.length ∧ vi = .int .i64 i ∧ vk = .int .i64 m ∧ Hid (m = k + flatS (ps.take i)) ∧ Below w.heap.size w wr) (fun _ vi _ => ps.length - (intOf vi).toNat)
  case atStart => exact ⟨0, k, Nat.zero_le _, rfl, rfl, Lib.hid (by simp [flatS]), Below.refl _ _⟩
  case round =>
    obtain ⟨i, m, hi', rfl, rfl, hm, hB⟩ := hrel
    by_cases hlt : i < ps.length
    · rcases H.out with h | ⟨g, G, C, rfl, h1, h2, hM, hc, hd⟩
      · have := HLn.out; rw [h] at this; simp at this; omega
      obtain ⟨q1, q2, _⟩ := hc i (by rw [HLn.out]; exact hlt)
      rw [markedSP_get, markedS_length] at q1
      rw [markedSP_get, ← hm.out] at q2
      have c0 := (hB.cell (p := ⟨g, i, none⟩) hM.1).trans q1
      have HB := Lib.hid hB
      have HN := Lib.hid (q2.aside (w' := wr) (r := none) ⟨hB.os, hB.tape, hB.output, hB.size, fun k hk _ => hB.block k hk⟩ (fun g h => by cases h))
      have hzl : m + ((ps[i]).length : Int) < 100000000 := by have := flatS_get hlt; have := hm.out; omega
      have hm0 : 0 < m := by have := hm.out; omega
      have HF := Lib.hid (flatS_take hlt)
      obtain ⟨z, hez⟩ : ∃ z, ps[i] = z := ⟨_, rfl⟩
      rw [hez] at c0 hzl HN HF
      clear hez hB hM hc hd q1 q2
      have e0 : (0 : Int) ≤ (i : Int) := by omega
      have e1 : (i : Int) < (ps.length : Int) := by omega
      go_wp2_with fail
      refine (heldStringS_row lo hi (G i) (C i) z m hm0 hzl _ HN.out).mono ?_
      rintro e w1 ⟨rfl, hb1⟩
      have HB1 := Lib.hid (HB.out.trans (hb1.mono HB.out.size))
      clear hb1 c0
      have hp : 0 ≤ m + (z.length : Int) := by omega
      go_wp2
      go_roundw
      case rel => exact ⟨i + 1, m + z.length, by omega, by go_num, rfl, Lib.hid (by rw [HF.out, hm.out]; omega), HB1.out⟩
      case measure => simp [intOf]; omega
    · obtain rfl : i = ps.length := by omega
      go_wp2
      go_ret
      exact ⟨ret_int (by rw [hm.out, List.take_length]), hB⟩

end Go.Proofs.Ytgelajjjghboaaa
