/-
  Contracts of WithoutBeginning and WithoutEnd, of the program and of its model: both return the same series and code.
-/
import Derived.Test.YtjciadbmpkkgdaaWo
import Derived.Test.YtjciadbmpkkgdaaWoM
import Derived.Test.YtjciadbmpkkgdaaImpIs
import Derived.Test.YtjciadbmpkkgdaaShelf
import Derived.Shelf.Abstract
namespace Go.Proofs.Ytjciadbmpkkgdaa
open Go.RowKit

def codeW (L V : Int) (ts : List Tm) (u : ByteArray) : Int := if serB L V ts then (if decide ((u.size : Int) ≤ V) && wordB L u.data.toList then 0 else 2) else 1

theorem cutB_val (u s : ByteArray) : (⟨(Lib.trimPrefix s.data.toList u.data.toList).toArray⟩ : ByteArray) = (cutB u s).getD s ∧ Lib.hasPrefix s.data.toList u.data.toList = (cutB u s).isSome := by
  unfold cutB Lib.trimPrefix
  cases h : Lib.hasPrefix s.data.toList u.data.toList with
  | false => exact ⟨rfl, rfl⟩
  | true =>
    refine ⟨?_, rfl⟩
    rw [if_pos rfl, if_pos rfl]
    apply ByteArray.ext
    apply Array.toList_inj.1
    rw [Option.getD_some, Lib.extract_data]
    have e : u.size = u.data.toList.length := Lib.size_eq u
    have e2 : s.size = s.data.toList.length := Lib.size_eq s
    rw [e, e2]
    rw [List.take_of_length_le (by simp)]
theorem cutE_val (u s : ByteArray) : (⟨(Lib.trimSuffix s.data.toList u.data.toList).toArray⟩ : ByteArray) = (cutE u s).getD s ∧ Lib.hasSuffix s.data.toList u.data.toList = (cutE u s).isSome := by
  unfold cutE Lib.trimSuffix
  cases h : Lib.hasSuffix s.data.toList u.data.toList with
  | false => exact ⟨rfl, rfl⟩
  | true =>
    refine ⟨?_, rfl⟩
    rw [if_pos rfl, if_pos rfl]
    apply ByteArray.ext
    apply Array.toList_inj.1
    rw [Option.getD_some, Lib.extract_data]
    have e : u.size = u.data.toList.length := Lib.size_eq u
    have e2 : s.size = s.data.toList.length := Lib.size_eq s
    rw [e, e2]
    simp

set_option maxHeartbeats 2000000 in
theorem l07Word_c (L V : Int) (g : Nat) (ts : List Tm) (u : ByteArray) (hu : u.size ≤ maxLen) (hl : ts.length ≤ 1048576) (hs : ∀ i (h : i < ts.length), (ts[i]).s.size ≤ maxLen) (w : World) (hb : g < w.heap.size) (ht : TermsIn w g 0 ts) :
    Calls Try.prog 65 #[.agg #[.int .i64 L, .int .i64 V, .slice (some ⟨g, 0, none⟩) ts.length ts.length], .string u] w fun e w' => e = .returned (.int .i64 (codeW L V ts u)) ∧ Below w.heap.size w w' := by
  have HT := Lib.hid ht
  have HS := Lib.hid hs
  clear ht hs
  obtain ⟨c, hcd⟩ : ∃ c, codeW L V ts u = c := ⟨_, rfl⟩
  rw [hcd]
  have HC := Lib.hid hcd
  clear hcd
  go_enter Try.func65, Try.ntmps65
  go_wp2_with fail
  refine (l01Is_c L V g 0 _ ts hl HS.out _ (by simp; omega) (HT.out.below (below1 w _) hb)).mono ?_
  rintro e w1 ⟨rfl, hb1⟩
  have hB := hb1
  simp only [World.size_alloc] at hB
  obtain ⟨hc, hf⟩ := bcellB hB
  have x0 : w1.cell? ⟨w.heap.size, 0, none⟩ = some (.int .i64 L) := (hc _ _ (by omega)).trans (by go_simp)
  have x1 : w1.cell? ⟨w.heap.size, 1, none⟩ = some (.int .i64 V) := (hc _ _ (by omega)).trans (by go_simp)
  have hW : Below w.heap.size w w1 := (below1 w _).trans (hb1.mono (by simp))
  clear hb1 hB
  cases h1 : serB L V ts with
  | false =>
    go_wp2
    go_ret
    exact ⟨by rw [← HC.out]; simp [codeW, h1], by go_grown⟩
  | true =>
    cases h2 : wordB L u.data.toList with
    | false =>
      go_wp2_with (go_at_call 45; refine (l01Word_c L u hu _).mono ?_; rw [h2]; rintro e w' ⟨rfl, rfl⟩)
      go_ret
      exact ⟨by rw [← HC.out]; simp [codeW, h1, h2], by go_grown⟩
    | true =>
      by_cases h3 : (u.size : Int) ≤ V
      · go_wp2_with (go_at_call 45; refine (l01Word_c L u hu _).mono ?_; rw [h2]; rintro e w' ⟨rfl, rfl⟩)
        go_ret
        exact ⟨by rw [← HC.out]; simp [codeW, h1, h2, h3], by go_grown⟩
      · go_wp2_with (go_at_call 45; refine (l01Word_c L u hu _).mono ?_; rw [h2]; rintro e w' ⟨rfl, rfl⟩)
        go_ret
        exact ⟨by rw [← HC.out]; simp [codeW, h1, h2, h3], by go_grown⟩

set_option maxRecDepth 100000 in
set_option maxHeartbeats 4000000 in
theorem scutB_err (L V : Int) (g : Nat) (ts : List Tm) (u : ByteArray) (hu : u.size ≤ maxLen) (c : Int) (hcw : codeW L V ts u = c) (hc0 : c ≠ 0) (hl : ts.length ≤ 1048576) (hs : ∀ i (h : i < ts.length), (ts[i]).s.size ≤ maxLen) (w : World) (hb : g < w.heap.size) (ht : TermsIn w g 0 ts) :
    Calls Try.prog 30 #[.agg #[.int .i64 L, .int .i64 V, .slice (some ⟨g, 0, none⟩) ts.length ts.length], .string u] w (SerPost 0 0 [] c w) := by
  have HT := Lib.hid ht
  have HS := Lib.hid hs
  clear ht hs
  go_enter Try.func30, Try.ntmps30
  go_wp2_with fail
  refine (l07Word_c L V g ts u hu hl HS.out _ (by simp; omega) (HT.out.below (below2 w _ _) hb)).mono ?_
  rw [hcw]
  rintro e w1 ⟨rfl, hb1⟩
  have hB := hb1
  simp only [World.size_alloc] at hB
  obtain ⟨hc, hf⟩ := bcellB hB
  have r0 : w1.cell? ⟨w.heap.size + 1, 0, none⟩ = some (.int .i64 0) := (hc _ _ (by omega)).trans (by go_simp)
  have r1 : w1.cell? ⟨w.heap.size + 1, 1, none⟩ = some (.int .i64 0) := (hc _ _ (by omega)).trans (by go_simp)
  have r2 : w1.cell? ⟨w.heap.size + 1, 2, none⟩ = some (.slice none 0 0) := (hc _ _ (by omega)).trans (by go_simp)
  have z0 : w1.frozen? ⟨w.heap.size + 1, 0, none⟩ = false := (hf _ _ (by omega)).trans (by go_simp)
  have z1 : w1.frozen? ⟨w.heap.size + 1, 1, none⟩ = false := (hf _ _ (by omega)).trans (by go_simp)
  have z2 : w1.frozen? ⟨w.heap.size + 1, 2, none⟩ = false := (hf _ _ (by omega)).trans (by go_simp)
  have hW : Below w.heap.size w w1 := (below2 w _ _).trans (hb1.mono (by simp; omega))
  clear hb1 hB hcw
  go_wp2
  exact bodyPost_ret (v := .tuple #[.agg #[.int .i64 0, .int .i64 0, .slice none 0 0], .int .i64 c]) (by simp [results, Try.results30, go_sem, r0, r1, r2]) rfl (SerPost.err c rfl (by go_grown))
set_option maxRecDepth 100000 in
set_option maxHeartbeats 4000000 in
theorem scutB_ok (L V : Int) (g : Nat) (ts : List Tm) (u : ByteArray) (hu : u.size ≤ 5) (h1 : serB L V ts = true) (hcw : codeW L V ts u = 0) (hl : ts.length ≤ 1048576) (hs : ∀ i (h : i < ts.length), (ts[i]).s.size ≤ maxLen) (w : World) (hb : g < w.heap.size) (ht : TermsIn w g 0 ts) :
    Calls Try.prog 30 #[.agg #[.int .i64 L, .int .i64 V, .slice (some ⟨g, 0, none⟩) ts.length ts.length], .string u] w (SerPost L V (pickL (cutB u) ts) 0 w) := by
  have HT := Lib.hid ht
  have HS := Lib.hid hs
  clear ht hs
  go_enter Try.func30, Try.ntmps30
  go_wp2_with fail
  refine (l07Word_c L V g ts u (by unfold maxLen; omega) hl HS.out _ (by simp; omega) (HT.out.below (below2 w _ _) hb)).mono ?_
  rw [hcw]
  rintro e w1 ⟨rfl, hb1⟩
  have hB := hb1
  simp only [World.size_alloc] at hB
  obtain ⟨hc, hf⟩ := bcellB hB
  have x0 : w1.cell? ⟨w.heap.size, 0, none⟩ = some (.int .i64 L) := (hc _ _ (by omega)).trans (by go_simp)
  have x1 : w1.cell? ⟨w.heap.size, 1, none⟩ = some (.int .i64 V) := (hc _ _ (by omega)).trans (by go_simp)
  have x2 : w1.cell? ⟨w.heap.size, 2, none⟩ = some (.slice (some ⟨g, 0, none⟩) ts.length ts.length) := (hc _ _ (by omega)).trans (by go_simp)
  have r0 : w1.cell? ⟨w.heap.size + 1, 0, none⟩ = some (.int .i64 0) := (hc _ _ (by omega)).trans (by go_simp)
  have r1 : w1.cell? ⟨w.heap.size + 1, 1, none⟩ = some (.int .i64 0) := (hc _ _ (by omega)).trans (by go_simp)
  have r2 : w1.cell? ⟨w.heap.size + 1, 2, none⟩ = some (.slice none 0 0) := (hc _ _ (by omega)).trans (by go_simp)
  have z0 : w1.frozen? ⟨w.heap.size + 1, 0, none⟩ = false := (hf _ _ (by omega)).trans (by go_simp)
  have z1 : w1.frozen? ⟨w.heap.size + 1, 1, none⟩ = false := (hf _ _ (by omega)).trans (by go_simp)
  have z2 : w1.frozen? ⟨w.heap.size + 1, 2, none⟩ = false := (hf _ _ (by omega)).trans (by go_simp)
  have hz := hB.size
  simp only [World.size_alloc] at hz
  have hW : Below w.heap.size w w1 := (below2 w _ _).trans (hb1.mono (by simp; omega))
  have HT1 := Lib.hid (HT.out.below hW hb)
  have HW := Lib.hid hW
  clear hb1 hcw hc hf hW hB
  go_wp2_with fail
  refine (l07Without_cutB L V g 0 ts.length ts u hu h1 hl _ (by omega) HT1.out).mono ?_
  rintro e w2 ⟨a2, c2, rfl, hb2, hN2⟩
  obtain ⟨hc, hf⟩ := bcellB hb2
  have q0 : w2.cell? ⟨w.heap.size + 1, 0, none⟩ = some (.int .i64 0) := (hc _ _ (by omega)).trans r0
  have q1 : w2.cell? ⟨w.heap.size + 1, 1, none⟩ = some (.int .i64 0) := (hc _ _ (by omega)).trans r1
  have q2 : w2.cell? ⟨w.heap.size + 1, 2, none⟩ = some (.slice none 0 0) := (hc _ _ (by omega)).trans r2
  have y0 : w2.frozen? ⟨w.heap.size + 1, 0, none⟩ = false := (hf _ _ (by omega)).trans z0
  have y1 : w2.frozen? ⟨w.heap.size + 1, 1, none⟩ = false := (hf _ _ (by omega)).trans z1
  have y2 : w2.frozen? ⟨w.heap.size + 1, 2, none⟩ = false := (hf _ _ (by omega)).trans z2
  have HW2 := Lib.hid (HW.out.trans (hb2.mono (by omega)))
  have hz2 := hb2.size
  have HN := Lib.hid hN2
  clear r0 r1 r2 z0 z1 z2 hc hf hb2 hN2 x0 x1 x2
  go_wp2
  have hW := HW2.out
  refine bodyPost_ret (v := .tuple #[.agg #[.int .i64 L, .int .i64 V, .slice a2 (pickL (cutB u) ts).length c2], .int .i64 0]) (by simp [results, Try.results30, go_sem, q0, q1, q2]) rfl ⟨a2, c2, rfl, by go_grown, ?_⟩
  exact (HN.out.far3 (by omega)).mono (by omega) (Nat.le_refl _)

set_option maxRecDepth 100000 in
set_option maxHeartbeats 4000000 in
theorem scutE_err (L V : Int) (g : Nat) (ts : List Tm) (u : ByteArray) (hu : u.size ≤ maxLen) (c : Int) (hcw : codeW L V ts u = c) (hc0 : c ≠ 0) (hl : ts.length ≤ 1048576) (hs : ∀ i (h : i < ts.length), (ts[i]).s.size ≤ maxLen) (w : World) (hb : g < w.heap.size) (ht : TermsIn w g 0 ts) :
    Calls Try.prog 32 #[.agg #[.int .i64 L, .int .i64 V, .slice (some ⟨g, 0, none⟩) ts.length ts.length], .string u] w (SerPost 0 0 [] c w) := by
  have HT := Lib.hid ht
  have HS := Lib.hid hs
  clear ht hs
  go_enter Try.func32, Try.ntmps32
  go_wp2_with fail
  refine (l07Word_c L V g ts u hu hl HS.out _ (by simp; omega) (HT.out.below (below2 w _ _) hb)).mono ?_
  rw [hcw]
  rintro e w1 ⟨rfl, hb1⟩
  have hB := hb1
  simp only [World.size_alloc] at hB
  obtain ⟨hc, hf⟩ := bcellB hB
  have r0 : w1.cell? ⟨w.heap.size + 1, 0, none⟩ = some (.int .i64 0) := (hc _ _ (by omega)).trans (by go_simp)
  have r1 : w1.cell? ⟨w.heap.size + 1, 1, none⟩ = some (.int .i64 0) := (hc _ _ (by omega)).trans (by go_simp)
  have r2 : w1.cell? ⟨w.heap.size + 1, 2, none⟩ = some (.slice none 0 0) := (hc _ _ (by omega)).trans (by go_simp)
  have z0 : w1.frozen? ⟨w.heap.size + 1, 0, none⟩ = false := (hf _ _ (by omega)).trans (by go_simp)
  have z1 : w1.frozen? ⟨w.heap.size + 1, 1, none⟩ = false := (hf _ _ (by omega)).trans (by go_simp)
  have z2 : w1.frozen? ⟨w.heap.size + 1, 2, none⟩ = false := (hf _ _ (by omega)).trans (by go_simp)
  have hW : Below w.heap.size w w1 := (below2 w _ _).trans (hb1.mono (by simp; omega))
  clear hb1 hB hcw
  go_wp2
  exact bodyPost_ret (v := .tuple #[.agg #[.int .i64 0, .int .i64 0, .slice none 0 0], .int .i64 c]) (by simp [results, Try.results32, go_sem, r0, r1, r2]) rfl (SerPost.err c rfl (by go_grown))
set_option maxRecDepth 100000 in
set_option maxHeartbeats 4000000 in
theorem scutE_ok (L V : Int) (g : Nat) (ts : List Tm) (u : ByteArray) (hu : u.size ≤ 5) (h1 : serB L V ts = true) (hcw : codeW L V ts u = 0) (hl : ts.length ≤ 1048576) (hs : ∀ i (h : i < ts.length), (ts[i]).s.size ≤ maxLen) (w : World) (hb : g < w.heap.size) (ht : TermsIn w g 0 ts) :
    Calls Try.prog 32 #[.agg #[.int .i64 L, .int .i64 V, .slice (some ⟨g, 0, none⟩) ts.length ts.length], .string u] w (SerPost L V (pickL (cutE u) ts) 0 w) := by
  have HT := Lib.hid ht
  have HS := Lib.hid hs
  clear ht hs
  go_enter Try.func32, Try.ntmps32
  go_wp2_with fail
  refine (l07Word_c L V g ts u (by unfold maxLen; omega) hl HS.out _ (by simp; omega) (HT.out.below (below2 w _ _) hb)).mono ?_
  rw [hcw]
  rintro e w1 ⟨rfl, hb1⟩
  have hB := hb1
  simp only [World.size_alloc] at hB
  obtain ⟨hc, hf⟩ := bcellB hB
  have x0 : w1.cell? ⟨w.heap.size, 0, none⟩ = some (.int .i64 L) := (hc _ _ (by omega)).trans (by go_simp)
  have x1 : w1.cell? ⟨w.heap.size, 1, none⟩ = some (.int .i64 V) := (hc _ _ (by omega)).trans (by go_simp)
  have x2 : w1.cell? ⟨w.heap.size, 2, none⟩ = some (.slice (some ⟨g, 0, none⟩) ts.length ts.length) := (hc _ _ (by omega)).trans (by go_simp)
  have r0 : w1.cell? ⟨w.heap.size + 1, 0, none⟩ = some (.int .i64 0) := (hc _ _ (by omega)).trans (by go_simp)
  have r1 : w1.cell? ⟨w.heap.size + 1, 1, none⟩ = some (.int .i64 0) := (hc _ _ (by omega)).trans (by go_simp)
  have r2 : w1.cell? ⟨w.heap.size + 1, 2, none⟩ = some (.slice none 0 0) := (hc _ _ (by omega)).trans (by go_simp)
  have z0 : w1.frozen? ⟨w.heap.size + 1, 0, none⟩ = false := (hf _ _ (by omega)).trans (by go_simp)
  have z1 : w1.frozen? ⟨w.heap.size + 1, 1, none⟩ = false := (hf _ _ (by omega)).trans (by go_simp)
  have z2 : w1.frozen? ⟨w.heap.size + 1, 2, none⟩ = false := (hf _ _ (by omega)).trans (by go_simp)
  have hz := hB.size
  simp only [World.size_alloc] at hz
  have hW : Below w.heap.size w w1 := (below2 w _ _).trans (hb1.mono (by simp; omega))
  have HT1 := Lib.hid (HT.out.below hW hb)
  have HW := Lib.hid hW
  clear hb1 hcw hc hf hW hB
  go_wp2_with fail
  refine (l07Without_cutE L V g 0 ts.length ts u hu h1 hl _ (by omega) HT1.out).mono ?_
  rintro e w2 ⟨a2, c2, rfl, hb2, hN2⟩
  obtain ⟨hc, hf⟩ := bcellB hb2
  have q0 : w2.cell? ⟨w.heap.size + 1, 0, none⟩ = some (.int .i64 0) := (hc _ _ (by omega)).trans r0
  have q1 : w2.cell? ⟨w.heap.size + 1, 1, none⟩ = some (.int .i64 0) := (hc _ _ (by omega)).trans r1
  have q2 : w2.cell? ⟨w.heap.size + 1, 2, none⟩ = some (.slice none 0 0) := (hc _ _ (by omega)).trans r2
  have y0 : w2.frozen? ⟨w.heap.size + 1, 0, none⟩ = false := (hf _ _ (by omega)).trans z0
  have y1 : w2.frozen? ⟨w.heap.size + 1, 1, none⟩ = false := (hf _ _ (by omega)).trans z1
  have y2 : w2.frozen? ⟨w.heap.size + 1, 2, none⟩ = false := (hf _ _ (by omega)).trans z2
  have HW2 := Lib.hid (HW.out.trans (hb2.mono (by omega)))
  have hz2 := hb2.size
  have HN := Lib.hid hN2
  clear r0 r1 r2 z0 z1 z2 hc hf hb2 hN2 x0 x1 x2
  go_wp2
  have hW := HW2.out
  refine bodyPost_ret (v := .tuple #[.agg #[.int .i64 L, .int .i64 V, .slice a2 (pickL (cutE u) ts).length c2], .int .i64 0]) (by simp [results, Try.results32, go_sem, q0, q1, q2]) rfl ⟨a2, c2, rfl, by go_grown, ?_⟩
  exact (HN.out.far3 (by omega)).mono (by omega) (Nat.le_refl _)

/-- what the program's two ways to cut make of a word -/
def CutAs (k : FuncId) (f : ByteArray → Option ByteArray) (u : ByteArray) : Prop :=
  ∀ (s : ByteArray) (W : World), s.size ≤ 5 → Calls Try.prog k #[.string s, .string u] W fun e w' => e = .returned (.tuple #[.string ((f s).getD s), .bool (f s).isSome]) ∧ w' = W
theorem cutB_as (u : ByteArray) : CutAs 68 (cutB u) u := fun s W _ => by
  have h := Try.strings_CutPrefix s u W
  rw [(cutB_val u s).1, (cutB_val u s).2] at h
  exact h
theorem cutE_as (u : ByteArray) : CutAs 69 (cutE u) u := fun s W hs => by
  have h := Try.strings_CutSuffix s u W (by omega)
  rw [(cutE_val u s).1, (cutE_val u s).2] at h
  exact h
set_option maxHeartbeats 2000000 in
theorem change_c (k : FuncId) (hk : ∀ (args : Array Value) (W : World), (callFunc k args).run Try.prog W = .ok (.enter k args) W) (f : ByteArray → Option ByteArray) (u : ByteArray) (hf : CutAs k f u) (p q : Nat) (w : World) (hp : p < w.heap.size) (hq : q < w.heap.size) (c1 : w.cell? ⟨p, 0, none⟩ = some (.func (.func k) #[] #[])) (c2 : w.cell? ⟨q, 0, none⟩ = some (.string u)) :
    ChangeAt 105 #[.pointer (some ⟨p, 0, none⟩), .pointer (some ⟨q, 0, none⟩)] f w := by
  intro W hB s hs
  have d1 : W.cell? ⟨p, 0, none⟩ = some (.func (.func k) #[] #[]) := (hB.cell (p := ⟨p, 0, none⟩) hp).trans c1
  have d2 : W.cell? ⟨q, 0, none⟩ = some (.string u) := (hB.cell (p := ⟨q, 0, none⟩) hq).trans c2
  have HF := Lib.hid (hf s · hs)
  clear hB hf c1 c2
  show Calls Try.prog 105 #[.string s, .pointer (some ⟨p, 0, none⟩), .pointer (some ⟨q, 0, none⟩)] W _
  go_enter Try.func105, Try.ntmps105
  go_wp2_with fail
  refine (HF.out _).mono ?_
  rintro e w1 ⟨rfl, rfl⟩
  go_wp2
  go_ret2
  exact ⟨rfl, Below.refl _ _⟩
end Go.Proofs.Ytjciadbmpkkgdaa
