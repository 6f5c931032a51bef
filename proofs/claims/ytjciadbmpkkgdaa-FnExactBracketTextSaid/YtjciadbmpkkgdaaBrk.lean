/-
  Contracts of the functions that make brackets and their texts, of the program and of its model.
-/
import Derived.Test.YtjciadbmpkkgdaaCutS
import Derived.Deep.RegionHeld3
namespace Go.Proofs.Ytjciadbmpkkgdaa
open Go.RowKit

/-- a bracket: a letter, or a pair -/
inductive Brk where
  | leaf (s : ByteArray)
  | node (l r : Brk)
/-- its text -/
def Brk.text : Brk → ByteArray
  | .leaf s => s
  | .node l r => ({ data := #[91] } : ByteArray) ++ l.text ++ { data := #[44] } ++ r.text ++ { data := #[93] }
/-- the bracket of a word -/
inductive BrkOf : ByteArray → Brk → Prop
  | one (s : ByteArray) : s.size = 1 → BrkOf s (.leaf s)
  | two (s : ByteArray) (i : Nat) (l r : Brk) : 2 ≤ s.size → IsCut s i → BrkOf (s.extract 0 i) l → BrkOf (s.extract i s.size) r → BrkOf s (.node l r)
theorem brk_is : ∀ (k : Nat) (s : ByteArray), s.size ≤ k → 1 ≤ s.size → ∃ b, BrkOf s b
  | 0, s, h, h1 => by omega
  | k + 1, s, h, h1 => by
    by_cases h0 : s.size = 1
    · exact ⟨_, .one s h0⟩
    · obtain ⟨i, hi⟩ := cut_is (s := s) (by omega)
      have hi1 := hi.1
      have hi2 := hi.2.1
      obtain ⟨l, hl⟩ := brk_is k (s.extract 0 i) (by rw [ByteArray.size_extract]; omega) (by rw [ByteArray.size_extract]; omega)
      obtain ⟨r, hr⟩ := brk_is k (s.extract i s.size) (by rw [ByteArray.size_extract]; omega) (by rw [ByteArray.size_extract]; omega)
      exact ⟨_, .two s i l r (by omega) hi hl hr⟩
theorem BrkOf.size : ∀ {s : ByteArray} {b : Brk}, BrkOf s b → b.text.size + 3 = 4 * s.size
  | _, _, .one s h => by show s.size + 3 = _; omega
  | _, _, .two s i l r h hi hl hr => by
    have a := hl.size
    have b := hr.size
    have hi1 := hi.1
    have hi2 := hi.2.1
    rw [ByteArray.size_extract] at a b
    have e1 : (({ data := #[91] } : ByteArray)).size = 1 := rfl
    have e2 : (({ data := #[44] } : ByteArray)).size = 1 := rfl
    have e3 : (({ data := #[93] } : ByteArray)).size = 1 := rfl
    simp only [Brk.text, ByteArray.size_append, e1, e2, e3]
    omega
theorem below_next {a w w' : World} (h : Below a.heap.size a w) (hb : Below w.heap.size w w') : Below a.heap.size a w' := h.trans (hb.mono h.size)

set_option maxRecDepth 100000 in
set_option maxHeartbeats 4000000 in
theorem l05Bracket_c : ∀ {s : ByteArray} {b : Brk}, BrkOf s b → s.size ≤ 1000 → ∀ w : World,
    Calls Try.prog 72 #[.string s] w fun e w' => e = .returned (.string b.text) ∧ Below w.heap.size w w' := by
  intro s b hb
  induction hb with
  | one s h =>
    intro hs w
    have h' : (s.size : Int) = 1 := by omega
    go_enter Try.func72, Try.ntmps72
    go_wp2
    go_ret
    exact ⟨rfl, Below.refl _ _⟩
  | two s i l r h2 hi hl hr ihl ihr =>
    intro hs w
    have HI := Lib.hid hi
    have hi1 := hi.1
    have hi2 := hi.2.1
    have h' : ¬ (s.size : Int) = 1 := by omega
    have zl := hl.size
    have zr := hr.size
    have z1 : (s.extract 0 i).size ≤ 1000 := by rw [ByteArray.size_extract]; omega
    have z2 : (s.extract i s.size).size ≤ 1000 := by rw [ByteArray.size_extract]; omega
    have hL := ihl z1
    have hR := ihr z2
    have a1 : l.text.size ≤ 4000 := by omega
    have a2 : r.text.size ≤ 4000 := by omega
    have HT : Hid ((Brk.node l r).text = ({ data := #[91] } : ByteArray) ++ l.text ++ { data := #[44] } ++ r.text ++ { data := #[93] }) := Lib.hid rfl
    generalize l.text = tl at *
    generalize r.text = tr at *
    have b1 : (0 : Int) ≤ (i : Int) := by omega
    have b2 : (i : Int) ≤ (s.size : Int) := by omega
    have g1 : ¬ 9223372036854775807 < 1 + tl.size := by omega
    have g2 : ¬ 9223372036854775807 < 1 + tl.size + 1 := by omega
    have g3 : ¬ 9223372036854775807 < 1 + tl.size + 1 + tr.size := by omega
    have g4 : ¬ 9223372036854775807 < 1 + tl.size + 1 + tr.size + 1 := by omega
    have HLc := Lib.hid hL
    have HRc := Lib.hid hR
    clear ihl ihr hL hR hl hr zl zr hi z1 z2
    go_enter Try.func72, Try.ntmps72
    go_wp2_with (first | (go_at_call 108; refine (l05Cut_c s i HI.out (by omega) _).mono ?_; rintro e w' ⟨rfl, rfl⟩) | fail)
    have hB0 := Below.refl w.heap.size w
    go_region_held3 (fun w' => Below w.heap.size w w') (first | (exact below_next (by assumption) hb1) | (exact Below.drew (by assumption)) | assumption)
      (first | (go_at_call 72; with_reducible refine (HLc.out _).mono ?_; rintro e w1 ⟨rfl, hb1⟩) | (go_at_call 72; with_reducible refine (HRc.out _).mono ?_; rintro e w1 ⟨rfl, hb1⟩))
    all_goals (go_wp2_with fail; go_ret)
    all_goals exact ⟨by rw [HT.out]; rfl, by assumption⟩
/-- the bracket lies in memory -/
def InT (w : World) : Brk → Nat → Prop
  | .leaf s, p => w.cell? ⟨p, 0, none⟩ = some (.string s) ∧ w.cell? ⟨p, 1, none⟩ = some (.pointer none)
  | .node l r, p => ∃ bl br : Nat, w.cell? ⟨p, 1, none⟩ = some (.pointer (some ⟨bl, 0, none⟩)) ∧ w.cell? ⟨p, 2, none⟩ = some (.pointer (some ⟨br, 0, none⟩)) ∧ InT w l bl ∧ InT w r br
theorem InT.below {w w' : World} (hb : Below w.heap.size w w') : ∀ {b : Brk} {p : Nat}, InT w b p → InT w' b p
  | .leaf s, p, h => ⟨cell_later hb h.1, cell_later hb h.2⟩
  | .node l r, p, h => by
    obtain ⟨bl, br, h1, h2, h3, h4⟩ := h
    exact ⟨bl, br, cell_later hb h1, cell_later hb h2, InT.below hb h3, InT.below hb h4⟩
theorem keepT {w w' w'' : World} {p : Nat} {u v : Value} (hb : Below w'.heap.size w' w'') (h : w'.cell? ⟨p, 1, none⟩ = some u ∧ w'.cell? ⟨p, 2, none⟩ = some v ∧ Below w.heap.size w w') : w''.cell? ⟨p, 1, none⟩ = some u ∧ w''.cell? ⟨p, 2, none⟩ = some v ∧ Below w.heap.size w w'' :=
  ⟨cell_later hb h.1, cell_later hb h.2.1, below_next h.2.2 hb⟩
theorem keepD {w w' : World} {p : Nat} {u v : Value} (h : w'.cell? ⟨p, 1, none⟩ = some u ∧ w'.cell? ⟨p, 2, none⟩ = some v ∧ Below w.heap.size w w') : w'.drew.cell? ⟨p, 1, none⟩ = some u ∧ w'.drew.cell? ⟨p, 2, none⟩ = some v ∧ Below w.heap.size w w'.drew :=
  ⟨h.1, h.2.1, h.2.2.drew⟩
set_option maxRecDepth 100000 in
set_option maxHeartbeats 4000000 in
theorem text_c : ∀ (b : Brk) (p : Nat), b.text.size ≤ 4000 → ∀ w : World, InT w b p →
    Calls Try.prog 77 #[.pointer (some ⟨p, 0, none⟩)] w fun e w' => e = .returned (.string b.text) ∧ Below w.heap.size w w' := by
  intro b
  induction b with
  | leaf s =>
    intro p hs w hT
    obtain ⟨c0, c1⟩ := hT
    go_enter Try.func77, Try.ntmps77
    go_wp2
    go_ret
    exact ⟨rfl, Below.refl _ _⟩
  | node l r ihl ihr =>
    intro p hs w hT
    obtain ⟨bl, br, c1, c2, hl, hr⟩ := hT
    have e1 : (({ data := #[91] } : ByteArray)).size = 1 := rfl
    have e2 : (({ data := #[44] } : ByteArray)).size = 1 := rfl
    have e3 : (({ data := #[93] } : ByteArray)).size = 1 := rfl
    have hs2 : 1 + l.text.size + 1 + r.text.size + 1 ≤ 4000 := by
      have := hs
      simp only [Brk.text, ByteArray.size_append, e1, e2, e3] at this
      exact this
    have HL := Lib.hid hl
    have HR := Lib.hid hr
    have hL := ihl bl (by omega)
    have hR := ihr br (by omega)
    have HT : Hid ((Brk.node l r).text = ({ data := #[91] } : ByteArray) ++ l.text ++ { data := #[44] } ++ r.text ++ { data := #[93] }) := Lib.hid rfl
    generalize l.text = tl at *
    generalize r.text = tr at *
    have g1 : ¬ 9223372036854775807 < 1 + tl.size := by omega
    have g2 : ¬ 9223372036854775807 < 1 + tl.size + 1 := by omega
    have g3 : ¬ 9223372036854775807 < 1 + tl.size + 1 + tr.size := by omega
    have g4 : ¬ 9223372036854775807 < 1 + tl.size + 1 + tr.size + 1 := by omega
    have HLc := Lib.hid hL
    have HRc := Lib.hid hR
    clear ihl ihr hL hR hl hr hs e1 e2 e3
    go_enter Try.func77, Try.ntmps77
    go_wp2_with fail
    have hB0 := Below.refl w.heap.size w
    go_region_held3 (fun w' => w'.cell? ⟨p, 1, none⟩ = some (.pointer (some ⟨bl, 0, none⟩)) ∧ w'.cell? ⟨p, 2, none⟩ = some (.pointer (some ⟨br, 0, none⟩)) ∧ Below w.heap.size w w')
      (first | (exact keepT hb1 (by assumption)) | (exact keepT hb1 ⟨by assumption, by assumption, by assumption⟩) | (exact keepD (by assumption)) | (exact keepD ⟨by assumption, by assumption, by assumption⟩) | assumption | (exact ⟨by assumption, by assumption, by assumption⟩))
      (first | (go_at_call 77; with_reducible refine Calls.mono (HLc.out _ (HL.out.below ?_)) ?_; (first | assumption | exact Below.drew (by assumption) | exact And.right (And.right (by assumption))); rintro e w1 ⟨rfl, hb1⟩) | (go_at_call 77; with_reducible refine Calls.mono (HRc.out _ (HR.out.below ?_)) ?_; (first | assumption | exact Below.drew (by assumption) | exact And.right (And.right (by assumption))); rintro e w1 ⟨rfl, hb1⟩))
    all_goals (go_wp2_with fail; go_ret)
    all_goals (rename_i hh; exact ⟨by rw [HT.out]; rfl, hh.2.2⟩)

set_option maxRecDepth 100000 in
set_option maxHeartbeats 4000000 in
theorem bracketOf_c : ∀ {s : ByteArray} {b : Brk}, BrkOf s b → s.size ≤ 1000 → ∀ w : World,
    Calls Try.prog 75 #[.string s, .func (.func 76) #[] #[]] w fun e w' => (∃ p : Nat, e = .returned (.pointer (some ⟨p, 0, none⟩)) ∧ InT w' b p) ∧ Below w.heap.size w w' := by
  intro s b hb
  induction hb with
  | one s h =>
    intro hs w
    have h' : (s.size : Int) = 1 := by omega
    go_enter Try.func75, Try.ntmps75
    go_wp2_with fail
    refine (copied_c s (by omega) _).mono ?_
    rintro e w1 ⟨rfl, hb1⟩
    go_wp2
    go_ret
    exact ⟨⟨w1.heap.size, rfl, by simp [InT, go_sem]⟩, hb1.trans ((below1 _ _).mono hb1.size)⟩
  | two s i l r h2 hi hl hr ihl ihr =>
    intro hs w
    have HI := Lib.hid hi
    have hi1 := hi.1
    have hi2 := hi.2.1
    have h' : ¬ (s.size : Int) = 1 := by omega
    have HLc := Lib.hid (ihl (by rw [ByteArray.size_extract]; omega))
    have HRc := Lib.hid (ihr (by rw [ByteArray.size_extract]; omega))
    clear ihl ihr hl hr hi
    go_enter Try.func75, Try.ntmps75
    go_wp2_with fail
    refine (aheadOf_c s i HI.out (by omega) _).mono ?_
    rintro e w1 ⟨rfl, hb1⟩
    go_wp2_with fail
    refine (HLc.out _).mono ?_
    rintro e w2 ⟨⟨pl, rfl, hTl⟩, hb2⟩
    have HTl := Lib.hid hTl
    have HB2 := Lib.hid (below_next hb1 hb2)
    clear hTl hb1 hb2
    go_wp2_with fail
    refine (HRc.out _).mono ?_
    rintro e w3 ⟨⟨pr, rfl, hTr⟩, hb3⟩
    have HTl3 := Lib.hid (HTl.out.below hb3)
    have HTr := Lib.hid hTr
    have HB3 := Lib.hid (below_next HB2.out hb3)
    clear hTr hb3
    go_wp2
    go_ret
    exact ⟨⟨w3.heap.size, rfl, pl, pr, by simp [go_sem], by simp [go_sem], HTl3.out.below (below1 _ _), HTr.out.below (below1 _ _)⟩, below_next HB3.out (below1 _ _)⟩

theorem sBracketText_1 (d : Int) (s : ByteArray) (hs : s.size ≤ maxLen) (h : shortB d 8 s = false) (w : World) :
    Calls Try.prog 34 #[.int .i64 d, .string s] w (TextPost { data := #[] } 2 w) := by
  have H := Lib.hid h
  clear h
  go_enter Try.func34, Try.ntmps34
  go_wp2_with (first | (go_at_call 70; refine (l05Word_c _ 8 _ hs _).mono ?_; rw [H.out]; rintro e w' ⟨rfl, rfl⟩))
  go_ret2
  exact ⟨rfl, Below.refl _ _⟩
theorem iBracketText_1 (d : Int) (s : ByteArray) (hs : s.size ≤ maxLen) (h : shortB d 8 s = false) (w : World) :
    Calls Try.prog 35 #[.int .i64 d, .string s] w (TextPost { data := #[] } 2 w) := by
  have H := Lib.hid h
  clear h
  go_enter Try.func35, Try.ntmps35
  go_wp2_with (first | (go_at_call 73; refine (isShortWord_c _ _ hs _).mono ?_; rw [H.out]; rintro e w' ⟨rfl, rfl⟩))
  go_ret2
  exact ⟨rfl, Below.refl _ _⟩
theorem sBracketText_2 (d : Int) (s : ByteArray) (h : shortB d 8 s = true) (hl : lynB s = false) (w : World) :
    Calls Try.prog 34 #[.int .i64 d, .string s] w (TextPost { data := #[] } 5 w) := by
  have H := Lib.hid h
  have HL := Lib.hid hl
  have hs := (shortB_true h).2.1
  have hs2 : s.size ≤ maxLen := by unfold maxLen; omega
  clear h hl
  go_enter Try.func34, Try.ntmps34
  go_wp2_with (first | (go_at_call 70; refine (l05Word_c _ 8 _ hs2 _).mono ?_; rw [H.out]; rintro e w' ⟨rfl, rfl⟩) | (go_at_call 71; refine (l05Lyndon_c _ hs2 _).mono ?_; rw [HL.out]; rintro e w' ⟨rfl, rfl⟩))
  go_ret2
  exact ⟨rfl, Below.refl _ _⟩
theorem iBracketText_2 (d : Int) (s : ByteArray) (h : shortB d 8 s = true) (hl : lynB s = false) (w : World) :
    Calls Try.prog 35 #[.int .i64 d, .string s] w (TextPost { data := #[] } 5 w) := by
  have H := Lib.hid h
  have HL := Lib.hid hl
  have hs := (shortB_true h).2.1
  have hs2 : s.size ≤ maxLen := by unfold maxLen; omega
  clear h hl
  go_enter Try.func35, Try.ntmps35
  go_wp2_with (first | (go_at_call 73; refine (isShortWord_c _ _ hs2 _).mono ?_; rw [H.out]; rintro e w' ⟨rfl, rfl⟩) | (go_at_call 74; refine (isLyndon_c _ hs2 _).mono ?_; rw [HL.out]; rintro e w' ⟨rfl, rfl⟩))
  go_ret2
  exact ⟨rfl, Below.refl _ _⟩
theorem sBracketText_3 (d : Int) (s : ByteArray) (b : Brk) (hb : BrkOf s b) (h : shortB d 8 s = true) (hl : lynB s = true) (w : World) :
    Calls Try.prog 34 #[.int .i64 d, .string s] w (TextPost b.text 0 w) := by
  have H := Lib.hid h
  have HL := Lib.hid hl
  have HBk := Lib.hid hb
  have hs := (shortB_true h).2.1
  have hs2 : s.size ≤ maxLen := by unfold maxLen; omega
  clear h hl hb
  go_enter Try.func34, Try.ntmps34
  go_wp2_with (first | (go_at_call 70; refine (l05Word_c _ 8 _ hs2 _).mono ?_; rw [H.out]; rintro e w' ⟨rfl, rfl⟩) | (go_at_call 71; refine (l05Lyndon_c _ hs2 _).mono ?_; rw [HL.out]; rintro e w' ⟨rfl, rfl⟩) | fail)
  refine (l05Bracket_c HBk.out (by omega) _).mono ?_
  rintro e w1 ⟨rfl, hb1⟩
  go_wp2
  go_ret2
  exact ⟨rfl, hb1⟩
theorem iBracketText_3 (d : Int) (s : ByteArray) (b : Brk) (hb : BrkOf s b) (h : shortB d 8 s = true) (hl : lynB s = true) (w : World) :
    Calls Try.prog 35 #[.int .i64 d, .string s] w (TextPost b.text 0 w) := by
  have H := Lib.hid h
  have HL := Lib.hid hl
  have HBk := Lib.hid hb
  have hs := (shortB_true h).2.1
  have hs2 : s.size ≤ maxLen := by unfold maxLen; omega
  have hz := hb.size
  clear h hl hb
  go_enter Try.func35, Try.ntmps35
  go_wp2_with (first | (go_at_call 73; refine (isShortWord_c _ _ hs2 _).mono ?_; rw [H.out]; rintro e w' ⟨rfl, rfl⟩) | (go_at_call 74; refine (isLyndon_c _ hs2 _).mono ?_; rw [HL.out]; rintro e w' ⟨rfl, rfl⟩) | fail)
  refine (bracketOf_c HBk.out (by omega) _).mono ?_
  rintro e w1 ⟨⟨p, rfl, hT⟩, hb1⟩
  have HT := Lib.hid hT
  clear hT
  go_wp2_with fail
  refine (text_c b p (by omega) _ HT.out).mono ?_
  rintro e w2 ⟨rfl, hb2⟩
  go_wp2
  go_ret2
  exact ⟨rfl, below_next hb1 hb2⟩
theorem law_BracketText (d : Int) (s : ByteArray) (hs : s.size ≤ maxLen) (w : World) :
    Calls Try.prog 11 #[.int .i64 d, .string s] w fun e w' => e = .returned (.bool true) ∧ Below w.heap.size w w' := by
  by_cases hbig : (1048576 : Int) < (s.size : Int)
  · go_enter Try.func11, Try.ntmps11
    go_wp2
    go_ret
    exact ⟨rfl, Below.refl _ _⟩
  have hc : ∃ (t : ByteArray) (c : Int), (∀ w, Calls Try.prog 34 #[.int .i64 d, .string s] w (TextPost t c w)) ∧ (∀ w, Calls Try.prog 35 #[.int .i64 d, .string s] w (TextPost t c w)) := by
    cases h : shortB d 8 s with
    | false => exact ⟨_, _, sBracketText_1 d s hs h, iBracketText_1 d s hs h⟩
    | true =>
      cases hl : lynB s with
      | false => exact ⟨_, _, sBracketText_2 d s h hl, iBracketText_2 d s h hl⟩
      | true =>
        obtain ⟨b, hb⟩ := brk_is s.size s (Nat.le_refl _) (lynB_true hl).1
        exact ⟨_, _, sBracketText_3 d s b hb h hl, iBracketText_3 d s b hb h hl⟩
  obtain ⟨t, c, hS, hI⟩ := hc
  have HS := Lib.hid hS
  have HI := Lib.hid hI
  have hst : (t.toList != t.toList) = false := by simp
  clear hS hI
  go_enter Try.func11, Try.ntmps11
  go_wp2_with fail
  refine (HS.out _).mono ?_
  rintro e w1 ⟨rfl, hb1⟩
  go_wp2_with fail
  refine (HI.out _).mono ?_
  rintro e w2 ⟨rfl, hb2⟩
  have HB := Lib.hid (hb1.trans (hb2.mono hb1.size))
  clear hb1 hb2
  go_wp2
  go_ret
  exact ⟨rfl, HB.out⟩
end Go.Proofs.Ytjciadbmpkkgdaa
