/-
  Plain mathematics: the bracket of a Lyndon word has the value 1 at the word, and else only values at greater words of its length; and what taking brackets away one by one comes to.
  Contracts of the model's LieCoordinates.
  The program's lessMultiple: a series less a multiple of a bracket.
  Contracts of the program's LieCoordinates.
-/
import Derived.Test.YtgcjpenlcokgjaaGreatDoorCrdM
import Derived.Test.YtgcjpenlcokgjaaGreatDoorLy6
import Derived.Test.YtgcjpenlcokgjaaGreatDoorSerU
import Derived.Test.YtgcjpenlcokgjaaGreatDoorBvS
import Derived.Test.YtgcjpenlcokgjaaGreatDoorTmR
import Derived.Test.YtgcjpenlcokgjaaGreatDoorCrdW
import Derived.BigQuiet
import Derived.Deep.RegionLaw
namespace Go.Proofs.YtgcjpenlcokgjaaGreatDoor
open Go.RowKit

theorem bl_ge_app : ∀ (a a' b b' : List UInt8), a'.length = a.length → Op.bytesLess a' a = false → Op.bytesLess b' b = false → Op.bytesLess (a' ++ b') (a ++ b) = false
  | [], [], b, b', _, _, h => h
  | [], _ :: _, _, _, hl, _, _ => by simp at hl
  | _ :: _, [], _, _, hl, _, _ => by simp at hl
  | y :: a, x :: a', b, b', hl, h1, h2 => by
    simp only [Op.bytesLess, Bool.or_eq_false_iff, decide_eq_false_iff_not, Bool.and_eq_false_iff, beq_eq_false_iff_ne] at h1
    simp only [List.cons_append, Op.bytesLess, Bool.or_eq_false_iff, decide_eq_false_iff_not, Bool.and_eq_false_iff, beq_eq_false_iff_ne]
    refine ⟨h1.1, ?_⟩
    by_cases e : x = y
    · exact .inr (bl_ge_app a a' b b' (by simpa using hl) (h1.2.resolve_left (fun h => h e)) h2)
    · exact .inl e
theorem ltS_list (a b : ByteArray) : ltS a b = Op.bytesLess a.data.toList b.data.toList := by
  unfold ltS
  rw [ByteArray.toList_eq, ByteArray.toList_eq]
theorem ge_app {u u' v v' : ByteArray} (hs : u'.size = u.size) (h1 : ltS u' u = false) (h2 : ltS v' v = false) : ltS (u' ++ v') (u ++ v) = false := by
  rw [ltS_list] at h1 h2 ⊢
  rw [append_list, append_list]
  exact bl_ge_app _ _ _ _ (by rw [list_size, list_size]; exact hs) h1 h2
theorem ext_cut (t : ByteArray) {k : Nat} (hk : k ≤ t.size) : t.extract 0 k ++ t.extract k t.size = t := by
  rw [ByteArray.extract_append_extract, Nat.zero_min, Nat.max_eq_right hk]
  exact ByteArray.extract_zero_size
theorem app_size (u v : ByteArray) : (u ++ v).size = u.size + v.size := ByteArray.size_append
theorem app_left (u v : ByteArray) : (u ++ v).extract 0 u.size = u := by
  apply data_eq
  rw [ByteArray.data_extract, Array.toList_extract, append_list, ← list_size u]
  simp
theorem app_right (u v : ByteArray) : (u ++ v).extract u.size (u ++ v).size = v := by
  apply data_eq
  rw [ByteArray.data_extract, Array.toList_extract, append_list, app_size, ← list_size u, ← list_size v]
  simp
  rw [← list_size v, List.take_length]

/-- the value 1 at a word, and else values at greater words of its length alone -/
def Led (s : ByteArray) (f : VF) : Prop := f s = some (1, 1) ∧ ∀ t p, f t = some p → t.size = s.size ∧ ltS t s = false
theorem cuts_none {f g : VF} {t : ByteArray} : ∀ {K : Nat}, (∀ k, k < K → f (t.extract 0 k) = none ∨ g (t.extract k t.size) = none) → cutsUp f g t K = some (0, 1)
  | 0, _ => rfl
  | K + 1, h => by
    have ih := cuts_none (K := K) (fun k hk => h k (by omega))
    rw [cutsUp_next ih]
    rcases h K (by omega) with e | e
    · exact cutStep_1 e
    · exact cutStep_2 e
theorem cuts_one {f g : VF} {t : ByteArray} {a : Nat} {r : Int × Int} (hn : ∀ k, k ≠ a → k ≤ t.size → f (t.extract 0 k) = none) (hr : cutStep f g t a (0, 1) = some r) : ∀ {K : Nat}, a < K → K ≤ t.size + 1 → cutsUp f g t K = some r
  | 0, h, _ => by omega
  | K + 1, h, hK => by
    by_cases e : a = K
    · subst e
      rw [cutsUp_next (cuts_none fun k hk => .inl (hn k (by omega) (by omega)))]
      exact hr
    · rw [cutsUp_next (cuts_one hn hr (K := K) (by omega) (by omega))]
      exact cutStep_1 (hn K (fun h => e h.symm) (by omega))
/-- the product of two such functions -/
theorem led_prod {u v : ByteArray} {f g h : VF} {ws : List ByteArray} (hf : Led u f) (hg : Led v g) (e : prodV f g ws = some h) :
    (u ++ v ∈ ws → h (u ++ v) = some (1, 1)) ∧ ∀ t p, h t = some p → t.size = (u ++ v).size ∧ ltS t (u ++ v) = false := by
  unfold prodV at e
  split at e
  · injection e with e
    subst e
    constructor
    · intro hm
      have hc : cutStep f g (u ++ v) u.size (0, 1) = some (1, 1) := by
        rw [cutStep_3 (x := (1, 1)) (y := (1, 1)) (by rw [app_left]; exact hf.1) (by rw [app_right]; exact hg.1)]
        decide
      have hk : prodAt f g (u ++ v) = some (1, 1) := by
        refine cuts_one (a := u.size) (fun k hk hks => ?_) hc (by rw [app_size]; omega) (Nat.le_refl _)
        cases hx : f ((u ++ v).extract 0 k) with
        | none => rfl
        | some x =>
          have := (hf.2 _ _ hx).1
          rw [ByteArray.size_extract] at this
          omega
      unfold onL
      rw [if_pos (inL_iff.2 hm), prodF_some hk]
      rfl
    · intro t p ht
      unfold onL at ht
      split at ht
      · unfold prodF at ht
        obtain ⟨r, h1, h2⟩ := Option.bind_eq_some_iff.1 ht
        have hr : r.1 ≠ 0 := fun e => by rw [nzF_0 e] at h2; cases h2
        by_cases hk : ∀ k, k < t.size + 1 → f (t.extract 0 k) = none ∨ g (t.extract k t.size) = none
        · unfold prodAt at h1
          rw [cuts_none hk] at h1
          injection h1 with h1
          rw [← h1] at hr
          exact absurd rfl hr
        · obtain ⟨k, hk⟩ := Classical.not_forall.1 hk
          obtain ⟨hlt, hk⟩ := Classical.not_imp.1 hk
          rw [not_or] at hk
          obtain ⟨x, hx⟩ := Option.ne_none_iff_exists'.1 hk.1
          obtain ⟨y, hy⟩ := Option.ne_none_iff_exists'.1 hk.2
          have a1 := hf.2 _ _ hx
          have a2 := hg.2 _ _ hy
          have hkt : k ≤ t.size := by omega
          have hc := ext_cut t hkt
          constructor
          · rw [← hc, app_size, app_size, a1.1, a2.1]
          · rw [← hc]
            exact ge_app a1.1 a1.2 a2.2
      · cases ht
  · cases e
theorem addK_same {g : VF} {a b : Int} {t : ByteArray} (hg : g t = none) : ∀ {ws : List ByteArray} {f h : VF}, addK g a b ws f = some h → h t = f t
  | [], f, h, e => by unfold addK at e; injection e with e; rw [e]
  | s :: ws, f, h, e => by
    unfold addK at e
    obtain ⟨f', h1, h2⟩ := Option.bind_eq_some_iff.1 e
    rw [addK_same hg h2]
    by_cases hs : t = s
    · subst hs
      rw [addStep_none hg] at h1
      injection h1 with h1
      rw [h1]
    · exact addStep_off' h1 hs
where
  addStep_off' {g f h : VF} {a b : Int} {s t : ByteArray} (e : addStep g a b f s = some h) (ht : t ≠ s) : h t = f t := by
    cases hs : g s with
    | none => rw [addStep_none hs] at e; injection e with e; rw [e]
    | some v =>
      rw [addStep_some hs] at e
      obtain ⟨r, _, rfl⟩ := Option.map_eq_some_iff.1 e
      unfold setF
      rw [if_neg ht]
theorem addK_far {g : VF} {a b : Int} {t : ByteArray} : ∀ {ws : List ByteArray} {f h : VF}, t ∉ ws → addK g a b ws f = some h → h t = f t
  | [], f, h, _, e => by unfold addK at e; injection e with e; rw [e]
  | s :: ws, f, h, ht, e => by
    unfold addK at e
    obtain ⟨f', h1, h2⟩ := Option.bind_eq_some_iff.1 e
    simp only [List.mem_cons, not_or] at ht
    rw [addK_far ht.2 h2, addK_same.addStep_off' h1 ht.1]
theorem addK_at {g : VF} {a b : Int} {s : ByteArray} {v : Int × Int} (hv : g s = some v) : ∀ {ws : List ByteArray} {f h : VF}, ws.Pairwise (fun a b => a ≠ b) → s ∈ ws → addK g a b ws f = some h → ∃ r, apS (valF f s).1 (valF f s).2 v.1 v.2 a b = some r ∧ h s = nzF r
  | [], _, _, _, hm, _ => by simp at hm
  | t :: ws, f, h, hp, hm, e => by
    unfold addK at e
    obtain ⟨f', h1, h2⟩ := Option.bind_eq_some_iff.1 e
    rw [List.pairwise_cons] at hp
    by_cases hs : s = t
    · subst hs
      rw [addStep_some hv] at h1
      obtain ⟨r, hr, rfl⟩ := Option.map_eq_some_iff.1 h1
      refine ⟨r, hr, ?_⟩
      rw [addK_far (fun hm => hp.1 _ hm rfl) h2]
      unfold setF
      rw [if_pos rfl]
    · obtain ⟨r, hr, hh⟩ := addK_at hv hp.2 ((List.mem_cons.1 hm).resolve_left hs) h2
      have e1 : f' s = f s := addK_same.addStep_off' h1 hs
      exact ⟨r, by rw [← hr]; unfold valF; rw [e1], hh⟩
/-- the commutator of two such functions -/
theorem led_comm {u v : ByteArray} {f g h : VF} {ws : List ByteArray} (hf : Led u f) (hg : Led v g) (hm : u ++ v ∈ ws) (hl : ltS (u ++ v) (v ++ u) = true) (e : commV f g ws = some h) : Led (u ++ v) h := by
  unfold commV at e
  obtain ⟨h1, e1, e⟩ := Option.bind_eq_some_iff.1 e
  obtain ⟨h2, e2, e⟩ := Option.bind_eq_some_iff.1 e
  have p1 := led_prod hf hg e1
  have p2 := led_prod hg hf e2
  have hz : h2 (u ++ v) = none := by
    cases hx : h2 (u ++ v) with
    | none => rfl
    | some x =>
      have := (p2.2 _ _ hx).2
      rw [hl] at this
      cases this
  refine ⟨by rw [addK_same hz e]; exact p1.1 hm, fun t p ht => ?_⟩
  cases hx : h2 t with
  | none =>
    rw [addK_same hx e] at ht
    exact p1.2 _ _ ht
  | some x =>
    have a := p2.2 _ _ hx
    refine ⟨by rw [a.1, app_size, app_size, Nat.add_comm], ?_⟩
    cases hc : ltS t (u ++ v) with
    | false => rfl
    | true =>
      have := ltS_trans hc hl
      rw [a.2] at this
      cases this
/-- a Lyndon word's cut: the part ahead of it is a Lyndon word, and the word is less than the parts the other way round -/
def cutFine (s : ByteArray) : Bool := (List.range s.size).all fun i => decide (i = 0) || (!lynB (endS s i) || ((List.range i).any (fun j => decide (1 ≤ j) && lynB (endS s j)) || (lynB (s.extract 0 i) && ltS s (s.extract i s.size ++ s.extract 0 i))))
def wordFine (s : ByteArray) : Bool := !lynB s || cutFine s
theorem fine_3_2 : (wordsL 3 2).all wordFine = true := by decide +kernel
theorem fine_3_3 : (wordsL 3 3).all wordFine = true := by decide +kernel
theorem fine_3_4 : (wordsL 3 4).all wordFine = true := by decide +kernel
theorem fine_2_5 : (wordsL 2 5).all wordFine = true := by decide +kernel
theorem wordB_mono {d d' : Int} (h : d ≤ d') {l : List UInt8} (hw : wordB d l = true) : wordB d' l = true := by
  unfold wordB at hw ⊢
  rw [List.all_eq_true] at hw ⊢
  intro x hx
  have := hw x hx
  simp only [letB, decide_eq_true_eq] at this ⊢
  omega
theorem cut_fine {D N : Nat} (hD : D ≤ 3) (hN : N ≤ 5) (hDN : D < 3 ∨ N ≤ 4) {s : ByteArray} (hz : 2 ≤ s.size) (hs : s.size ≤ N) (hw : wordB (D : Int) s.data.toList = true) (hy : lynB s = true) {i : Nat} (hi : IsCut s i) :
    lynB (s.extract 0 i) = true ∧ ltS s (s.extract i s.size ++ s.extract 0 i) = true := by
  have hf : wordFine s = true := by
    have h3 := fun n (e : s.size = n) => wordsL_all (D := 3) (by omega) n s e (wordB_mono (by omega) hw)
    have hcs : s.size = 2 ∨ s.size = 3 ∨ s.size = 4 ∨ s.size = 5 := by omega
    rcases hcs with e | e | e | e
    · exact List.all_eq_true.1 fine_3_2 _ (h3 _ e)
    · exact List.all_eq_true.1 fine_3_3 _ (h3 _ e)
    · exact List.all_eq_true.1 fine_3_4 _ (h3 _ e)
    · exact List.all_eq_true.1 fine_2_5 _ (wordsL_all (D := 2) (by omega) 5 s e (wordB_mono (by omega) hw))
  unfold wordFine at hf
  rw [hy, Bool.not_true, Bool.false_or] at hf
  unfold cutFine at hf
  have h := List.all_eq_true.1 hf i (List.mem_range.2 hi.2.1)
  have h0 : decide (i = 0) = false := decide_eq_false (by have := hi.1; omega)
  have hn : ((List.range i).any fun j => decide (1 ≤ j) && lynB (endS s j)) = false := by
    rw [List.any_eq_false]
    intro j hj
    have hj' := List.mem_range.1 hj
    by_cases h1 : 1 ≤ j
    · rw [hi.2.2.2 j h1 hj', Bool.and_false]; exact Bool.false_ne_true
    · rw [decide_eq_false h1, Bool.false_and]; exact Bool.false_ne_true
  rw [h0, hi.2.2.1, hn, Bool.not_true, Bool.false_or, Bool.false_or, Bool.false_or, Bool.and_eq_true] at h
  exact h
theorem brk_led {D N : Nat} (hD : D ≤ 3) (hN : N ≤ 5) (hDN : D < 3 ∨ N ≤ 4) : ∀ {s : ByteArray} {b : Brk}, BrkOf s b → s.size ≤ N → wordB (D : Int) s.data.toList = true → lynB s = true → ∀ f, brkV (allW D N) b = some f → Led s f
  | _, _, .one s h, hs, hw, hy, f, e => by
    injection e with e
    subst e
    exact ⟨oneF_same s, fun t p ht => by
      obtain ⟨rfl, _⟩ := oneF_eq ht
      exact ⟨rfl, ltS_irr _⟩⟩
  | _, _, .two s i l r hz hi hl hr, hs, hw, hy, f, e => by
    have hc := cut_fine hD hN hDN hz hs hw hy hi
    obtain ⟨g1, e1, e2⟩ := Option.bind_eq_some_iff.1 (show ((brkV (allW D N) l).bind fun f => (brkV (allW D N) r).bind fun g => commV f g (allW D N)) = some f from e)
    obtain ⟨g2, e3, e4⟩ := Option.bind_eq_some_iff.1 e2
    have h1 := brk_led hD hN hDN hl (by rw [ByteArray.size_extract]; omega) (wordB_part hw _ _) hc.1 _ e1
    have h2 := brk_led hD hN hDN hr (by rw [ByteArray.size_extract]; omega) (wordB_part hw _ _) hi.2.2.1 _ e3
    have hx := ext_cut s (Nat.le_of_lt hi.2.1)
    have := led_comm h1 h2 (by rw [hx]; exact allW_all hD N s hs hw) (by rw [hx]; exact hc.2) e4
    rw [hx] at this
    exact this
theorem bW_led {D N : Nat} (hD : D ≤ 3) (hN : N ≤ 5) (hDN : D < 3 ∨ N ≤ 4) {s : ByteArray} (hs : s ∈ allW D N) (hy : lynB s = true) {f : VF} (e : bW (allW D N) s = some f) : Led s f := by
  obtain ⟨b, hb, e2⟩ := bW_is (allW D N) (s := s) (lynB_true hy).1
  rw [e2] at e
  exact brk_led hD hN hDN hb (allW_size D N s hs) (allW_B hD N s hs) hy f e

/-- what stays of a series when the bracket of its first term is taken away as often as the term tells -/
noncomputable def lieStep (ws : List ByteArray) (t : Tm) (f : VF) : Option VF := sumOne ws ⟨t.s, -t.n, t.d⟩ f
theorem aps_opp {n d : Int} (h : isF n d = true) {r : Int × Int} (e : apS n d 1 1 (-n) d = some r) : r.1 = 0 := by
  have h2 : isF (-n) d = true := by
    have := isF_out h
    simp only [isF, decide_eq_true_eq]
    refine ⟨by omega, by omega, by omega, by omega, ?_⟩
    unfold gi at *
    rw [Int.neg_gcd]
    exact this.2.2.2.2
  have h3 := isF_self h2
  have e1 : fOk (1 * -n) (1 * d) = true := by rw [Int.one_mul, Int.one_mul]; exact h3.1
  have e2 : fN (1 * -n) (1 * d) = -n := by rw [Int.one_mul, Int.one_mul]; exact h3.2.1
  have e3 : fD (1 * -n) (1 * d) = d := by rw [Int.one_mul, Int.one_mul]; exact h3.2.2
  cases hok : fOk (n * d + -n * d) (d * d) with
  | false => rw [apS_bad2 e1 e2 e3 hok] at e; cases e
  | true =>
    rw [apS_good e1 e2 e3 hok] at e
    injection e with e
    rw [← e]
    show fN (n * d + -n * d) (d * d) = 0
    have hz : n * d + -n * d = 0 := by rw [Int.neg_mul]; omega
    rw [hz] at hok ⊢
    rw [(low_yes hok).1]
    have hd : d * d ≠ 0 := by
      have := isF_out h
      exact Int.mul_ne_zero (by omega) (by omega)
    exact (low_unique (n := 0) (d := d * d) (an := 0) (ad := 1) (by decide) (by omega) hd (by omega)).1
theorem head_term {f : VF} {ws : List ByteArray} {t : Tm} {r : List Tm} (h : termsOf f ws = t :: r) : t.s ∈ ws ∧ f t.s = some (t.n, t.d) := termsOf_iff.1 (by rw [h]; simp)
/-- behind a step all values stand behind the term -/
theorem step_after {D N : Nat} (hD : D ≤ 3) (hN : N ≤ 5) (hDN : D < 3 ∨ N ≤ 4) {f h : VF} (hf : GoodV (allW D N) f) {t : Tm} {r : List Tm} (ht : termsOf f (allW D N) = t :: r) (hy : lynB t.s = true) (e : lieStep (allW D N) t f = some h) :
    GoodV (allW D N) h ∧ ∀ s, h s ≠ none → lessW t.s s := by
  have hh := head_term ht
  have hasc := allW_asc (D := D) (by omega) N
  unfold lieStep sumOne at e
  obtain ⟨g, e1, e2⟩ := Option.bind_eq_some_iff.1 e
  simp only at e1 e2
  have hled := bW_led hD hN hDN hh.1 hy e1
  have hgood := hf.addK (fun _ h => h) e2
  refine ⟨hgood, fun s hs => ?_⟩
  obtain ⟨q, hq⟩ := Option.ne_none_iff_exists'.1 hs
  have hsw := (hgood _ _ hq).1
  have hne : s ≠ t.s := by
    rintro rfl
    obtain ⟨r2, h3, h4⟩ := addK_at hled.1 (hasc.imp (fun {a b} h e => by subst e; unfold lessW at h; rw [lessL_irrefl] at h; cases h)) hh.1 e2
    have hv : valF f t.s = (t.n, t.d) := valF_some hh.2
    rw [hv] at h3
    have h5 := aps_opp (hf _ _ hh.2).2.1 h3
    rw [h4, nzF_0 h5] at hq
    cases hq
  cases hg : g s with
  | none =>
    rw [addK_same hg e2] at hq
    have hmem : (⟨s, q.1, q.2⟩ : Tm) ∈ termsOf f (allW D N) := termsOf_iff.2 ⟨hsw, hq⟩
    have hp := termsOf_asc f hasc
    rw [ht] at hmem hp
    rcases List.mem_cons.1 hmem with e3 | e3
    · exact absurd (congrArg Tm.s e3) hne
    · exact (List.pairwise_cons.1 hp).1 _ e3
  | some v =>
    have := hled.2 _ _ hg
    unfold lessW lessL
    rw [if_pos (by rw [list_size, list_size]; exact this.1.symm), ← ltS_list]
    cases hc : ltS t.s s with
    | true => rfl
    | false => exact absurd (ltS_tri this.2 hc) hne
/-- what taking the first terms' brackets away comes to: a code and the terms, in at most so many steps -/
inductive LieR (ws : List ByteArray) : Nat → VF → List Tm → Int → List Tm → Prop
  | done (m : Nat) (f : VF) (out : List Tm) : termsOf f ws = [] → LieR ws m f out 0 out
  | state (m : Nat) (f : VF) (out : List Tm) (t : Tm) (r : List Tm) : termsOf f ws = t :: r → lynB t.s = false → LieR ws m f out 5 []
  | limit (m : Nat) (f : VF) (out : List Tm) (t : Tm) (r : List Tm) : termsOf f ws = t :: r → lynB t.s = true → lieStep ws t f = none → LieR ws m f out 3 []
  | next (m : Nat) (f h : VF) (out : List Tm) (t : Tm) (r : List Tm) (c : Int) (z : List Tm) : termsOf f ws = t :: r → lynB t.s = true → lieStep ws t f = some h → LieR ws m h (out ++ [t]) c z → LieR ws (m + 1) f out c z
theorem lie_nil {ws : List ByteArray} {m : Nat} {f : VF} {out z : List Tm} {c : Int} (h : termsOf f ws = []) (hl : LieR ws m f out c z) : c = 0 ∧ z = out := by
  cases hl with
  | done => exact ⟨rfl, rfl⟩
  | state _ _ _ t r h1 => rw [h] at h1; cases h1
  | limit _ _ _ t r h1 => rw [h] at h1; cases h1
  | next _ _ _ _ t r _ _ h1 => rw [h] at h1; cases h1
theorem lie_state {ws : List ByteArray} {m : Nat} {f : VF} {out z : List Tm} {c : Int} {t : Tm} {r : List Tm} (h : termsOf f ws = t :: r) (hy : lynB t.s = false) (hl : LieR ws m f out c z) : c = 5 ∧ z = [] := by
  cases hl with
  | done _ _ _ h1 => rw [h] at h1; cases h1
  | state _ _ _ t r h1 => exact ⟨rfl, rfl⟩
  | limit _ _ _ t r h1 h2 => rw [h] at h1; injection h1 with h1; subst h1; rw [hy] at h2; cases h2
  | next _ _ _ _ t r _ _ h1 h2 => rw [h] at h1; injection h1 with h1; subst h1; rw [hy] at h2; cases h2
theorem lie_limit {ws : List ByteArray} {m : Nat} {f : VF} {out z : List Tm} {c : Int} {t : Tm} {r : List Tm} (h : termsOf f ws = t :: r) (hy : lynB t.s = true) (hs : lieStep ws t f = none) (hl : LieR ws m f out c z) : c = 3 ∧ z = [] := by
  cases hl with
  | done _ _ _ h1 => rw [h] at h1; cases h1
  | state _ _ _ t r h1 h2 => rw [h] at h1; injection h1 with h1; subst h1; rw [hy] at h2; cases h2
  | limit _ _ _ t r h1 h2 => exact ⟨rfl, rfl⟩
  | next _ _ _ _ t r _ _ h1 h2 h3 => rw [h] at h1; injection h1 with h1; subst h1; rw [hs] at h3; cases h3
theorem lie_next {ws : List ByteArray} {m : Nat} {f g : VF} {out z : List Tm} {c : Int} {t : Tm} {r : List Tm} (h : termsOf f ws = t :: r) (hy : lynB t.s = true) (hs : lieStep ws t f = some g) (hl : LieR ws m f out c z) : ∃ m', m = m' + 1 ∧ LieR ws m' g (out ++ [t]) c z := by
  cases hl with
  | done _ _ _ h1 => rw [h] at h1; cases h1
  | state _ _ _ t r h1 h2 => rw [h] at h1; injection h1 with h1; subst h1; rw [hy] at h2; cases h2
  | limit _ _ _ t r h1 h2 h3 => rw [h] at h1; injection h1 with h1; subst h1; rw [hs] at h3; cases h3
  | next _ _ _ _ t r _ _ h1 h2 h3 h4 => rw [h] at h1; injection h1 with h1; subst h1; rw [hs] at h3; injection h3 with h3; subst h3; exact ⟨_, rfl, h4⟩
theorem after_drop : ∀ {ws : List ByteArray}, ws.Pairwise lessW → ∀ {j : Nat} (hj : j < ws.length) {s : ByteArray}, s ∈ ws → lessW ws[j] s → s ∈ ws.drop (j + 1)
  | [], _, j, hj, _, _, _ => by simp at hj
  | a :: ws, h, 0, hj, s, hs, hl => by
    rcases List.mem_cons.1 hs with rfl | h1
    · unfold lessW at hl
      simp only [List.getElem_cons_zero] at hl
      rw [lessL_irrefl] at hl
      cases hl
    · simpa using h1
  | a :: ws, h, j + 1, hj, s, hs, hl => by
    rw [List.pairwise_cons] at h
    rcases List.mem_cons.1 hs with rfl | h1
    · have h2 : lessW s (ws[j]'(by simpa using hj)) := h.1 _ (List.getElem_mem _)
      simp only [List.getElem_cons_succ] at hl
      have := lessL_trans h2 hl
      rw [lessL_irrefl] at this
      cases this
    · rw [List.drop_succ_cons]
      exact after_drop h.2 (by simpa using hj) h1 (by simpa using hl)
theorem lie_is {D N : Nat} (hD : D ≤ 3) (hN : N ≤ 5) (hDN : D < 3 ∨ N ≤ 4) : ∀ (m k : Nat) (f : VF) (out : List Tm), m = (allW D N).length - k → GoodV (allW D N) f → (∀ s, f s ≠ none → s ∈ (allW D N).drop k) → ∃ c z, LieR (allW D N) m f out c z ∧ (c = 0 ∨ z = [])
  | m, k, f, out, hm, hf, hk => by
    cases ht : termsOf f (allW D N) with
    | nil => exact ⟨_, _, .done m f out ht, .inl rfl⟩
    | cons t r =>
      cases hy : lynB t.s with
      | false => exact ⟨_, _, .state m f out t r ht hy, .inr rfl⟩
      | true =>
        cases hs : lieStep (allW D N) t f with
        | none => exact ⟨_, _, .limit m f out t r ht hy hs, .inr rfl⟩
        | some h =>
          have ha := step_after hD hN hDN hf ht hy hs
          have hh := head_term ht
          have hmem := hk t.s (by rw [hh.2]; exact Option.some_ne_none _)
          obtain ⟨i, hi, e⟩ := List.getElem_of_mem hmem
          rw [List.length_drop] at hi
          rw [List.getElem_drop] at e
          obtain ⟨m', rfl⟩ : ∃ m', m = m' + 1 := ⟨m - 1, by omega⟩
          have hmono : ∀ m1 m2 f out c z, LieR (allW D N) m1 f out c z → m1 ≤ m2 → LieR (allW D N) m2 f out c z := by
            intro m1 m2 f out c z hr
            induction hr generalizing m2 with
            | done m f out h1 => exact fun _ => .done _ _ _ h1
            | state m f out t r h1 h2 => exact fun _ => .state _ _ _ _ _ h1 h2
            | limit m f out t r h1 h2 h3 => exact fun _ => .limit _ _ _ _ _ h1 h2 h3
            | next m f h out t r c z h1 h2 h3 _ ih =>
              intro hle
              obtain ⟨m3, rfl⟩ : ∃ m3, m2 = m3 + 1 := ⟨m2 - 1, by omega⟩
              exact .next _ _ _ _ _ _ _ _ h1 h2 h3 (ih m3 (by omega))
          obtain ⟨c, z, hr, hcz⟩ := lie_is hD hN hDN ((allW D N).length - (k + i + 1)) (k + i + 1) h (out ++ [t]) rfl ha.1 (fun s hs' => by
            obtain ⟨q, hq⟩ := Option.ne_none_iff_exists'.1 hs'
            exact after_drop (allW_asc (D := D) (by omega) N) (by omega) (ha.1 _ _ hq).1 (by rw [e]; exact ha.2 s hs'))
          exact ⟨c, z, .next _ _ _ _ _ _ _ _ ht hy hs (hmono _ m' _ _ _ _ hr (by omega)), hcz⟩
  termination_by m => m
  decreasing_by omega
end Go.Proofs.YtgcjpenlcokgjaaGreatDoor

namespace Go.Proofs.YtgcjpenlcokgjaaGreatDoor
open Go.RowKit

/-- a row that lies in neither of two blocks -/
def RowX (p : Nat) (o : Option Nat) (w : World) (a : Option Addr) (ts : List Tm) : Prop := ts = [] ∨ ∃ b off, a = some ⟨b, off, none⟩ ∧ b < w.heap.size ∧ b ≠ p ∧ some b ≠ o ∧ TermsIn w b off ts
theorem RowX.row {p : Nat} {o : Option Nat} {w : World} {a : Option Addr} {ts : List Tm} (h : RowX p o w a ts) : Row w a ts := by
  rcases h with h | ⟨b, off, h1, h2, _, _, h3⟩
  · exact .inl h
  · exact .inr ⟨b, off, h1, h2, h3⟩
theorem RowX.below {p : Nat} {o : Option Nat} {w w' : World} {a : Option Addr} {ts : List Tm} (h : RowX p o w a ts) (hb : Below w.heap.size w w') : RowX p o w' a ts := by
  rcases h with h | ⟨b, off, h1, h2, h3, h4, h5⟩
  · exact .inl h
  · exact .inr ⟨b, off, h1, Nat.lt_of_lt_of_le h2 hb.size, h3, h4, h5.below hb h2⟩
/-- a new row, behind an append and the stores into the box -/
theorem RowX.of_new {p lo : Nat} {v v' : Value} {w w' : World} {a : Option Addr} {ts : List Tm} (h : NewRow lo w.heap.size w a ts) (hp : p < lo) (hv : ∀ g, v.ownBlock = some g → g < lo) (hg : w.grownBy w' v.ownBlock) (hv' : v'.ownBlock = v.ownBlock ∨ ∃ m, w.heap.size ≤ m ∧ v'.ownBlock = some m) : RowX p v'.ownBlock w' a ts := by
  rcases h with h | ⟨g, rfl, h1, h2, _, h3⟩
  · exact .inl h
  · have hne : some g ≠ v.ownBlock := fun e => by have := hv g e.symm; omega
    refine .inr ⟨g, 0, rfl, Nat.lt_of_lt_of_le h2 hg.size, by omega, ?_, h3.grown hg h2 hne⟩
    rcases hv' with e | ⟨m, hm, e⟩
    · rw [e]; exact hne
    · rw [e]; intro e2; injection e2 with e2; omega
theorem RowX.set {p i : Nat} {o : Option Nat} {w : World} {a : Option Addr} {ts : List Tm} {u : Value} (h : RowX p o w a ts) : RowX p o (w.setCell ⟨p, i, none⟩ u) a ts := by
  rcases h with h | ⟨b, off, h1, h2, h3, h4, h5⟩
  · exact .inl h
  · exact .inr ⟨b, off, h1, by simpa using h2, h3, h4, fun k hk => by
      obtain ⟨e0, e1, e2⟩ := h5 k hk
      have hne : p ≠ b := by omega
      exact ⟨(World.cell?_setCell_far _ _ _ _ hne).trans e0, (World.cell?_setCell_far _ _ _ _ hne).trans e1, (World.cell?_setCell_far _ _ _ _ hne).trans e2⟩⟩
theorem T3.grown {w w' : World} {g : Nat} {x y z : Value} {r : Option Nat} (h : T3 w g x y z) (hg : w.grownBy w' r) (hne : some g ≠ r) : T3 w' g x y z := by
  obtain ⟨h0, h1, h2, h3, h4, h5, h6⟩ := h
  have hb := hg.block g h0 hne
  have hc : ∀ i, w'.cell? ⟨g, i, none⟩ = w.cell? ⟨g, i, none⟩ := fun i => World.cell?_of_block hb
  have hf : ∀ i, w'.frozen? ⟨g, i, none⟩ = w.frozen? ⟨g, i, none⟩ := fun i => World.frozen?_of_block hb
  exact ⟨Nat.lt_of_lt_of_le h0 hg.size, (hc 0).trans h1, (hc 1).trans h2, (hc 2).trans h3, (hf 0).trans h4, (hf 1).trans h5, (hf 2).trans h6⟩
def lenV (v : Value) : Nat := match v with | .slice _ l _ => l | _ => 0

set_option maxRecDepth 100000 in
set_option maxHeartbeats 1600000 in
theorem l06Coordinates_c (D N : Nat) (hsh : shapeB (D : Int) (N : Int) = true) (a1 : Option Addr) (cap1 : Nat) (y : VF) (hy : GoodV (allW D N) y) (xs : List Tm) (hx : termsOf y (allW D N) = xs) (m : Nat) (hm : m ≤ 121) (c : Int) (z : List Tm) (hz : LieR (allW D N) m y [] c z) (w : World) (hr : Row w a1 xs) :
    Calls Tryz.prog 48 #[.agg #[.int .i64 D, .int .i64 N, .slice a1 xs.length cap1]] w (TermsPost z c w) := by
  have hDN := shape_out hsh
  have hW := allW_asc (D := D) (by omega) N
  have hwl := allW_few (D := D) (by omega) (n := N) (by omega)
  have HAfter := Lib.hid (fun (f h : VF) (hf : GoodV (allW D N) f) t r (ht : termsOf f (allW D N) = t :: r) hy e => (step_after (D := D) (N := N) (by omega) (by omega) (by omega) hf (t := t) (r := r) (h := h) ht hy e).1)
  have HTerm := Lib.hid (fun (f : VF) (hf : GoodV (allW D N) f) t r (ht : termsOf f (allW D N) = t :: r) => show t.s.size ≤ 5 ∧ wordB (D : Int) t.s.data.toList = true ∧ isF t.n t.d = true from by
    have h1 := head_term ht
    have h2 := allW_size D N _ h1.1
    exact ⟨by omega, allW_B (by omega) N _ h1.1, (hf _ _ h1.2).2.1⟩)
  have HBr := Lib.hid (fun (s : ByteArray) (h5 : s.size ≤ 5) (h1 : 1 ≤ s.size) (hw : wordB (D : Int) s.data.toList = true) a n c W => (show Calls Tryz.prog 67 #[.agg #[.int .i64 D, .int .i64 N, .slice a n c], .string s] W (SumPost D N ((bW (allW D N) s).map fun h => termsOf h (allW D N)) W) from by
    obtain ⟨b, hb, e⟩ := bW_is (allW D N) h1
    rw [e]
    exact l06Bracket_c D N (by omega) (by omega) hb (by omega) (brk_in (by omega) (by omega) hb hw) a n c W))
  have HGb := Lib.hid (fun (s : ByteArray) (h1 : 1 ≤ s.size) (hw : wordB (D : Int) s.data.toList = true) f (e : bW (allW D N) s = some f) => show GoodV (allW D N) f from by
    obtain ⟨b, hb, e2⟩ := bW_is (allW D N) h1
    exact brkV_good (brk_in (by omega) (by omega) hb hw) (e2.symm.trans e))
  have HAd := Lib.hid (fun (s p : VF) (hs : GoodV (allW D N) s) (hp : GoodV (allW D N) p) (x z : Int) (hxz : isF x z = true) aO aP cO cP W t1 t2 => (l02Add_c D N D N x z (isF_abs hxz).1 (isF_abs hxz).2.1 aO aP cO cP (termsOf s (allW D N)) (termsOf p (allW D N)) (by have := termsOf_len s (allW D N); omega) (by have := termsOf_len p (allW D N); omega) (terms_bd hs) (terms_bd hp) W t1 t2))
  have HPut := Lib.hid (fun (s p : VF) (x z : Int) => addK_put hW (g := p) (a := x) (b := z) (ws := allW D N) (fun _ h => h) s)
  have HLen := Lib.hid (fun f => termsOf_len f (allW D N))
  subst hx
  have HR0 := Lib.hid hr
  have HY := Lib.hid hy
  have HZ := Lib.hid hz
  have hA : ∀ q, a1 = some q → termsOf y (allW D N) ≠ [] → q.block < w.heap.size := fun q e hne => by
    rcases hr with h | ⟨b, off, h1, h2, _⟩
    · exact absurd h hne
    · rw [h1] at e; injection e with e; rw [← e]; exact h2
  clear hr hy hz hsh hW hwl
  go_enter Tryz.func48, Tryz.ntmps48
  go_wp2_with fail
  have HT0 := Lib.hid ((T3.new w (D : Int) (N : Int) a1 (termsOf y (allW D N)).length cap1 26).alloc (.cells #[] 60))
  have HB0 := Lib.hid ((below1 w (.cells #[.int .i64 D, .int .i64 N, .slice a1 (termsOf y (allW D N)).length cap1] 26)).trans ((below1 _ (.cells #[] 60)).mono (by simp)))
  have HO0 := Lib.hid (show OwnT ((w.alloc (.cells #[.int .i64 D, .int .i64 N, .slice a1 (termsOf y (allW D N)).length cap1] 26)).alloc (.cells #[] 60)) (w.heap.size + 1) (.slice (some ⟨w.heap.size + 1, 0, none⟩) 0 0) [] from OwnT.emptyRow (by have h := Blk.new (w.alloc (.cells #[.int .i64 D, .int .i64 N, .slice a1 (termsOf y (allW D N)).length cap1] 26)) 60 #[]; simpa using h) (Nat.le_refl _))
  have hz0 : ((w.alloc (.cells #[.int .i64 D, .int .i64 N, .slice a1 (termsOf y (allW D N)).length cap1] 26)).alloc (.cells #[] 60)).heap.size = w.heap.size + 1 + 1 := by simp
  have HX0 := Lib.hid (show RowX w.heap.size (some (w.heap.size + 1)) ((w.alloc (.cells #[.int .i64 D, .int .i64 N, .slice a1 (termsOf y (allW D N)).length cap1] 26)).alloc (.cells #[] 60)) a1 (termsOf y (allW D N)) from by
    rcases HR0.out with h | ⟨b, off, h1, h2, h3⟩
    · exact .inl h
    · exact .inr ⟨b, off, h1, by rw [hz0]; omega, by omega, by intro e; injection e with e; omega, h3.below HB0.out h2⟩)
  generalize ((w.alloc (.cells #[.int .i64 D, .int .i64 N, .slice a1 (termsOf y (allW D N)).length cap1] 26)).alloc (.cells #[] 60)) = wb at *
  clear hA
  go_loopw [4] (fun v4 wr => ∃ (f : VF) (out : List Tm) (k : Nat) (aP aO : Option Addr) (l cO cP : Nat), LieR (allW D N) k f out c z ∧ GoodV (allW D N) f ∧ out.length + k ≤ 121 ∧ l = out.length ∧ v4 = .slice aO l cO ∧ OwnT wr (w.heap.size + 1) (.slice aO l cO) out ∧ T3 wr w.heap.size (.int .i64 D) (.int .i64 N) (.slice aP (termsOf f (allW D N)).length cP) ∧ RowX w.heap.size (Value.slice aO l cO).ownBlock wr aP (termsOf f (allW D N)) ∧ Below w.heap.size w wr) (fun v4 _ => 200 - lenV v4)
  case atStart => exact ⟨y, [], m, a1, _, 0, 0, cap1, HZ.out, HY.out, by simpa using hm, rfl, rfl, HO0.out, HT0.out, HX0.out, HB0.out⟩
  case round =>
    obtain ⟨f, out, k, aP, aO, l, cO, cP, hlr, hgf, hok, rfl, rfl, hO, hT, hX, hB⟩ := hrel
    obtain ⟨wo, rfl⟩ : ∃ wo : World, wo = wr := ⟨_, rfl⟩
    have HLr := Lib.hid hlr
    have HGf := Lib.hid hgf
    have HO := Lib.hid hO
    have HX := Lib.hid hX
    have HB := Lib.hid hB
    have HT := Lib.hid hT
    have hzo := hB.size
    have hgo := hT.1
    obtain ⟨-, t0, t1, t2, -, -, -⟩ := id hT
    clear hlr hgf hO hX hB hT
    cases htf : termsOf f (allW D N) with
    | nil =>
      obtain ⟨rfl, rfl⟩ := lie_nil htf HLr.out
      rw [htf] at t2
      simp only [List.length_nil] at t2
      obtain ⟨aN, cN, hN1, hN2, hN3⟩ := HO.out.newRow
      injection hN1 with hN1 _ hN4
      subst hN1 hN4
      have HN3 := Lib.hid hN3
      clear hN3 hN2
      go_wp2
      go_ret2
      exact ⟨_, _, rfl, HB.out, HN3.out.mono (by omega) (Nat.le_refl _)⟩
    | cons t r =>
      obtain ⟨hsz5, hwd, hisF⟩ := HTerm.out f HGf.out t r htf
      have hsm : t.s.size ≤ maxLen := by unfold maxLen; omega
      obtain ⟨b, off, rfl, hbz, hbp, hbo, hTi⟩ : ∃ b off, aP = some ⟨b, off, none⟩ ∧ b < wo.heap.size ∧ b ≠ w.heap.size ∧ some b ≠ (Value.slice aO out.length cO).ownBlock ∧ TermsIn wo b off (termsOf f (allW D N)) := by
        rcases HX.out with h | h
        · rw [htf] at h; cases h
        · exact h
      obtain ⟨c0, c1, c2⟩ := hTi 0 (by rw [htf]; simp)
      simp only [htf, List.getElem_cons_zero, Nat.zero_mul, Nat.add_zero] at c0 c1 c2
      have hlen : 0 < (termsOf f (allW D N)).length := by rw [htf]; simp
      have hlen1 : (0 : Int) < ((termsOf f (allW D N)).length : Int) := by omega
      have HTf := Lib.hid htf
      have HIF := Lib.hid hisF
      have HW2 := Lib.hid hwd
      have HNg := Lib.hid (show isF (-t.n) t.d = true from by
        have := isF_out hisF
        simp only [isF, decide_eq_true_eq]
        refine ⟨by omega, by omega, by omega, by omega, ?_⟩
        unfold gi at *
        rw [Int.neg_gcd]
        exact this.2.2.2.2)
      have hng : IntKind.i64.wrap (-t.n) = -t.n := by have := isF_out hisF; exact IntWalk.i64_in _ ⟨by omega, by omega⟩
      have HSt := Lib.hid (fun (e : bW (allW D N) t.s = none) => show lieStep (allW D N) t f = none from sum_none (t := ⟨t.s, -t.n, t.d⟩) (f := f) e)
      have HSs := Lib.hid (fun g (e : bW (allW D N) t.s = some g) => show lieStep (allW D N) t f = addK g (-t.n) t.d (allW D N) f from sum_some (t := ⟨t.s, -t.n, t.d⟩) (f := f) e)
      have HSta := Lib.hid (fun (e : lynB t.s = false) => lie_state htf e HLr.out)
      have HLim := Lib.hid (fun (e : lynB t.s = true) e2 => lie_limit htf e e2 HLr.out)
      have HNx := Lib.hid (fun (e : lynB t.s = true) h (e2 : lieStep (allW D N) t f = some h) => lie_next htf e e2 HLr.out)
      have HAf := Lib.hid (fun (e : lynB t.s = true) h (e2 : lieStep (allW D N) t f = some h) => HAfter.out f h HGf.out t r htf e e2)
      obtain ⟨s, n, d⟩ := t
      simp only at c0 c1 c2 hsz5 hsm hng
      clear htf hisF hwd hTi
      obtain ⟨lf, hlf⟩ : ∃ lf, (termsOf f (allW D N)).length = lf := ⟨_, rfl⟩
      have HLf := Lib.hid hlf
      rw [hlf] at t2 hlen hlen1
      clear hlf
      have h5 : T3 (wo.alloc (.cells #[.string s, .int .i64 n, .int .i64 d] 60)) wo.heap.size (.string s) (.int .i64 n) (.int .i64 d) := ⟨by simp, by go_simp, by go_simp, by go_simp, by go_simp, by go_simp, by go_simp⟩
      have hBa := below1 wo (.cells #[.string s, .int .i64 n, .int .i64 d] 60)
      have HT2 := Lib.hid (HT.out.next hBa)
      have H52 := Lib.hid h5
      have HX2 := Lib.hid (HX.out.below hBa)
      have HO2 := Lib.hid (HO.out.alloc (.cells #[.string s, .int .i64 n, .int .i64 d] 60))
      have HB2 := Lib.hid (HB.out.trans (hBa.mono (by omega)))
      clear h5 hBa
      cases hly : lynB s with
      | false =>
        obtain ⟨rfl, rfl⟩ := HSta.out hly
        have HLy := Lib.hid hly
        clear hly
        go_wp2_with (first | (go_at_call 62; refine (l06Lyndon_c _ hsm _).mono ?_; rw [HLy.out]; rintro e w' ⟨rfl, rfl⟩) | fail)
        go_ret2
        exact TermsPost.err 5 rfl HB2.out
      | true =>
        have HLy := Lib.hid hly
        have hs1 : 1 ≤ s.size := (lynB_true hly).1
        clear hly
        go_wp2_with (first | (go_at_call 62; refine (l06Lyndon_c _ hsm _).mono ?_; rw [HLy.out]; rintro e w' ⟨rfl, rfl⟩) | fail)
        refine (HBr.out s hsz5 hs1 HW2.out _ _ _ _).mono ?_
        intro e w3 hpost
        obtain ⟨X5, Y5, a5, l5, c5, ok5, rfl, hb3, hU5⟩ := SumPost.u hpost
        have hz3 := hb3.size
        simp only [World.size_alloc] at hz3
        obtain ⟨rr, hrr⟩ : ∃ rr, bW (allW D N) s = rr := ⟨_, rfl⟩
        have HGs := Lib.hid (HGb.out s hs1 HW2.out)
        rw [hrr] at hU5 HSt HSs HGs
        cases rr with
        | none =>
          obtain ⟨rfl, rfl, rfl, rfl, rfl, rfl⟩ := hU5
          obtain ⟨rfl, rfl⟩ := HLim.out HLy.out (HSt.out rfl)
          have HB3 := Lib.hid (HB2.out.trans (hb3.mono (by simp; omega)))
          clear hb3 hpost hrr t0 t1 t2 c0 c1 c2
          go_wp2
          go_ret2
          refine TermsPost.err 3 rfl ?_
          have hq := HB3.out
          go_grown
        | some g2 =>
          obtain ⟨rfl, rfl, rfl, rfl, hN5⟩ := hU5
          have HB3 := Lib.hid (HB2.out.trans (hb3.mono (by simp; omega)))
          have HT3 := Lib.hid (HT2.out.next hb3)
          have H53 := Lib.hid (H52.out.next hb3)
          have HX3 := Lib.hid (HX2.out.below hb3)
          have HO3 := Lib.hid (HO2.out.below hb3 (fun g e => (HO2.out.lt g e).2))
          have HN3 := Lib.hid hN5
          clear hb3 hpost hrr t0 t1 t2 c0 c1 c2 hN5
          obtain ⟨qq, hqq⟩ : ∃ qq, lieStep (allW D N) ⟨s, n, d⟩ f = qq := ⟨_, rfl⟩
          have HQ := Lib.hid hqq
          have hSs := HSs.out g2 rfl
          rw [hqq] at hSs
          have HAdd := Lib.hid (fun W (hW : Below w3.heap.size w3 W) => (show Calls Tryz.prog 68 #[.agg #[.int .i64 D, .int .i64 N, .slice (some ⟨b, off, none⟩) lf cP], .agg #[.int .i64 D, .int .i64 N, .slice a5 (termsOf g2 (allW D N)).length c5], .agg #[.int .i64 (-n), .int .i64 d]] W (SumPost D N (qq.map fun h => termsOf h (allW D N)) W) from by
            have h := HAd.out f g2 HGf.out (HGs.out g2 rfl) (-n) d HNg.out (some ⟨b, off, none⟩) a5 cP c5 W (HX3.out.row.below hW) (HN3.out.row.below hW)
            rw [HPut.out f g2 (-n) d, ← hSs, HLf.out] at h
            exact h))
          obtain ⟨hz30, p0, p1, p2, -, -, -⟩ := id HT3.out
          rw [HLf.out] at p2
          obtain ⟨hz35, v0, v1, v2, -, -, -⟩ := id H53.out
          clear hqq hSs
          obtain ⟨l5, hl5⟩ : ∃ l5, (termsOf g2 (allW D N)).length = l5 := ⟨_, rfl⟩
          rw [hl5] at HAdd ⊢
          clear hl5
          go_wp2_with fail
          (refine (HAdd.out _ ?_).mono ?_)
          focus repeat' (first | with_reducible assumption | with_reducible exact Below.refl _ _ | (with_reducible refine Below.drew ?_) | (with_reducible refine Below.setCell ?_ (by (try dsimp only); omega) _) | (with_reducible refine Below.alloc ?_ (by (try simp only [World.size_setCell]); (try simp only [World.size_drew]); (try simp only [World.size_alloc]); (try simp only [World.size_setCell]); (try simp only [World.size_alloc]); omega) _))
          intro e w5 hpost
          obtain ⟨X8, Y8, a8, l8, c8, ok8, rfl, hb5, hU8⟩ := SumPost.u hpost
          have hB35 : Below w3.heap.size w3 w5 := below_step (by repeat' (first | with_reducible assumption | with_reducible exact Below.refl _ _ | (with_reducible refine Below.drew ?_) | (with_reducible refine Below.setCell ?_ (by (try dsimp only); omega) _) | (with_reducible refine Below.alloc ?_ (by (try simp only [World.size_setCell]); (try simp only [World.size_drew]); (try simp only [World.size_alloc]); (try simp only [World.size_setCell]); (try simp only [World.size_alloc]); omega) _))) hb5 (Nat.le_refl _)
          have hz5 := hb5.size
          simp only [World.size_alloc] at hz5
          cases qq with
          | none =>
            obtain ⟨rfl, rfl, rfl, rfl, rfl, rfl⟩ := hU8
            obtain ⟨rfl, rfl⟩ := HLim.out HLy.out HQ.out
            have HB5 := Lib.hid (HB3.out.trans (hB35.mono (by omega)))
            clear hb5 hpost hB35 p0 p1 p2 v0 v1 v2
            go_wp2
            go_ret2
            refine TermsPost.err 3 rfl ?_
            have hq := HB5.out
            go_grown
          | some h =>
            obtain ⟨rfl, rfl, rfl, rfl, hN8⟩ := hU8
            obtain ⟨k', rfl, hlr'⟩ := HNx.out HLy.out h HQ.out
            have HLr' := Lib.hid hlr'
            have HGh := Lib.hid (HAf.out HLy.out h HQ.out)
            have HB5 := Lib.hid (HB3.out.trans (hB35.mono (by omega)))
            have HT5 := Lib.hid (HT3.out.next hB35)
            have H55 := Lib.hid (H53.out.next hB35)
            have HO5 := Lib.hid (HO3.out.below hB35 (fun g e => (HO3.out.lt g e).2))
            have HOlt := Lib.hid (fun g e => (HO3.out.lt g e).2)
            have HN5 := Lib.hid (hN8.mono (lo' := w3.heap.size) (by simp; omega) (Nat.le_refl _))
            have hz35 := hB35.size
            obtain ⟨hz50, q0, q1, q2, -, -, -⟩ := id HT5.out
            obtain ⟨hz55, v0, v1, v2, -, -, -⟩ := id H55.out
            have ht1 := terms_one (w5.alloc (.cells #[.int .i64 D, .int .i64 N, .slice a8 (termsOf h (allW D N)).length c8] 26)) ⟨s, n, d⟩
            rw [World.size_alloc] at ht1
            have HT1 := Lib.hid ht1
            have h9 := (T3.new w5 (D : Int) (N : Int) a8 (termsOf h (allW D N)).length c8 26).alloc (.cells #[.string s, .int .i64 n, .int .i64 d] 60)
            have H9 := Lib.hid h9
            obtain ⟨-, u0, u1, u2, -, -, -⟩ := id h9
            clear hb5 hpost hB35 hN8 hlr' ht1 p0 p1 p2 h9 u0 u1 u2
            go_wp2_with (first | (at_builtin; refine wpList_append_terms rfl _ _ rfl (w.heap.size + 1) (.slice aO out.length cO) out.length out [⟨s, n, d⟩] rfl rfl ((HO5.out.alloc _).alloc _) _ 1 1 rfl rfl (.inr ⟨w5.heap.size + 1, 0, rfl, HT1.out⟩) (by omega) (by simp; omega) ?_) | fail)
            intro a3 c3 w6 hO6 hG6 hor6
            have hz6 := hG6.size
            simp only [World.size_alloc] at hz6
            have hBl := own_grown ((HO5.out.alloc (.cells #[.int .i64 D, .int .i64 N, .slice a8 (termsOf h (allW D N)).length c8] 26)).alloc (.cells #[.string s, .int .i64 n, .int .i64 d] 60)) hG6 (by simp; omega)
            have H96 := Lib.hid (H9.out.grown hG6 (fun e => by have := HOlt.out _ e.symm; omega))
            have HT6 := Lib.hid (((HT5.out.alloc (.cells #[.int .i64 D, .int .i64 N, .slice a8 (termsOf h (allW D N)).length c8] 26)).alloc (.cells #[.string s, .int .i64 n, .int .i64 d] 60)).below hBl (by omega))
            have HO6 := Lib.hid hO6
            have HX6 := Lib.hid (RowX.of_new (p := w.heap.size) (lo := w3.heap.size) (v := .slice aO out.length cO) (v' := .slice a3 (out.length + 1) c3) (((HN5.out.below (below1 w5 (.cells #[.int .i64 D, .int .i64 N, .slice a8 (termsOf h (allW D N)).length c8] 26)) (Nat.le_refl _)).below ((below1 _ (.cells #[.string s, .int .i64 n, .int .i64 d] 60)).mono (by simp)) (Nat.le_refl _)).mono (Nat.le_refl _) (by simp; omega)) (by omega) HOlt.out hG6 (by
              rcases hor6 with e | e
              · exact .inl e
              · exact .inr ⟨w5.heap.size + 1 + 1, by simp, by simpa using e⟩))
            have HB6 := Lib.hid (HB5.out.trans (((below2 w5 _ _).mono (by omega)).trans (hBl.mono (by omega))))
            obtain ⟨hz60, p0, p1, p2, y0, y1, y2⟩ := id HT6.out
            obtain ⟨hz69, u0, u1, u2, -, -, -⟩ := id H96.out
            clear hO6 hG6 hor6 hBl q0 q1 q2 v0 v1 v2
            go_wp2_with fail
            go_roundw
            case rel =>
              refine ⟨h, out ++ [⟨s, n, d⟩], k', a8, a3, _, c3, c8, HLr'.out, HGh.out, by rw [List.length_append]; simp only [List.length_singleton]; omega, by rw [List.length_append]; rfl, rfl, ?_, HT6.out.set3, HX6.out.set.set.set, ?_⟩
              · exact ((HO6.out.far (p := ⟨w.heap.size, 0, none⟩) (own_far (n := w.heap.size) HO6.out (Nat.lt_succ_self _)) _).far (p := ⟨w.heap.size, 1, none⟩) (own_far (n := w.heap.size) HO6.out (Nat.lt_succ_self _)) _).far (p := ⟨w.heap.size, 2, none⟩) (own_far (n := w.heap.size) HO6.out (Nat.lt_succ_self _)) _
              · exact ((HB6.out.setCell (p := ⟨w.heap.size, 0, none⟩) (Nat.le_refl _) _).setCell (p := ⟨w.heap.size, 1, none⟩) (Nat.le_refl _) _).setCell (p := ⟨w.heap.size, 2, none⟩) (Nat.le_refl _) _
            case measure => simp [lenV]; omega

set_option maxRecDepth 100000 in
theorem sLie_1 (L V : Int) (g : Nat) (ts : List Tm) (hl : ts.length ≤ 1048576) (hs : ∀ i (h : i < ts.length), (ts[i]).s.size ≤ maxLen) (h1 : serB L V ts = false) (w : World) (hb : g < w.heap.size) (t1 : TermsIn w g 0 ts) :
    Calls Tryz.prog 20 #[.agg #[.int .i64 L, .int .i64 V, .slice (some ⟨g, 0, none⟩) ts.length ts.length]] w (TermsPost [] 1 w) := by
  have HIs := Lib.hid (fun W (hW : Below w.heap.size w W) => l01Is_c L V g 0 ts.length ts hl hs W (Nat.lt_of_lt_of_le hb hW.size) (t1.below hW hb))
  rw [h1] at HIs
  clear hl hs h1 t1
  go_enter Tryz.func20, Tryz.ntmps20
  go_wp2_with fail
  refine (HIs.out _ (below1 w _)).mono ?_
  rintro e w1 ⟨rfl, hb1⟩
  have HB1 := Lib.hid ((below1 w (.cells #[.int .i64 L, .int .i64 V, .slice (some ⟨g, 0, none⟩) ts.length ts.length] 26)).trans (hb1.mono (by simp)))
  clear hb1
  go_wp2
  go_ret2
  exact TermsPost.err 1 rfl HB1.out

set_option maxRecDepth 100000 in
set_option maxHeartbeats 4000000 in
theorem sLie_2 (D N : Nat) (g : Nat) (ts : List Tm) (hl : ts.length ≤ 1048576) (hs : ∀ i (h : i < ts.length), (ts[i]).s.size ≤ maxLen) (h1 : serB D N ts = true) (m : Nat) (hm : m ≤ 121) (c : Int) (z : List Tm) (hz : LieR (allW D N) m (valV ts ts.length) [] c z) (w : World) (hb : g < w.heap.size) (t1 : TermsIn w g 0 ts) :
    Calls Tryz.prog 20 #[.agg #[.int .i64 D, .int .i64 N, .slice (some ⟨g, 0, none⟩) ts.length ts.length]] w (TermsPost z c w) := by
  have hsh : shapeB (D : Int) (N : Int) = true := by unfold serB at h1; rw [Bool.and_eq_true] at h1; exact h1.1
  have hv := good_valV h1
  have HIs := Lib.hid (fun W (hW : Below w.heap.size w W) => l01Is_c D N g 0 ts.length ts hl hs W (Nat.lt_of_lt_of_le hb hW.size) (t1.below hW hb))
  have HC := Lib.hid (fun W (hW : Below w.heap.size w W) => l06Coordinates_c D N hsh (some ⟨g, 0, none⟩) ts.length (valV ts ts.length) hv.1 ts hv.2 m hm c z hz W (.inr ⟨g, 0, rfl, Nat.lt_of_lt_of_le hb hW.size, t1.below hW hb⟩))
  rw [h1] at HIs
  clear hl hs h1 t1 hv hz hsh
  go_enter Tryz.func20, Tryz.ntmps20
  go_wp2_with fail
  refine (HIs.out _ (below1 w _)).mono ?_
  rintro e w1 ⟨rfl, hb1⟩
  have HB1 := Lib.hid ((below1 w (.cells #[.int .i64 D, .int .i64 N, .slice (some ⟨g, 0, none⟩) ts.length ts.length] 26)).trans (hb1.mono (by simp)))
  obtain ⟨hzz, p0, p1, p2, -, -, -⟩ := (T3.new w (D : Int) (N : Int) (some ⟨g, 0, none⟩) ts.length ts.length 26).next hb1
  have hz1 := hb1.size
  simp only [World.size_alloc] at hz1
  clear hb1
  go_wp2_with fail
  refine (HC.out _ HB1.out).mono ?_
  rintro e w2 ⟨a, cap, rfl, hb2, hN2⟩
  have HB2 := Lib.hid (HB1.out.trans (hb2.mono (by omega)))
  have HN2 := Lib.hid (hN2.mono (lo' := w.heap.size) (by omega) (Nat.le_refl _))
  clear hb2 hN2 p0 p1 p2
  go_wp2
  go_ret2
  exact ⟨a, cap, rfl, HB2.out, HN2.out⟩
end Go.Proofs.YtgcjpenlcokgjaaGreatDoor

namespace Go.Proofs.YtgcjpenlcokgjaaGreatDoor
open Go.RowKit

theorem oppo_c (x d : Int) (hneg : IntKind.i64.wrap (-x) = -x) (w : World) :
    Calls Tryz.prog 95 #[.agg #[.int .i64 x, .int .i64 d]] w fun e w' => e = .returned (.agg #[.int .i64 (-x), .int .i64 d]) ∧ ∃ o o2, w' = (w.alloc o).alloc o2 := by
  go_enter Tryz.func95, Tryz.ntmps95
  go_wp2
  exact bodyPost_ret (v := .agg #[.int .i64 (-x), .int .i64 d]) (by simp [results, Tryz.results95, go_sem]) rfl ⟨rfl, _, _, rfl⟩
set_option maxRecDepth 100000 in
set_option maxHeartbeats 4000000 in
theorem lessWork (D N : Nat) (hsh : shapeB (D : Int) (N : Int) = true) (f : VF) (hf : GoodV (allW D N) f) (a1 : Option Addr) (cap1 : Nat) (xs : List Tm) (hx : termsOf f (allW D N) = xs) (s : ByteArray) (n d : Int) (hF : isF (-n) d = true) (hF0 : isF n d = true) (bk : Brk) (hbk : BrkOf s bk) (hsw : s ∈ allW D N) (q : Nat) (pX p pB pF b off cS : Nat) (w : World)
    (_hpX : pX < w.heap.size) (hp : p < w.heap.size) (hpB : pB < w.heap.size) (hpF : pF < w.heap.size)
    (x0 : w.cell? ⟨pX, 0, none⟩ = some (.int .i64 D)) (x1 : w.cell? ⟨pX, 1, none⟩ = some (.int .i64 N)) (x2 : w.cell? ⟨pX, 2, none⟩ = some (.slice a1 xs.length cap1))
    (s0 : w.cell? ⟨p, 0, none⟩ = some (.int .i64 D)) (s1 : w.cell? ⟨p, 1, none⟩ = some (.int .i64 N)) (s2 : w.cell? ⟨p, 2, none⟩ = some (.slice (some ⟨b, off, none⟩) (allW D N).length cS))
    (e1 : w.cell? ⟨pB, 1, none⟩ = some (.func (.func 78) #[.pointer (some ⟨q, 0, none⟩)] #[])) (f0 : w.cell? ⟨pF, 0, none⟩ = some (.int .i64 n)) (f1 : w.cell? ⟨pF, 1, none⟩ = some (.int .i64 d))
    (hb : b < w.heap.size) (hI : StrsIn w b off (allW D N)) (hr : Row w a1 xs) (hY : InY w bk q) :
    Calls Tryz.prog 94 #[.pointer (some ⟨pX, 0, none⟩), .pointer (some ⟨p, 0, none⟩), .pointer (some ⟨pB, 0, none⟩), .pointer (some ⟨pF, 0, none⟩)] w (WorkPost (lieStep (allW D N) ⟨s, n, d⟩ f) w) := by
  have hDN := shape_out hsh
  have hser : serB (D : Int) (N : Int) xs = true := by rw [← hx]; exact ser_terms hsh hf
  have hfew := few_ser hser
  have hw121 := allW_121 D (by omega) (by omega) N (by omega) (by omega)
  have hws5 : ∀ s ∈ allW D N, s.size ≤ 1000 := fun s hs => by have := allW_size D N s hs; omega
  have hvx : valV xs xs.length = f := by rw [← hx]; exact valV_terms hsh hf
  have hxs : ∀ i (h : i < xs.length), (xs[i]).s.size ≤ maxLen := fun i h => by
    have h2 : (xs[i]) ∈ termsOf f (allW D N) := by rw [hx]; exact List.getElem_mem h
    have := allW_size D N _ (termsOf_iff.1 h2).1
    unfold maxLen; omega
  have hs1 : 1 ≤ s.size := by
    cases hbk with
    | one _ h => omega
    | two _ _ _ _ h => omega
  have HVo := Lib.hid (fun W (hW : Below w.heap.size w W) => valuesOf_c D N a1 cap1 xs (by omega) hxs W (hr.below hW))
  have HSr := Lib.hid (fun W (hW : Below w.heap.size w W) => show SRow W (some ⟨b, off, none⟩) (allW D N) from .inr ⟨b, off, rfl, Nat.lt_of_lt_of_le hb hW.size, hI.below hW hb⟩)
  have hBin : bk.inW (allW D N) := brk_in (by omega) (by omega) hbk (allW_B (by omega) N s hsw)
  have HVi := Lib.hid (fun W (hW : Below w.heap.size w W) => valuesIn_c D N (some ⟨b, off, none⟩) cS (allW D N) (by omega) hws5 bk q hBin W (hY.below hW).toT.lt (hY.below hW).toT (HSr.out W hW) (fun r e => by injection e with e; rw [← e]; exact Nat.lt_of_lt_of_le hb hW.size))
  have HAd := Lib.hid (fun (g : VF) hg bs n' bx m (hn : n' ≤ 900000) (hbs : w.heap.size ≤ bs) (hne : bx ≠ bs) W (hW : Below w.heap.size w W) m1 m2 => addMultiple_c (D : Int) (N : Int) (some ⟨b, off, none⟩) cS (allW D N) (by omega) hws5 f g hf hg (-n) d hF bs n' bx m hn hne W (HSr.out W hW) (fun r e => by injection e with e; rw [← e]; show b ≠ bs; omega) m1 m2)
  have hng : IntKind.i64.wrap (-n) = -n := by have := isF_out hF0; exact IntWalk.i64_in _ ⟨by omega, by omega⟩
  have HOp := Lib.hid (fun W => oppo_c n d hng W)
  have KS := Lib.hid (show ∀ w', Below w.heap.size w w' → (w'.cell? ⟨p, 0, none⟩ = some (.int .i64 D) ∧ w'.cell? ⟨p, 1, none⟩ = some (.int .i64 N) ∧ w'.cell? ⟨p, 2, none⟩ = some (.slice (some ⟨b, off, none⟩) (allW D N).length cS) ∧ w'.cell? ⟨pB, 1, none⟩ = some (.func (.func 78) #[.pointer (some ⟨q, 0, none⟩)] #[]) ∧ w'.cell? ⟨pF, 0, none⟩ = some (.int .i64 n) ∧ w'.cell? ⟨pF, 1, none⟩ = some (.int .i64 d)) from fun w' hb => ⟨(hb.cell (p := ⟨p, 0, none⟩) hp).trans s0, (hb.cell (p := ⟨p, 1, none⟩) hp).trans s1, (hb.cell (p := ⟨p, 2, none⟩) hp).trans s2, (hb.cell (p := ⟨pB, 1, none⟩) hpB).trans e1, (hb.cell (p := ⟨pF, 0, none⟩) hpF).trans f0, (hb.cell (p := ⟨pF, 1, none⟩) hpF).trans f1⟩)
  have HVx := Lib.hid hvx
  have hxl : xs.length ≤ 900000 := by omega
  obtain ⟨r, hr0⟩ : ∃ r, brkV (allW D N) bk = r := ⟨_, rfl⟩
  have HGg := Lib.hid (fun g2 (e : r = some g2) => brkV_isF (hr0.trans e))
  have HBw : Hid (bW (allW D N) s = r) := Lib.hid ((bW_brk (allW D N) hs1 hbk).trans hr0)
  rw [hr0] at HVi
  obtain ⟨o, ho⟩ : ∃ o, lieStep (allW D N) ⟨s, n, d⟩ f = o := ⟨_, rfl⟩
  rw [ho]
  have HLn := Lib.hid (fun (e : r = none) => show o = none from ho.symm.trans (sum_none (t := ⟨s, -n, d⟩) (f := f) (HBw.out.trans e)))
  have HSm := Lib.hid (fun g2 (e : r = some g2) => show o = addK g2 (-n) d (allW D N) f from ho.symm.trans (sum_some (t := ⟨s, -n, d⟩) (f := f) (HBw.out.trans e)))
  clear hsh hf hx hF hF0 hbk hsw hI hr hY hser hvx hxs hs1 hBin hr0 ho
  go_enter Tryz.func94, Tryz.ntmps94
  go_wp2_with fail
  refine (HVo.out _ (Below.refl _ _)).mono ?_
  rintro e w1 ⟨bm, rfl, hbm, hB1, hM1⟩
  rw [HVx.out] at hM1
  have hz1 := hB1.size
  have hmz := hM1.lt
  have HB1 := Lib.hid hB1
  have HM1 := Lib.hid hM1
  obtain ⟨s0', s1', s2', e1', f0', f1'⟩ := KS.out _ hB1
  have hpq : p < w1.heap.size := by omega
  have hBq : pB < w1.heap.size := by omega
  have hFq : pF < w1.heap.size := by omega
  have KW := Lib.hid (show ∀ w', Below w1.heap.size w1 w' → (w'.cell? ⟨p, 0, none⟩ = some (.int .i64 D) ∧ w'.cell? ⟨p, 1, none⟩ = some (.int .i64 N) ∧ w'.cell? ⟨p, 2, none⟩ = some (.slice (some ⟨b, off, none⟩) (allW D N).length cS) ∧ w'.cell? ⟨pB, 1, none⟩ = some (.func (.func 78) #[.pointer (some ⟨q, 0, none⟩)] #[]) ∧ w'.cell? ⟨pF, 0, none⟩ = some (.int .i64 n) ∧ w'.cell? ⟨pF, 1, none⟩ = some (.int .i64 d)) from fun w' hb => ⟨(hb.cell (p := ⟨p, 0, none⟩) hpq).trans s0', (hb.cell (p := ⟨p, 1, none⟩) hpq).trans s1', (hb.cell (p := ⟨p, 2, none⟩) hpq).trans s2', (hb.cell (p := ⟨pB, 1, none⟩) hBq).trans e1', (hb.cell (p := ⟨pF, 0, none⟩) hFq).trans f0', (hb.cell (p := ⟨pF, 1, none⟩) hFq).trans f1'⟩)
  have hwp : p ≠ bm := by omega
  have hwB : pB ≠ bm := by omega
  have hwF : pF ≠ bm := by omega
  have KG := Lib.hid (show ∀ w', w1.grownBy w' (some bm) → (w'.cell? ⟨p, 0, none⟩ = some (.int .i64 D) ∧ w'.cell? ⟨p, 1, none⟩ = some (.int .i64 N) ∧ w'.cell? ⟨p, 2, none⟩ = some (.slice (some ⟨b, off, none⟩) (allW D N).length cS) ∧ w'.cell? ⟨pB, 1, none⟩ = some (.func (.func 78) #[.pointer (some ⟨q, 0, none⟩)] #[]) ∧ w'.cell? ⟨pF, 0, none⟩ = some (.int .i64 n) ∧ w'.cell? ⟨pF, 1, none⟩ = some (.int .i64 d)) from fun w' hG => ⟨(gr_cell hG hpq hwp).trans s0', (gr_cell hG hpq hwp).trans s1', (gr_cell hG hpq hwp).trans s2', (gr_cell hG hBq hwB).trans e1', (gr_cell hG hFq hwF).trans f0', (gr_cell hG hFq hwF).trans f1'⟩)
  have HVw := Lib.hid (fun W (hW : Below w1.heap.size w1 W) => HVi.out W (HB1.out.trans (hW.mono (by omega))))
  have HAw := Lib.hid (fun g2 (e : r = some g2) bx mx (hne : bm < bx) W (hW : Below w1.heap.size w1 W) m1 m2 => HAd.out g2 (HGg.out g2 e) bm xs.length bx mx hxl hbm (by omega) W (HB1.out.trans (hW.mono (by omega))) m1 m2)
  have HOw := Lib.hid (fun W (_ : Below w1.heap.size w1 W) => HOp.out W)
  clear hB1 hM1 x0 x1 x2 s0 s1 s2 e1 f0 f1 s0' s1' s2' e1' f0' f1'
  go_upto_region 2 with fail
  go_region_held2 (fun w' => w'.cell? ⟨p, 0, none⟩ = some (.int .i64 D) ∧ w'.cell? ⟨p, 1, none⟩ = some (.int .i64 N) ∧ w'.cell? ⟨p, 2, none⟩ = some (.slice (some ⟨b, off, none⟩) (allW D N).length cS) ∧ w'.cell? ⟨pB, 1, none⟩ = some (.func (.func 78) #[.pointer (some ⟨q, 0, none⟩)] #[]) ∧ w'.cell? ⟨pF, 0, none⟩ = some (.int .i64 n) ∧ w'.cell? ⟨pF, 1, none⟩ = some (.int .i64 d))
    (first | (exact KG.out _ hG9) | ((refine KW.out _ ?_); (repeat' (first | with_reducible assumption | with_reducible exact Below.refl _ _ | (with_reducible refine Below.drew ?_) | (with_reducible refine Below.setCell ?_ (by (try dsimp only); omega) _) | (with_reducible refine Below.alloc ?_ (by (try simp only [World.size_setCell]); (try simp only [World.size_drew]); (try simp only [World.size_alloc]); (try simp only [World.size_setCell]); (try simp only [World.size_alloc]); omega) _))); done) | fail)
    (first
      | (go_at_call 78; (with_reducible refine work_or (HVw.out _ ?_) ?_ ?_); (focus repeat' (first | with_reducible assumption | with_reducible exact Below.refl _ _ | (with_reducible refine Below.drew ?_) | (with_reducible refine Below.setCell ?_ (by (try dsimp only); omega) _) | (with_reducible refine Below.alloc ?_ (by (try simp only [World.size_setCell]); (try simp only [World.size_drew]); (try simp only [World.size_alloc]); (try simp only [World.size_setCell]); (try simp only [World.size_alloc]); omega) _))); (focus (intro e w' hb'; refine ⟨rfl, ?_⟩; rw [HLn.out e]; exact ⟨rfl, HB1.out.trans ((below_step (by repeat' (first | with_reducible assumption | with_reducible exact Below.refl _ _ | (with_reducible refine Below.drew ?_) | (with_reducible refine Below.setCell ?_ (by (try dsimp only); omega) _) | (with_reducible refine Below.alloc ?_ (by (try simp only [World.size_setCell]); (try simp only [World.size_drew]); (try simp only [World.size_alloc]); (try simp only [World.size_setCell]); (try simp only [World.size_alloc]); omega) _))) hb' (Nat.le_refl _)).mono (by omega))⟩)); intro bx mx fx wx eX hlx hb0 hnx hMx; have hbx : Below w1.heap.size w1 wx := below_step (by repeat' (first | with_reducible assumption | with_reducible exact Below.refl _ _ | (with_reducible refine Below.drew ?_) | (with_reducible refine Below.setCell ?_ (by (try dsimp only); omega) _) | (with_reducible refine Below.alloc ?_ (by (try simp only [World.size_setCell]); (try simp only [World.size_drew]); (try simp only [World.size_alloc]); (try simp only [World.size_setCell]); (try simp only [World.size_alloc]); omega) _))) hb0 (Nat.le_refl _); have hzx : bm < bx := (by (try simp only [World.size_drew] at hlx); (try have hz6 := hb6.size); omega))
      | (go_at_call 95; (with_reducible refine (HOw.out _ ?_).mono ?_); (focus repeat' (first | with_reducible assumption | with_reducible exact Below.refl _ _ | (with_reducible refine Below.drew ?_) | (with_reducible refine Below.setCell ?_ (by (try dsimp only); omega) _) | (with_reducible refine Below.alloc ?_ (by (try simp only [World.size_setCell]); (try simp only [World.size_drew]); (try simp only [World.size_alloc]); (try simp only [World.size_setCell]); (try simp only [World.size_alloc]); omega) _))); rintro e w6 ⟨rfl, o1, o2, hw6⟩; have hb0 : Below _ _ w6 := (by rw [hw6]; exact below2 _ _ _); have hb6 : Below w1.heap.size w1 w6 := below_step (by repeat' (first | with_reducible assumption | with_reducible exact Below.refl _ _ | (with_reducible refine Below.drew ?_) | (with_reducible refine Below.setCell ?_ (by (try dsimp only); omega) _) | (with_reducible refine Below.alloc ?_ (by (try simp only [World.size_setCell]); (try simp only [World.size_drew]); (try simp only [World.size_alloc]); (try simp only [World.size_setCell]); (try simp only [World.size_alloc]); omega) _))) hb0 (Nat.le_refl _); (try have hMx6 := hMx.below hb0 hMx.lt); clear hw6 hb0)
      | (go_at_call 42; (with_reducible refine add_or (HAw.out fx eX bx mx hzx _ ?_ ?_ ?_) ?_ ?_); (focus repeat' (first | with_reducible assumption | with_reducible exact Below.refl _ _ | (with_reducible refine Below.drew ?_) | (with_reducible refine Below.setCell ?_ (by (try dsimp only); omega) _) | (with_reducible refine Below.alloc ?_ (by (try simp only [World.size_setCell]); (try simp only [World.size_drew]); (try simp only [World.size_alloc]); (try simp only [World.size_setCell]); (try simp only [World.size_alloc]); omega) _))); (focus (first | exact HM1.out.below hbx hmz | exact HM1.out.below hb6 hmz)); (focus (first | (with_reducible exact hMx) | exact hMx6)); (focus (intro e w' hg'; refine ⟨rfl, ?_⟩; rw [(HSm.out fx eX).trans e]; (first | exact ⟨rfl, HB1.out.trans ((hbx.mono (by omega)).trans (below_of_grown hg' (fun g e => by injection e with e; omega) (by have := hbx.size; omega)))⟩ | exact ⟨rfl, HB1.out.trans ((hb6.mono (by omega)).trans (below_of_grown hg' (fun g e => by injection e with e; omega) (by have := hb6.size; omega)))⟩))); intro h9 w9 e9 hM9 hG0; have hG9 : w1.grownBy w9 (some bm) := (by first | exact gr_trans (gr_below hbx) hG0 | exact gr_trans (gr_below hb6) hG0))
      | fail)
  all_goals
    have HM9 := Lib.hid hM9
    have HB9 := Lib.hid (HB1.out.trans (below_of_grown hG9 (fun g e => by injection e with e; omega) (by omega)))
    have HN9 := Lib.hid (show o = some h9 from (HSm.out fx eX).trans e9)
    have hgz := hG9.size
    clear hM9 hG9
    go_wp2
    rw [HN9.out]
    go_ret
    exact ⟨bm, xs.length + (allW D N).length, rfl, hbm, HB9.out, by omega, HM9.out⟩

set_option maxRecDepth 100000 in
set_option maxHeartbeats 4000000 in
theorem lessMultiple_c (D N : Nat) (hsh : shapeB (D : Int) (N : Int) = true) (f : VF) (hf : GoodV (allW D N) f) (a1 : Option Addr) (cap1 : Nat) (xs : List Tm) (hx : termsOf f (allW D N) = xs) (s : ByteArray) (n d : Int) (hF : isF (-n) d = true) (hF0 : isF n d = true) (bk : Brk) (hbk : BrkOf s bk) (hsw : s ∈ allW D N) (q : Nat) (b off cS : Nat) (w : World)
    (hb : b < w.heap.size) (hI : StrsIn w b off (allW D N)) (hr : Row w a1 xs) (hY : InY w bk q) :
    Calls Tryz.prog 50 #[.agg #[.int .i64 D, .int .i64 N, .slice (some ⟨b, off, none⟩) (allW D N).length cS], .agg #[.int .i64 D, .int .i64 N, .slice a1 xs.length cap1], .agg #[.string s, .func (.func 78) #[.pointer (some ⟨q, 0, none⟩)] #[]], .agg #[.int .i64 n, .int .i64 d]] w (FitB D N (lieStep (allW D N) ⟨s, n, d⟩ f) w) := by
  have hDN := shape_out hsh
  have hmf : ∀ (fn : Fn) (first cap : Array Value) (w : World), (Instr.makeFunc fn first cap).run Tryz.prog w = .ok (.func fn first cap) w := fun _ _ _ _ => rfl
  have hfew := allW_few (D := D) (by omega) (n := N) (by omega)
  have HWl := Lib.hid (show (allW D N).length ≤ 1048576 by omega)
  have HWs := Lib.hid (show ∀ s ∈ allW D N, s.size ≤ 1048576 from fun s hs => by have := allW_size D N s hs; omega)
  obtain ⟨w5, hw5⟩ : ∃ w5, (((((w.alloc (.cells #[.int .i64 D, .int .i64 N, .slice (some ⟨b, off, none⟩) (allW D N).length cS] 64)).alloc (.cells #[.int .i64 D, .int .i64 N, .slice a1 xs.length cap1] 26)).alloc (.cells #[.string s, .func (.func 78) #[.pointer (some ⟨q, 0, none⟩)] #[]] 74)).alloc (.cells #[.int .i64 n, .int .i64 d] 58)).alloc (.cells #[.int .i64 0, .int .i64 0, .slice none 0 0] 26)) = w5 := ⟨_, rfl⟩
  have hz5 : w5.heap.size = w.heap.size + 1 + 1 + 1 + 1 + 1 := by subst hw5; simp
  have hB5 : Below w.heap.size w w5 := by subst hw5; repeat' (first | with_reducible exact Below.refl _ _ | (refine Below.alloc ?_ (by (try simp only [World.size_alloc]); omega) _))
  have HB5 := Lib.hid hB5
  have Ks0 : w5.cell? ⟨w.heap.size, 0, none⟩ = some (.int .i64 D) := by subst hw5; go_simp
  have Ks1 : w5.cell? ⟨w.heap.size, 1, none⟩ = some (.int .i64 N) := by subst hw5; go_simp
  have Ks2 : w5.cell? ⟨w.heap.size, 2, none⟩ = some (.slice (some ⟨b, off, none⟩) (allW D N).length cS) := by subst hw5; go_simp
  have Kx0 : w5.cell? ⟨w.heap.size + 1, 0, none⟩ = some (.int .i64 D) := by subst hw5; go_simp
  have Kx1 : w5.cell? ⟨w.heap.size + 1, 1, none⟩ = some (.int .i64 N) := by subst hw5; go_simp
  have Kx2 : w5.cell? ⟨w.heap.size + 1, 2, none⟩ = some (.slice a1 xs.length cap1) := by subst hw5; go_simp
  have Kb1 : w5.cell? ⟨w.heap.size + 1 + 1, 1, none⟩ = some (.func (.func 78) #[.pointer (some ⟨q, 0, none⟩)] #[]) := by subst hw5; go_simp
  have Kf0 : w5.cell? ⟨w.heap.size + 1 + 1 + 1, 0, none⟩ = some (.int .i64 n) := by subst hw5; go_simp
  have Kf1 : w5.cell? ⟨w.heap.size + 1 + 1 + 1, 1, none⟩ = some (.int .i64 d) := by subst hw5; go_simp
  have HR := Lib.hid (show Z3 w5 (w.heap.size + 1 + 1 + 1 + 1) from by subst hw5; exact ⟨by simp, by go_simp, by go_simp, by go_simp, by go_simp, by go_simp, by go_simp⟩)
  have HWork := Lib.hid (fun W (hW : Below w5.heap.size w5 W) => lessWork D N hsh f hf a1 cap1 xs hx s n d hF hF0 bk hbk hsw q (w.heap.size + 1) w.heap.size (w.heap.size + 1 + 1) (w.heap.size + 1 + 1 + 1) b off cS W (by have := hW.size; omega) (by have := hW.size; omega) (by have := hW.size; omega) (by have := hW.size; omega)
    ((hW.cell (p := ⟨w.heap.size + 1, 0, none⟩) (by show w.heap.size + 1 < _; omega)).trans Kx0) ((hW.cell (p := ⟨w.heap.size + 1, 1, none⟩) (by show w.heap.size + 1 < _; omega)).trans Kx1) ((hW.cell (p := ⟨w.heap.size + 1, 2, none⟩) (by show w.heap.size + 1 < _; omega)).trans Kx2)
    ((hW.cell (p := ⟨w.heap.size, 0, none⟩) (by show w.heap.size < _; omega)).trans Ks0) ((hW.cell (p := ⟨w.heap.size, 1, none⟩) (by show w.heap.size < _; omega)).trans Ks1) ((hW.cell (p := ⟨w.heap.size, 2, none⟩) (by show w.heap.size < _; omega)).trans Ks2)
    ((hW.cell (p := ⟨w.heap.size + 1 + 1, 1, none⟩) (by show w.heap.size + 1 + 1 < _; omega)).trans Kb1) ((hW.cell (p := ⟨w.heap.size + 1 + 1 + 1, 0, none⟩) (by show w.heap.size + 1 + 1 + 1 < _; omega)).trans Kf0) ((hW.cell (p := ⟨w.heap.size + 1 + 1 + 1, 1, none⟩) (by show w.heap.size + 1 + 1 + 1 < _; omega)).trans Kf1)
    (by have := hW.size; omega) ((hI.below HB5.out hb).below hW (by omega)) ((hr.below HB5.out).below hW) ((hY.below HB5.out).below hW))
  have HRs := Lib.hid (show SRow w5 (some ⟨b, off, none⟩) (allW D N) from .inr ⟨b, off, rfl, by omega, hI.below HB5.out hb⟩)
  have H5e := Lib.hid hw5
  clear hsh hf hx hF hF0 hbk hsw hI hr hY hB5 hfew hw5
  cases hv : lieStep (allW D N) ⟨s, n, d⟩ f with
  | none =>
    have HVv := Lib.hid hv
    have HDoor := Lib.hid (door_no D N (some ⟨b, off, none⟩) (allW D N).length cS 94 #[.pointer (some ⟨w.heap.size + 1, 0, none⟩), .pointer (some ⟨w.heap.size, 0, none⟩), .pointer (some ⟨w.heap.size + 1 + 1, 0, none⟩), .pointer (some ⟨w.heap.size + 1 + 1 + 1, 0, none⟩)] (fun _ => by kernel_rfl) w5 (fun W hW => by have hk := HWork.out W hW; rw [hv] at hk; exact hk))
    clear Kx0 Kx1 Kx2 Ks0 Ks1 Ks2 Kb1 Kf0 Kf1 hv
    go_enter Tryz.func50, Tryz.ntmps50
    go_wp2_with fail
    rw [H5e.out]
    refine HDoor.out.mono ?_
    rintro e w4 ⟨rfl, hb4⟩
    have HZ := Lib.hid (HR.out.below hb4 HR.out.1)
    have r0 := HZ.out.2.1
    have r1 := HZ.out.2.2.1
    have r2 := HZ.out.2.2.2.1
    have z0 := HZ.out.2.2.2.2.1
    have z1 := HZ.out.2.2.2.2.2.1
    have z2 := HZ.out.2.2.2.2.2.2
    have HW4 := Lib.hid (HB5.out.trans (hb4.mono (by omega)))
    clear hb4
    go_wp2
    try rw [HVv.out]
    refine bodyPost_ret (v := .tuple #[.agg #[.int .i64 0, .int .i64 0, .slice none 0 0], .int .i64 3]) (by simp [results, Tryz.results50, go_sem, r0, r1, r2]) rfl (SerPost.err 3 rfl ?_)
    have hW := HW4.out
    go_grown
  | some h =>
    have HVv := Lib.hid hv
    have HDoor := Lib.hid (door_yes D N (some ⟨b, off, none⟩) cS (allW D N) HWl.out HWs.out h 94 #[.pointer (some ⟨w.heap.size + 1, 0, none⟩), .pointer (some ⟨w.heap.size, 0, none⟩), .pointer (some ⟨w.heap.size + 1 + 1, 0, none⟩), .pointer (some ⟨w.heap.size + 1 + 1 + 1, 0, none⟩)] (fun _ => by kernel_rfl) w5 (fun W hW => by have hk := HWork.out W hW; rw [hv] at hk; exact hk) HRs.out)
    clear Kx0 Kx1 Kx2 Ks0 Ks1 Ks2 Kb1 Kf0 Kf1 hv
    go_enter Tryz.func50, Tryz.ntmps50
    go_wp2_with fail
    rw [H5e.out]
    refine HDoor.out.mono ?_
    rintro e w4 ⟨a4, c4, rfl, hb4, hN4⟩
    have HZ := Lib.hid (HR.out.below hb4 HR.out.1)
    have r0 := HZ.out.2.1
    have r1 := HZ.out.2.2.1
    have r2 := HZ.out.2.2.2.1
    have z0 := HZ.out.2.2.2.2.1
    have z1 := HZ.out.2.2.2.2.2.1
    have z2 := HZ.out.2.2.2.2.2.2
    have HW4 := Lib.hid (HB5.out.trans (hb4.mono (by omega)))
    have HN4 := Lib.hid hN4
    clear hb4 hN4
    go_wp2
    try rw [HVv.out]
    refine bodyPost_ret (v := .tuple #[.agg #[.int .i64 D, .int .i64 N, .slice a4 (termsOf h (allW D N)).length c4], .int .i64 0]) (by simp [results, Tryz.results50, go_sem, r0, r1, r2]) rfl ⟨a4, c4, rfl, ?_, ?_⟩
    · have hW := HW4.out
      go_grown
    · exact (((HN4.out.far1s (n := w.heap.size + 1 + 1 + 1 + 1) (i := 0) (x := .int .i64 D) (by omega)).far1s (n := w.heap.size + 1 + 1 + 1 + 1) (i := 1) (x := .int .i64 N) (by omega)).far1s (n := w.heap.size + 1 + 1 + 1 + 1) (i := 2) (x := .slice a4 (termsOf h (allW D N)).length c4) (by omega)).mono (by omega) (by simp)
end Go.Proofs.YtgcjpenlcokgjaaGreatDoor

namespace Go.Proofs.YtgcjpenlcokgjaaGreatDoor
open Go.RowKit

theorem RowX.grown {p : Nat} {v v' : Value} {w w' : World} {a : Option Addr} {ts : List Tm} (h : RowX p v.ownBlock w a ts) (hg : w.grownBy w' v.ownBlock) (hv' : v'.ownBlock = v.ownBlock ∨ ∃ m, w.heap.size ≤ m ∧ v'.ownBlock = some m) : RowX p v'.ownBlock w' a ts := by
  rcases h with h | ⟨b, off, h1, h2, h3, h4, h5⟩
  · exact .inl h
  · refine .inr ⟨b, off, h1, Nat.lt_of_lt_of_le h2 hg.size, h3, ?_, h5.grown hg h2 h4⟩
    rcases hv' with e | ⟨m, hm, e⟩
    · rw [e]; exact h4
    · rw [e]; intro e2; injection e2 with e2; omega
theorem gr_own {a b c : World} {r o : Option Nat} (h : a.grownBy b r) (k : b.grownBy c o) (ho : ∀ g, o = some g → a.heap.size ≤ g) : a.grownBy c r :=
  ⟨k.os.trans h.os, k.tape.trans h.tape, k.output.trans h.output, Nat.le_trans h.size k.size, fun i hi hne => (k.block i (Nat.lt_of_lt_of_le hi h.size) (fun e => by have := ho i e.symm; omega)).trans (h.block i hi hne)⟩
theorem gr_st {a b : World} {n i : Nat} {u : Value} (h : a.grownBy b (some n)) : a.grownBy (b.setCell ⟨n, i, none⟩ u) (some n) := gr_trans h (gr_set b n i u)
theorem gr_self (w : World) (r : Option Nat) : w.grownBy w.drew r := ⟨rfl, rfl, rfl, Nat.le_refl _, fun _ _ _ => rfl⟩
theorem gr_dn {a b : World} {r : Option Nat} {n : Nat} (h : a.grownBy b r) : a.grownBy (b.drewN n) r := ⟨h.os, h.tape, h.output, h.size, h.block⟩
theorem own_dn {w : World} {base n : Nat} {v : Value} {ts : List Tm} (h : OwnT w base v ts) : OwnT (w.drewN n) base v ts := h
theorem term_dn {w : World} {g o n : Nat} {ts : List Tm} (h : TermsIn w g o ts) : TermsIn (w.drewN n) g o ts := h
theorem grown_cell {w w' : World} {r : Option Nat} {n i : Nat} (h : w.grownBy w' r) (hn : n < w.heap.size) (hne : some n ≠ r) : w'.cell? ⟨n, i, none⟩ = w.cell? ⟨n, i, none⟩ := World.cell?_of_block (h.block n hn hne)

set_option maxRecDepth 100000 in
set_option maxHeartbeats 4000000 in
theorem iLie_g (D N : Nat) (hsh : shapeB (D : Int) (N : Int) = true) (a1 : Option Addr) (cap1 : Nat) (y : VF) (hy : GoodV (allW D N) y) (m : Nat) (hm : m ≤ 121) (c : Int) (z : List Tm) (hz : LieR (allW D N) m y [] c z) (w : World) (hr : Row w a1 (termsOf y (allW D N)))
    (hIs : ∀ W, Below w.heap.size w W → Calls Tryz.prog 49 #[.agg #[.int .i64 D, .int .i64 N, .slice a1 (termsOf y (allW D N)).length cap1]] W fun e w' => e = .returned (.bool true) ∧ Below W.heap.size W w') :
    Calls Tryz.prog 22 #[.agg #[.int .i64 D, .int .i64 N, .slice a1 (termsOf y (allW D N)).length cap1]] w (TermsPost z c w) := by
  have hDN := shape_out hsh
  have hW := allW_asc (D := D) (by omega) N
  have hw121 := allW_121 D (by omega) (by omega) N (by omega) (by omega)
  have hws5 : ∀ s ∈ allW D N, s.size ≤ 1000 := fun s hs => by have := allW_size D N s hs; omega
  have HAfter := Lib.hid (fun (f h : VF) (hf : GoodV (allW D N) f) t r (ht : termsOf f (allW D N) = t :: r) hy e => (step_after (D := D) (N := N) (by omega) (by omega) (by omega) hf (t := t) (r := r) (h := h) ht hy e))
  have HTerm := Lib.hid (fun (f : VF) (hf : GoodV (allW D N) f) t r (ht : termsOf f (allW D N) = t :: r) => show t.s ∈ allW D N ∧ t.s.size ≤ 5 ∧ isF t.n t.d = true from by
    have h1 := head_term ht
    have h2 := allW_size D N _ h1.1
    exact ⟨h1.1, by omega, (hf _ _ h1.2).2.1⟩)
  have HLb := Lib.hid (fun b off cS W hb hI => lieBrackets_c D N b off cS (allW D N) (by omega) hws5 W hb hI)
  have HLm := Lib.hid (fun (f : VF) (hf : GoodV (allW D N) f) aP cP s n d hF hF0 bk hbk hsw q b off cS W hb hI hr hY => lessMultiple_c D N hsh f hf aP cP (termsOf f (allW D N)) rfl s n d hF hF0 bk hbk hsw q b off cS W hb hI hr hY)
  have HIs := Lib.hid hIs
  have HR0 := Lib.hid hr
  have HY := Lib.hid hy
  have HZ := Lib.hid hz
  obtain ⟨ls, hls⟩ : ∃ ls, (allW D N).filter lynB = ls := ⟨_, rfl⟩
  have HLs := Lib.hid (show ∀ s, s ∈ ls ↔ s ∈ allW D N ∧ lynB s = true from fun s => by rw [← hls]; exact List.mem_filter)
  have HAs := Lib.hid (show ls.Pairwise lessW from by rw [← hls]; exact hW.sublist (List.filter_sublist ..))
  have hll : ls.length ≤ 121 := by rw [← hls]; exact Nat.le_trans (List.length_filter_le ..) hw121
  rw [hls] at HLb
  clear hIs hr hy hz hsh hW hls hw121 hws5
  go_enter Tryz.func22, Tryz.ntmps22
  go_wp2_with fail
  refine (HIs.out _ (below1 w _)).mono ?_
  rintro e w1 ⟨rfl, hb1⟩
  have HB1 := Lib.hid ((below1 w (.cells #[.int .i64 D, .int .i64 N, .slice a1 (termsOf y (allW D N)).length cap1] 26)).trans (hb1.mono (by simp)))
  have hT1 := (T3.new w (D : Int) (N : Int) a1 (termsOf y (allW D N)).length cap1 26).next hb1
  have HT1 := Lib.hid hT1
  obtain ⟨hzz, p0, p1, p2, -, -, -⟩ := id hT1
  clear hb1 hT1
  go_wp2_with fail
  refine (spaceOf_c D N (by omega) (by omega) _).mono ?_
  rintro e w2 ⟨aS, cS, rfl, hb2, hN2⟩
  have hz2 := hb2.size
  obtain ⟨b, off, rfl, hbS, hIS⟩ : ∃ b off, aS = some ⟨b, off, none⟩ ∧ b < w2.heap.size ∧ StrsIn w2 b off (allW D N) := by
    rcases hN2.row with h | h
    · obtain ⟨r, hr, _⟩ := allW_head D N
      rw [hr] at h; cases h
    · exact h
  have HB2 := Lib.hid (HB1.out.trans (hb2.mono (by omega)))
  have hT2 := HT1.out.next hb2
  have HIS := Lib.hid hIS
  clear hb2 hN2 p0 p1 p2 hIS
  obtain ⟨hzt2, p0, p1, p2, -, -, -⟩ := id hT2
  go_wp2_with fail
  have HB4 := Lib.hid ((HB2.out.alloc (by omega) (.cells #[.int .i64 D, .int .i64 N, .slice (some ⟨b, off, none⟩) (allW D N).length cS] 64)).alloc (by simp; omega) (.cells #[.int .i64 D, .int .i64 N, .slice a1 (termsOf y (allW D N)).length cap1] 26))
  have hzw : ((w2.alloc (.cells #[.int .i64 D, .int .i64 N, .slice (some ⟨b, off, none⟩) (allW D N).length cS] 64)).alloc (.cells #[.int .i64 D, .int .i64 N, .slice a1 (termsOf y (allW D N)).length cap1] 26)).heap.size = w2.heap.size + 1 + 1 := by simp
  have HI4 := Lib.hid (show StrsIn ((w2.alloc (.cells #[.int .i64 D, .int .i64 N, .slice (some ⟨b, off, none⟩) (allW D N).length cS] 64)).alloc (.cells #[.int .i64 D, .int .i64 N, .slice a1 (termsOf y (allW D N)).length cap1] 26)) b off (allW D N) from (HIS.out.below (below1 w2 _) hbS).below (below1 _ _) (by simp; omega))
  have k0 : ((w2.alloc (.cells #[.int .i64 D, .int .i64 N, .slice (some ⟨b, off, none⟩) (allW D N).length cS] 64)).alloc (.cells #[.int .i64 D, .int .i64 N, .slice a1 (termsOf y (allW D N)).length cap1] 26)).cell? ⟨w2.heap.size, 0, none⟩ = some (.int .i64 D) := by go_simp
  have k1 : ((w2.alloc (.cells #[.int .i64 D, .int .i64 N, .slice (some ⟨b, off, none⟩) (allW D N).length cS] 64)).alloc (.cells #[.int .i64 D, .int .i64 N, .slice a1 (termsOf y (allW D N)).length cap1] 26)).cell? ⟨w2.heap.size, 1, none⟩ = some (.int .i64 N) := by go_simp
  have k2 : ((w2.alloc (.cells #[.int .i64 D, .int .i64 N, .slice (some ⟨b, off, none⟩) (allW D N).length cS] 64)).alloc (.cells #[.int .i64 D, .int .i64 N, .slice a1 (termsOf y (allW D N)).length cap1] 26)).cell? ⟨w2.heap.size, 2, none⟩ = some (.slice (some ⟨b, off, none⟩) (allW D N).length cS) := by go_simp
  have hT4 := T3.new (w2.alloc (.cells #[.int .i64 D, .int .i64 N, .slice (some ⟨b, off, none⟩) (allW D N).length cS] 64)) (D : Int) (N : Int) a1 (termsOf y (allW D N)).length cap1 26
  rw [World.size_alloc] at hT4
  have HT4 := Lib.hid hT4
  have HH4 := Lib.hid (show ((w2.alloc (.cells #[.int .i64 D, .int .i64 N, .slice (some ⟨b, off, none⟩) (allW D N).length cS] 64)).alloc (.cells #[.int .i64 D, .int .i64 N, .slice a1 (termsOf y (allW D N)).length cap1] 26)).heap[w2.heap.size + 1]? = some (.cells #[.int .i64 D, .int .i64 N, .slice a1 (termsOf y (allW D N)).length cap1] 26) from by
    have h := World.alloc_heap_new (w2.alloc (.cells #[.int .i64 D, .int .i64 N, .slice (some ⟨b, off, none⟩) (allW D N).length cS] 64)) (.cells #[.int .i64 D, .int .i64 N, .slice a1 (termsOf y (allW D N)).length cap1] 26)
    rwa [World.size_alloc] at h)
  generalize ((w2.alloc (.cells #[.int .i64 D, .int .i64 N, .slice (some ⟨b, off, none⟩) (allW D N).length cS] 64)).alloc (.cells #[.int .i64 D, .int .i64 N, .slice a1 (termsOf y (allW D N)).length cap1] 26)) = w4 at *
  clear p0 p1 p2 hT2 hT4
  refine (HLb.out b off cS w4 (by omega) HI4.out).mono ?_
  rintro e w3 ⟨v, rfl, hB3, hLb⟩
  obtain ⟨aR, cR, qs, rfl, hqs, hrow⟩ := hLb.row
  have hz3 := hB3.size
  have HB3 := Lib.hid (HB4.out.trans (hB3.mono (by omega)))
  have HI3 := Lib.hid (HI4.out.below hB3 (by omega))
  have k0 := (hB3.cell (p := ⟨w2.heap.size, 0, none⟩) (by show w2.heap.size < _; omega)).trans k0
  have k1 := (hB3.cell (p := ⟨w2.heap.size, 1, none⟩) (by show w2.heap.size < _; omega)).trans k1
  have k2 := (hB3.cell (p := ⟨w2.heap.size, 2, none⟩) (by show w2.heap.size < _; omega)).trans k2
  have HK := Lib.hid (show w3.cell? ⟨w2.heap.size, 0, none⟩ = some (.int .i64 D) ∧ w3.cell? ⟨w2.heap.size, 1, none⟩ = some (.int .i64 N) ∧ w3.cell? ⟨w2.heap.size, 2, none⟩ = some (.slice (some ⟨b, off, none⟩) (allW D N).length cS) from ⟨k0, k1, k2⟩)
  have HT3 := Lib.hid (HT4.out.next hB3)
  have HRow := Lib.hid hrow
  have HHm := Lib.hid (show ∀ (q : Nat) (cur : Array Value), w3.heap[q]? = some (.cells cur 145 (0, 0)) → some q ≠ some (w2.heap.size + 1) from fun q cur hq e => by
    injection e with e
    subst e
    have h := (hB3.block (w2.heap.size + 1) (by omega)).trans HH4.out
    rw [h] at hq
    injection hq with hq
    injection hq with _ hq _
    exact absurd hq (by decide))
  have HX3 := Lib.hid (show RowX (w2.heap.size + 1) (Value.slice none 0 0).ownBlock w3 a1 (termsOf y (allW D N)) from by
    rcases HR0.out with h | ⟨b1, o1, e1, h2, h3⟩
    · exact .inl h
    · have hb13 := HB3.out.size
      have hb12 := HB2.out.size
      exact .inr ⟨b1, o1, e1, by omega, by omega, (by intro e; cases e), h3.below HB3.out h2⟩)
  clear hB3 hLb hrow k0 k1 k2
  go_wp2_with fail
  go_loopw [5, 7, 22] (fun v5 v7 v22 wr => ∃ (k : Nat) (f : VF) (out : List Tm) (mm : Nat) (aP aO : Option Addr) (l cO cP : Nat), k ≤ ls.length ∧ v22 = .int .i64 k ∧ v7 = .int .i64 0 ∧ LieR (allW D N) mm f out c z ∧ GoodV (allW D N) f ∧ out.length + mm ≤ 121 ∧ (∀ t ∈ out, t.s.size ≤ 5) ∧ (∀ t r, termsOf f (allW D N) = t :: r → ∀ j (hj : j < ls.length), j < k → ls[j] ≠ t.s) ∧ l = out.length ∧ v5 = .slice aO l cO ∧ OwnT wr w3.heap.size (.slice aO l cO) out ∧ T3 wr (w2.heap.size + 1) (.int .i64 D) (.int .i64 N) (.slice aP (termsOf f (allW D N)).length cP) ∧ RowX (w2.heap.size + 1) (Value.slice aO l cO).ownBlock wr aP (termsOf f (allW D N)) ∧ w3.grownBy wr (some (w2.heap.size + 1))) (fun _ _ v22 _ => ls.length - (intOf v22).toNat)
  case atStart => exact ⟨0, y, [], m, a1, none, 0, 0, cap1, Nat.zero_le _, rfl, rfl, HZ.out, HY.out, by simpa using hm, fun _ h => by simp at h, fun _ _ _ _ _ h => by omega, rfl, rfl, OwnT.nil _ _, HT3.out, HX3.out, World.grownBy.refl w3 _⟩
  case round =>
    obtain ⟨k, f, out, mm, aP, aO, l, cO, cP, hk, rfl, rfl, hlr, hgf, hok, hsh5, hfar, rfl, rfl, hO, hT, hX, hG⟩ := hrel
    obtain ⟨wo, rfl⟩ : ∃ wo : World, wo = wr := ⟨_, rfl⟩
    have HLr := Lib.hid hlr
    have HGf := Lib.hid hgf
    have HFar := Lib.hid hfar
    have HSh := Lib.hid hsh5
    have HO := Lib.hid hO
    have HT := Lib.hid hT
    have HX := Lib.hid hX
    have hzo := hG.size
    have HB := Lib.hid (HB3.out.trans (below_of_grown hG (fun g e => by injection e with e; omega) (by have := HB3.out.size; omega)))
    have HG := Lib.hid hG
    have hn6 := hT.1
    obtain ⟨-, t0, t1, t2, -, -, -⟩ := id hT
    clear hlr hgf hfar hsh5 hO hT hX hG
    by_cases hlt : k < ls.length
    · obtain ⟨gR, bk, rfl, hgl, hgz, c90, c91, hbk, hyk⟩ := HRow.out k hlt (by omega)
      have c90 := (gr_cell HG.out hgz (by omega)).trans c90
      have c91 := (gr_cell HG.out hgz (by omega)).trans c91
      have HYk := Lib.hid (hyk.grown HG.out HHm.out)
      have hmem := (HLs.out _).1 (List.getElem_mem hlt)
      have HFar2 := Lib.hid (show (∀ t r, termsOf f (allW D N) = t :: r → ls[k] ≠ t.s) → ∀ t r, termsOf f (allW D N) = t :: r → ∀ j (hj : j < ls.length), j < k + 1 → ls[j] ≠ t.s from fun h t r ht j hj hjk => by
        by_cases e : j = k
        · subst e; exact h t r ht
        · exact HFar.out t r ht j hj (by omega))
      have HAft := Lib.hid (show ∀ h : VF, (∀ s, h s ≠ none → lessW ls[k] s) → ∀ t r, termsOf h (allW D N) = t :: r → ∀ j (hj : j < ls.length), j < k + 1 → ls[j] ≠ t.s from fun h hh t r ht j hj hjk e => by
        have h1 := hh t.s (by rw [(head_term ht).2]; exact Option.some_ne_none _)
        rw [← e] at h1
        by_cases ej : j = k
        · subst ej
          unfold lessW at h1
          rw [lessL_irrefl] at h1; cases h1
        · have h2 := List.pairwise_iff_getElem.1 HAs.out j k hj hlt (by omega)
          have h3 := lessL_trans h1 h2
          rw [lessL_irrefl] at h3; cases h3)
      obtain ⟨s9, hs9⟩ : ∃ s9, ls[k] = s9 := ⟨_, rfl⟩
      obtain ⟨q, hq⟩ : ∃ q, qs[k] = q := ⟨_, rfl⟩
      rw [hs9] at c90 hbk hmem HFar2 HAft
      rw [hq] at c91 HYk
      unfold vB at c91
      have HBk := Lib.hid hbk
      have HMem := Lib.hid hmem
      have hk1 : IntKind.i64.wrap ((k : Int) + 1) = (k : Int) + 1 := IntWalk.i64_in _ (by omega)
      have hkl : (k : Int) < (ls.length : Int) := by omega
      have hBa := below1 wo (.cells #[.string s9, .func (.func 78) #[.pointer (some ⟨q, 0, none⟩)] #[]] 74)
      have HT9 := Lib.hid (HT.out.next hBa)
      have HX9 := Lib.hid (HX.out.below hBa)
      have HO9 := Lib.hid (HO.out.alloc (.cells #[.string s9, .func (.func 78) #[.pointer (some ⟨q, 0, none⟩)] #[]] 74))
      have HG9 := Lib.hid (gr_trans HG.out (gr_below (r := some (w2.heap.size + 1)) hBa))
      clear hs9 hq hyk hbk hmem hBa
      cases htf : termsOf f (allW D N) with
      | nil =>
        have HTf := Lib.hid htf
        rw [htf] at t2
        simp only [List.length_nil] at t2
        clear htf
        go_upto_region 9 with fail
        go_quiet (fail)
        go_wp2
        go_roundw
        case rel =>
          exact ⟨k + 1, f, out, mm, aP, aO, _, cO, cP, hlt, by go_num, rfl, HLr.out, HGf.out, hok, HSh.out, HFar2.out (fun t r ht => by rw [HTf.out] at ht; cases ht), rfl, rfl, HO9.out, HT9.out, HX9.out, gr_dn HG9.out⟩
        case measure => simp [intOf]; omega
      | cons t r =>
        obtain ⟨htw, hsz5, hisF⟩ := HTerm.out f HGf.out t r htf
        obtain ⟨b7, o7, rfl, hbz, hbp, hbo, hTi⟩ : ∃ b off, aP = some ⟨b, off, none⟩ ∧ b < wo.heap.size ∧ b ≠ w2.heap.size + 1 ∧ some b ≠ (Value.slice aO out.length cO).ownBlock ∧ TermsIn wo b off (termsOf f (allW D N)) := by
          rcases HX.out with h | h
          · rw [htf] at h; cases h
          · exact h
        obtain ⟨c0, c1, c2⟩ := hTi 0 (by rw [htf]; simp)
        simp only [htf, List.getElem_cons_zero, Nat.zero_mul, Nat.add_zero] at c0 c1 c2
        have hlen : 0 < (termsOf f (allW D N)).length := by rw [htf]; simp
        have HTf := Lib.hid htf
        have HFb := Lib.hid (fun (e : s9 ≠ t.s) => HFar2.out (fun t' r' ht => by rw [htf] at ht; injection ht with ht; rw [← ht]; exact e))
        have HLim := Lib.hid (fun (e : lynB t.s = true) e2 => lie_limit htf e e2 HLr.out)
        have HNx := Lib.hid (fun (e : lynB t.s = true) h (e2 : lieStep (allW D N) t f = some h) => lie_next htf e e2 HLr.out)
        have HAf := Lib.hid (fun (e : lynB t.s = true) h (e2 : lieStep (allW D N) t f = some h) => HAfter.out f h HGf.out t r htf e e2)
        have HIF := Lib.hid hisF
        have HNg := Lib.hid (show isF (-t.n) t.d = true from by
          have := isF_out hisF
          simp only [isF, decide_eq_true_eq]
          refine ⟨by omega, by omega, by omega, by omega, ?_⟩
          unfold gi at *
          rw [Int.neg_gcd]
          exact this.2.2.2.2)
        obtain ⟨s, n, d⟩ := t
        simp only at c0 c1 c2 hsz5 HFb htw
        obtain ⟨lf, hlf⟩ : ∃ lf, (termsOf f (allW D N)).length = lf := ⟨_, rfl⟩
        have HLf := Lib.hid hlf
        rw [hlf] at t2 hlen
        have hlen1 : (0 : Int) < (lf : Int) := by omega
        have hd1 : ¬ lf = 0 := by omega
        clear htf hisF hTi hlf
        by_cases es : s9 = s
        · have es2 : s = s9 := es.symm
          clear es
          subst es2
          have hly := HMem.out.2
          have ht1 := terms_one (wo.alloc (.cells #[.string s, .func (.func 78) #[.pointer (some ⟨q, 0, none⟩)] #[]] 74)) ⟨s, n, d⟩
          rw [World.size_alloc] at ht1
          have HT1 := Lib.hid ht1
          have HOlt := Lib.hid HO.out.lt
          clear ht1
          go_upto_region 9 with fail
          go_quiet (fail)
          go_upto_region 11 with (first | (at_builtin; refine wpList_append_terms rfl _ _ rfl w3.heap.size (.slice aO out.length cO) out.length out [⟨s, n, d⟩] rfl rfl (own_dn (HO9.out.alloc _)) _ 1 1 rfl rfl (.inr ⟨wo.heap.size + 1, 0, rfl, term_dn HT1.out⟩) (by omega) ?hbase ?_; rotate_left; intro a3 c3 w6 hO6 hG6 hor6) | fail)
          case hbase => first | omega | (simp; omega) | (refine Nat.le_trans hzo ?_; simp)
          have hG6 : ((wo.alloc (.cells #[.string s, .func (.func 78) #[.pointer (some ⟨q, 0, none⟩)] #[]] 74)).alloc (.cells #[.string s, .int .i64 n, .int .i64 d] 60)).grownBy w6 (Value.slice aO out.length cO).ownBlock := ⟨hG6.os, hG6.tape, hG6.output, hG6.size, hG6.block⟩
          have hz6 := hG6.size
          simp only [World.size_alloc] at hz6
          have hown : ∀ g, (Value.slice aO out.length cO).ownBlock = some g → w3.heap.size ≤ g ∧ g < wo.heap.size := HOlt.out
          have hk0 := HK.out
          have hn4 : some w2.heap.size ≠ (Value.slice aO out.length cO).ownBlock := fun e => by have := hown _ e.symm; omega
          have hn6' : some (w2.heap.size + 1) ≠ (Value.slice aO out.length cO).ownBlock := fun e => by have := hown _ e.symm; omega
          have hn9 : some wo.heap.size ≠ (Value.slice aO out.length cO).ownBlock := fun e => by have := hown _ e.symm; omega
          have hb2 := below2 wo (.cells #[.string s, .func (.func 78) #[.pointer (some ⟨q, 0, none⟩)] #[]] 74) (.cells #[.string s, .int .i64 n, .int .i64 d] 60)
          have hGw : w3.grownBy ((wo.alloc (.cells #[.string s, .func (.func 78) #[.pointer (some ⟨q, 0, none⟩)] #[]] 74)).alloc (.cells #[.string s, .int .i64 n, .int .i64 d] 60)) (some (w2.heap.size + 1)) := gr_trans HG9.out (gr_below (below1 _ _))
          have j0 := (grown_cell (i := 0) hG6 (n := w2.heap.size) (by simp; omega) hn4).trans ((gr_cell hGw (by omega) (by omega)).trans hk0.1)
          have j1 := (grown_cell (i := 1) hG6 (n := w2.heap.size) (by simp; omega) hn4).trans ((gr_cell hGw (by omega) (by omega)).trans hk0.2.1)
          have j2 := (grown_cell (i := 2) hG6 (n := w2.heap.size) (by simp; omega) hn4).trans ((gr_cell hGw (by omega) (by omega)).trans hk0.2.2)
          have i0 := (grown_cell (i := 0) hG6 (n := wo.heap.size) (by simp; omega) hn9).trans (show _ = some (.string s) by go_simp)
          have i1 := (grown_cell (i := 1) hG6 (n := wo.heap.size) (by simp; omega) hn9).trans (show _ = some (.func (.func 78) #[.pointer (some ⟨q, 0, none⟩)] #[]) by go_simp)
          have c1 := (grown_cell (i := o7 + 1) hG6 (n := b7) (by simp; omega) hbo).trans ((hb2.cell (p := ⟨b7, o7 + 1, none⟩) hbz).trans c1)
          have c2 := (grown_cell (i := o7 + 2) hG6 (n := b7) (by simp; omega) hbo).trans ((hb2.cell (p := ⟨b7, o7 + 2, none⟩) hbz).trans c2)
          have HT6 := Lib.hid ((HT9.out.alloc (.cells #[.string s, .int .i64 n, .int .i64 d] 60)).grown hG6 hn6')
          have HO6 := Lib.hid hO6
          have HX6 := Lib.hid (RowX.grown (v := .slice aO out.length cO) (v' := .slice a3 (out.length + 1) c3) (HX9.out.below (below1 _ (.cells #[.string s, .int .i64 n, .int .i64 d] 60))) hG6 (by
            rcases hor6 with e | e
            · exact .inl e
            · exact .inr ⟨wo.heap.size + 1 + 1, by simp, e.trans (congrArg some (show _ = wo.heap.size + 1 + 1 from by simp))⟩))
          have HY6 := Lib.hid ((HYk.out.below hb2).grown hG6 (fun q cur hq e => by
            rcases (HO9.out.alloc (.cells #[.string s, .int .i64 n, .int .i64 d] 60)).2 with ⟨h1, _⟩ | ⟨g, cp, cu, h1, _, hgb, _⟩
            · rw [h1] at e; cases e
            · rw [h1] at e
              injection e with e
              subst e
              rw [hgb] at hq
              injection hq with hq
              injection hq with _ hq _
              exact absurd hq (by decide)))
          have HI6 := Lib.hid (show StrsIn w6 b off (allW D N) from (HI3.out.grown hGw (by omega) (fun e => by injection e with e; omega)).grown hG6 (by simp; omega) (fun e => by have := hown _ e.symm; omega))
          have HG6 := Lib.hid hG6
          have HGw := Lib.hid hGw
          have hb6 : b < w6.heap.size := by omega
          have HLw := Lib.hid (fun W (hW : Below w6.heap.size w6 W) => HLm.out f HGf.out (some ⟨b7, o7, none⟩) cP s n d HNg.out HIF.out bk HBk.out HMem.out.1 q b off cS W (Nat.lt_of_lt_of_le hb6 hW.size) (HI6.out.below hW hb6) (HX6.out.row.below hW) (HY6.out.below hW))
          rw [HLf.out] at HLw
          obtain ⟨hz66, y0, y1, y2, z0, z1, z2⟩ := id HT6.out
          rw [HLf.out] at y2
          have HB6 := Lib.hid (HB.out.trans ((hb2.mono (by have := HB.out.size; omega)).trans (below_of_grown hG6 (fun g e => by have := hown _ e; have := HB3.out.size; omega) (by have := HB.out.size; simp; omega))))
          have HG36 := Lib.hid (gr_own HGw.out hG6 (fun g e => (hown g e).1))
          have hO6lt := Lib.hid HO6.out.lt
          have hw36 := HB3.out.size
          clear hG6 hO6 hor6 hk0 hb2 hGw t0 t1 t2 c0 c90 c91
          have KN := Lib.hid (show ∀ w', w6.grownBy w' (some (w2.heap.size + 1)) → (w'.cell? ⟨w2.heap.size, 0, none⟩ = some (.int .i64 D) ∧ w'.cell? ⟨w2.heap.size, 1, none⟩ = some (.int .i64 N) ∧ w'.cell? ⟨w2.heap.size, 2, none⟩ = some (.slice (some ⟨b, off, none⟩) (allW D N).length cS) ∧ w'.cell? ⟨wo.heap.size, 0, none⟩ = some (.string s) ∧ w'.cell? ⟨wo.heap.size, 1, none⟩ = some (.func (.func 78) #[.pointer (some ⟨q, 0, none⟩)] #[]) ∧ w'.cell? ⟨b7, o7 + 1, none⟩ = some (.int .i64 n) ∧ w'.cell? ⟨b7, o7 + 2, none⟩ = some (.int .i64 d)) from fun w' hG => ⟨(gr_cell hG (by omega) (by omega)).trans j0, (gr_cell hG (by omega) (by omega)).trans j1, (gr_cell hG (by omega) (by omega)).trans j2, (gr_cell hG (by omega) (by omega)).trans i0, (gr_cell hG (by omega) (by omega)).trans i1, (gr_cell hG (by omega) hbp).trans c1, (gr_cell hG (by omega) hbp).trans c2⟩)
          obtain ⟨qq, hqq⟩ : ∃ qq, lieStep (allW D N) ⟨s, n, d⟩ f = qq := ⟨_, rfl⟩
          have HQ := Lib.hid hqq
          rw [hqq] at HLw
          clear hqq
          cases qq with
          | none =>
            obtain ⟨rfl, rfl⟩ := HLim.out hly HQ.out
            refine (show (Code.region _ (List.toArray [_, id _, _, _, id _, _, _, _, _, _, _, _, _, _]) _).wp _ _ _ _ from ?_)
            go_region_held3 (fun w' => w'.cell? ⟨w2.heap.size, 0, none⟩ = some (.int .i64 D) ∧ w'.cell? ⟨w2.heap.size, 1, none⟩ = some (.int .i64 N) ∧ w'.cell? ⟨w2.heap.size, 2, none⟩ = some (.slice (some ⟨b, off, none⟩) (allW D N).length cS) ∧ w'.cell? ⟨wo.heap.size, 0, none⟩ = some (.string s) ∧ w'.cell? ⟨wo.heap.size, 1, none⟩ = some (.func (.func 78) #[.pointer (some ⟨q, 0, none⟩)] #[]) ∧ w'.cell? ⟨b7, o7 + 1, none⟩ = some (.int .i64 n) ∧ w'.cell? ⟨b7, o7 + 2, none⟩ = some (.int .i64 d))
              (first | ((refine KN.out _ ?_); (repeat' (first | (with_reducible assumption) | (with_reducible refine gr_st ?_) | (exact gr_below hb7) | (exact gr_self _ _))); done) | fail)
              (first
                | (go_at_call 50; (with_reducible refine (HLw.out _ ?_).mono ?_); (focus repeat' (first | with_reducible assumption | with_reducible exact Below.refl _ _ | (with_reducible refine Below.drew ?_) | (with_reducible refine Below.setCell ?_ (by (try dsimp only); omega) _) | (with_reducible refine Below.alloc ?_ (by (try simp only [World.size_setCell]); (try simp only [World.size_drew]); (try simp only [World.size_alloc]); (try simp only [World.size_setCell]); (try simp only [World.size_alloc]); omega) _))); rintro e w7 ⟨a8, c8, rfl, hb7, hN7⟩; have hb7 : Below w6.heap.size w6 w7 := below_step (by repeat' (first | with_reducible assumption | with_reducible exact Below.refl _ _ | (with_reducible refine Below.drew ?_) | (with_reducible refine Below.setCell ?_ (by (try dsimp only); omega) _) | (with_reducible refine Below.alloc ?_ (by (try simp only [World.size_setCell]); (try simp only [World.size_drew]); (try simp only [World.size_alloc]); (try simp only [World.size_setCell]); (try simp only [World.size_alloc]); omega) _))) hb7 (Nat.le_refl _); obtain ⟨hz76, q0, q1, q2, x0, x1, x2⟩ := id (HT6.out.next hb7))
                | fail)
            all_goals
              have HB7 := Lib.hid (HB6.out.trans (hb7.mono (by omega)))
              clear hb7 hN7
              go_wp2
              go_ret2
              refine TermsPost.err 3 rfl ?_
              exact ((HB7.out.setCell (p := ⟨w2.heap.size + 1, 0, none⟩) (by show w.heap.size ≤ w2.heap.size + 1; omega) _).setCell (p := ⟨w2.heap.size + 1, 1, none⟩) (by show w.heap.size ≤ w2.heap.size + 1; omega) _).setCell (p := ⟨w2.heap.size + 1, 2, none⟩) (by show w.heap.size ≤ w2.heap.size + 1; omega) _
          | some h =>
            obtain ⟨mm', rfl, hlr'⟩ := HNx.out hly h HQ.out
            have HLr2 := Lib.hid hlr'
            have hAf := HAf.out hly h HQ.out
            have HGh := Lib.hid hAf.1
            have HFr := Lib.hid (HAft.out h hAf.2)
            clear hlr' hAf
            refine (show (Code.region _ (List.toArray [_, id _, _, _, id _, _, _, _, _, _, _, _, _, _]) _).wp _ _ _ _ from ?_)
            go_region_held3 (fun w' => w'.cell? ⟨w2.heap.size, 0, none⟩ = some (.int .i64 D) ∧ w'.cell? ⟨w2.heap.size, 1, none⟩ = some (.int .i64 N) ∧ w'.cell? ⟨w2.heap.size, 2, none⟩ = some (.slice (some ⟨b, off, none⟩) (allW D N).length cS) ∧ w'.cell? ⟨wo.heap.size, 0, none⟩ = some (.string s) ∧ w'.cell? ⟨wo.heap.size, 1, none⟩ = some (.func (.func 78) #[.pointer (some ⟨q, 0, none⟩)] #[]) ∧ w'.cell? ⟨b7, o7 + 1, none⟩ = some (.int .i64 n) ∧ w'.cell? ⟨b7, o7 + 2, none⟩ = some (.int .i64 d))
              (first | ((refine KN.out _ ?_); (repeat' (first | (with_reducible assumption) | (with_reducible refine gr_st ?_) | (exact gr_below hb7) | (exact gr_self _ _))); done) | fail)
              (first
                | (go_at_call 50; (with_reducible refine (HLw.out _ ?_).mono ?_); (focus repeat' (first | with_reducible assumption | with_reducible exact Below.refl _ _ | (with_reducible refine Below.drew ?_) | (with_reducible refine Below.setCell ?_ (by (try dsimp only); omega) _) | (with_reducible refine Below.alloc ?_ (by (try simp only [World.size_setCell]); (try simp only [World.size_drew]); (try simp only [World.size_alloc]); (try simp only [World.size_setCell]); (try simp only [World.size_alloc]); omega) _))); rintro e w7 ⟨a8, c8, rfl, hb7, hN7⟩; have hb7 : Below w6.heap.size w6 w7 := below_step (by repeat' (first | with_reducible assumption | with_reducible exact Below.refl _ _ | (with_reducible refine Below.drew ?_) | (with_reducible refine Below.setCell ?_ (by (try dsimp only); omega) _) | (with_reducible refine Below.alloc ?_ (by (try simp only [World.size_setCell]); (try simp only [World.size_drew]); (try simp only [World.size_alloc]); (try simp only [World.size_setCell]); (try simp only [World.size_alloc]); omega) _))) hb7 (Nat.le_refl _); obtain ⟨hz76, q0, q1, q2, x0, x1, x2⟩ := id (HT6.out.next hb7))
                | fail)
            all_goals
              have hz7 := hb7.size
              have hT7 := (HT6.out.next hb7).set3 (x' := .int .i64 D) (y' := .int .i64 N) (z' := .slice a8 (termsOf h (allW D N)).length c8)
              have hO7 : OwnT w7 w3.heap.size (.slice a3 (out.length + 1) c3) (out ++ [⟨s, n, d⟩]) := HO6.out.below hb7 (fun g e => (hO6lt.out g e).2)
              have hX7 : RowX (w2.heap.size + 1) (Value.slice a3 (out.length + 1) c3).ownBlock w7 a8 (termsOf h (allW D N)) := by
                rcases hN7 with h | ⟨g, rfl, h1, h2, _, h3⟩
                · exact .inl h
                · refine .inr ⟨g, 0, rfl, h2, ?_, fun e => ?_, h3⟩
                  · have h9 := h1; (try simp only [World.size_drew] at h9); omega
                  · have h8 := (hO6lt.out g e.symm).2
                    have h9 := h1; (try simp only [World.size_drew] at h9); omega
              have hG7 := gr_st (i := 2) (u := .slice a8 (termsOf h (allW D N)).length c8) (gr_st (i := 1) (u := .int .i64 N) (gr_st (i := 0) (u := .int .i64 D) (gr_trans HG36.out (gr_below hb7))))
              have HT7 := Lib.hid hT7
              have HO7 := Lib.hid hO7
              have HX7 := Lib.hid hX7
              have HG7 := Lib.hid hG7
              clear hb7 hN7 hT7 hO7 hX7 hG7
              go_wp2
              go_roundw
              case rel =>
                refine ⟨k + 1, h, out ++ [⟨s, n, d⟩], mm', a8, a3, _, c3, c8, hlt, by go_num, rfl, HLr2.out, HGh.out, by rw [List.length_append]; simp only [List.length_singleton]; omega, fun t ht => ?_, HFr.out, by rw [List.length_append]; rfl, rfl, ?_, HT7.out, HX7.out.set.set.set, HG7.out⟩
                · rcases List.mem_append.1 ht with h1 | h1
                  · exact HSh.out t h1
                  · obtain rfl := List.mem_singleton.1 h1
                    exact hsz5
                · exact ((HO7.out.far (p := ⟨w2.heap.size + 1, 0, none⟩) (own_far (n := w2.heap.size + 1) HO7.out (by omega)) _).far (p := ⟨w2.heap.size + 1, 1, none⟩) (own_far (n := w2.heap.size + 1) HO7.out (by omega)) _).far (p := ⟨w2.heap.size + 1, 2, none⟩) (own_far (n := w2.heap.size + 1) HO7.out (by omega)) _
              case measure => simp [intOf]; omega
        · have hd2 : (s.toList == s9.toList) = false := by
            rw [beq_eq_false_iff_ne]
            exact fun e => es (toList_inj e).symm
          have HEs := Lib.hid (HFb.out es)
          clear es
          go_upto_region 9 with fail
          go_quiet (fail)
          go_wp2
          go_roundw
          case rel =>
            exact ⟨k + 1, f, out, mm, _, aO, _, cO, cP, hlt, by go_num, rfl, HLr.out, HGf.out, hok, HSh.out, HEs.out, rfl, rfl, HO9.out, HT9.out, HX9.out, gr_dn HG9.out⟩
          case measure => simp [intOf]; omega
    · obtain rfl : k = ls.length := by omega
      cases htf : termsOf f (allW D N) with
      | nil =>
        obtain ⟨rfl, rfl⟩ := lie_nil htf HLr.out
        rw [htf] at t2
        simp only [List.length_nil] at t2
        obtain ⟨aN, cN, hN1, hN2, hN3⟩ := HO.out.newRow
        injection hN1 with hN1 _ hN4
        subst hN1 hN4
        have HN3 := Lib.hid hN3
        have hout : z.length ≤ 121 := by omega
        clear hN3 hN2 hok htf
        go_wp2_with fail
        refine (newTerms_c _ _ z (by omega) (fun i hi => by have := HSh.out _ (List.getElem_mem hi); omega) _ HN3.out.row).mono ?_
        rintro e w5 ⟨g, rfl, hb5, hg1, hM5, hT5⟩
        have HB5 := Lib.hid (HB.out.trans (hb5.mono (by have := HB.out.size; omega)))
        have HN5 := Lib.hid (show NewRow w.heap.size w5.heap.size w5 (some ⟨g, 0, none⟩) z from .inr ⟨g, rfl, by have := HB.out.size; omega, hM5.1, hM5, hT5⟩)
        clear hb5 hM5 hT5
        go_wp2
        go_ret2
        exact ⟨_, _, rfl, HB5.out, HN5.out⟩
      | cons t r =>
        have hly : lynB t.s = false := by
          cases hly : lynB t.s with
          | false => rfl
          | true =>
            have hmem := (HLs.out t.s).2 ⟨(head_term htf).1, hly⟩
            obtain ⟨j, hj, e⟩ := List.getElem_of_mem hmem
            exact absurd e (HFar.out t r htf j hj hj)
        obtain ⟨rfl, rfl⟩ := lie_state htf hly HLr.out
        have hlen : 0 < (termsOf f (allW D N)).length := by rw [htf]; simp
        obtain ⟨lf, hlf⟩ : ∃ lf, (termsOf f (allW D N)).length = lf := ⟨_, rfl⟩
        rw [hlf] at t2 hlen
        have hlen1 : (0 : Int) < (lf : Int) := by omega
        clear htf hly hlf
        go_wp2
        go_ret2
        exact TermsPost.err 5 rfl HB.out

set_option maxRecDepth 100000 in
theorem iLie_1 (L V : Int) (g : Nat) (ts : List Tm) (hl : ts.length ≤ 1048576) (hs : ∀ i (h : i < ts.length), (ts[i]).s.size ≤ maxLen) (h1 : serB L V ts = false) (w : World) (hb : g < w.heap.size) (t1 : TermsIn w g 0 ts) :
    Calls Tryz.prog 22 #[.agg #[.int .i64 L, .int .i64 V, .slice (some ⟨g, 0, none⟩) ts.length ts.length]] w (TermsPost [] 1 w) := by
  have HIs := Lib.hid (fun W (hW : Below w.heap.size w W) => iIsSeries_c L V g 0 ts.length ts hl hs W (Nat.lt_of_lt_of_le hb hW.size) (t1.below hW hb))
  rw [h1] at HIs
  clear hl hs h1 t1
  go_enter Tryz.func22, Tryz.ntmps22
  go_wp2_with fail
  refine (HIs.out _ (below1 w _)).mono ?_
  rintro e w1 ⟨rfl, hb1⟩
  have HB1 := Lib.hid ((below1 w (.cells #[.int .i64 L, .int .i64 V, .slice (some ⟨g, 0, none⟩) ts.length ts.length] 26)).trans (hb1.mono (by simp)))
  clear hb1
  go_wp2
  go_ret2
  exact TermsPost.err 1 rfl HB1.out
theorem iLie_2 (D N : Nat) (g : Nat) (ts : List Tm) (hl : ts.length ≤ 1048576) (hs : ∀ i (h : i < ts.length), (ts[i]).s.size ≤ maxLen) (h1 : serB D N ts = true) (m : Nat) (hm : m ≤ 121) (c : Int) (z : List Tm) (hz : LieR (allW D N) m (valV ts ts.length) [] c z) (w : World) (hb : g < w.heap.size) (t1 : TermsIn w g 0 ts) :
    Calls Tryz.prog 22 #[.agg #[.int .i64 D, .int .i64 N, .slice (some ⟨g, 0, none⟩) ts.length ts.length]] w (TermsPost z c w) := by
  have hsh : shapeB (D : Int) (N : Int) = true := by unfold serB at h1; rw [Bool.and_eq_true] at h1; exact h1.1
  have hv := good_valV h1
  have h := iLie_g D N hsh (some ⟨g, 0, none⟩) ts.length (valV ts ts.length) hv.1 m hm c z hz w (by rw [hv.2]; exact .inr ⟨g, 0, rfl, hb, t1⟩) (fun W hW => by
    have k := iIsSeries_c D N g 0 ts.length ts hl hs W (Nat.lt_of_lt_of_le hb hW.size) (t1.below hW hb)
    rw [h1] at k
    rw [hv.2]
    exact k)
  rw [hv.2] at h
  exact h
end Go.Proofs.YtgcjpenlcokgjaaGreatDoor
