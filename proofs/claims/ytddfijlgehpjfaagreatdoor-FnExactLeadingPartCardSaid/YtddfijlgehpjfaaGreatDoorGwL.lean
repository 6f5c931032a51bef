/-
  The signature of a group word, of the model: what one number more does to the terms. The contract of l09Step.
-/
import Derived.Test.YtddfijlgehpjfaaGreatDoorGwS
import Derived.Test.YtddfijlgehpjfaaGreatDoorAddP
namespace Go.Proofs.YtddfijlgehpjfaaGreatDoor
open Go.RowKit

theorem smq_part {c : UInt8} {sg : Int} (hsg : Sg sg) {k : Nat} (hk : k ≤ 12) {G : List UInt8 → Int} (hG : BdG G k) (u : List UInt8) (j : Nat) (h : u.length + j ≤ 5) : SmQ (G u * sg ^ j) (facG u.length * facG j) := by
  have _ := c
  have f1 := fac_of (n := u.length) (by omega)
  have f2 := fac_of (n := j) (by omega)
  have b1 := hG u (by omega)
  have p1 := small_pow (k := k) (n := u.length) (by omega) (by omega)
  have a1 := hsg.abs j
  have hfm : 1 ≤ facG u.length * facG j ∧ facG u.length * facG j ≤ 14400 := by
    constructor
    · have := Int.mul_le_mul f1.1 f2.1 (by omega) (by omega)
      simpa using this
    · have := Int.mul_le_mul f1.2 f2.2 (by omega) (by omega)
      simpa using this
  have hab : (G u * sg ^ j).natAbs = (G u).natAbs := by rw [Int.natAbs_mul, a1, Nat.mul_one]
  exact ⟨by omega, by omega, by omega⟩
/-- the values that the model makes for one beginning, one word after the other -/
def vS (g M sg : Int) : Nat → Int × Int
  | 0 => qF g M
  | j + 1 => (fN ((vS g M sg j).1 * sg) ((vS g M sg j).2 * ((j : Int) + 1)), fD ((vS g M sg j).1 * sg) ((vS g M sg j).2 * ((j : Int) + 1)))
theorem vS_rep {sg : Int} (hsg : Sg sg) {k : Nat} (hk : k ≤ 12) {G : List UInt8 → Int} (hG : BdG G k) (u : List UInt8) : ∀ j, u.length + j ≤ 5 → vS (G u) (facG u.length) sg j = qF (G u * sg ^ j) (facG u.length * facG j)
  | 0, _ => by simp [vS, facG]
  | j + 1, h => by
    have ih := vS_rep hsg hk hG u j (by omega)
    have s1 := smq_part (c := 0) hsg hk hG u j (by omega)
    have s2 := smq_part (c := 0) hsg hk hG u (j + 1) (by omega)
    have e1 : G u * sg ^ (j + 1) = G u * sg ^ j * sg := by rw [Int.pow_succ, Int.mul_assoc]
    have e2 : facG u.length * facG (j + 1) = facG u.length * facG j * ((j : Int) + 1) := by rw [facG, Int.mul_assoc]
    rw [e1, e2] at s2
    have h2 := (val_next s1 (show 1 ≤ (j : Int) + 1 ∧ (j : Int) + 1 ≤ 5 by omega) s2).2
    rw [vS, ih, h2, e1, e2]
theorem vS_bd {sg : Int} (hsg : Sg sg) {k : Nat} (hk : k ≤ 12) {G : List UInt8 → Int} (hG : BdG G k) (u : List UInt8) (j : Nat) (h : u.length + j ≤ 5) :
    (-1000000000 ≤ (vS (G u) (facG u.length) sg j).1 ∧ (vS (G u) (facG u.length) sg j).1 ≤ 1000000000) ∧ 1 ≤ (vS (G u) (facG u.length) sg j).2 ∧ (vS (G u) (facG u.length) sg j).2 ≤ 1000000000 := by
  rw [vS_rep hsg hk hG u j h]
  obtain ⟨_, _, h3, h4⟩ := q_ok (smq_part (c := 0) hsg hk hG u j h)
  have := isF_abs h3
  unfold qF
  simp only
  omega
/-- the terms of values that are whole numbers over factorials are small -/
theorem terms_bd {ws : List ByteArray} {f : VF} {F : List UInt8 → Int} (hr : RepV ws f F) (hs5 : ∀ s ∈ ws, s.size ≤ 5) {k : Nat} (hk : k ≤ 13) (hF : BdG F k) : ∀ t ∈ termsOf f ws, t.n.natAbs ≤ 1000000000 ∧ t.d.natAbs ≤ 1000000000 := fun t ht => by
  obtain ⟨h1, h2, _⟩ := terms_rep hr hs5 ht
  have hz := hs5 _ h1
  have hl : t.s.data.toList.length = t.s.size := by simp
  have f1 := fac_of (n := t.s.size) hz
  have b1 := hF t.s.data.toList (by omega)
  have p1 := small_pow (k := k) (n := t.s.data.toList.length) hk (by omega)
  obtain ⟨_, _, h3, _⟩ := q_ok (g := F t.s.data.toList) (M := facG t.s.size) ⟨by omega, by omega, by omega⟩
  have h4 := isF_abs h3
  have e1 : t.n = fN (F t.s.data.toList) (facG t.s.size) := congrArg Prod.fst h2
  have e2 : t.d = fD (F t.s.data.toList) (facG t.s.size) := congrArg Prod.snd h2
  rw [e1, e2]
  exact ⟨h4.1, h4.2.1⟩
theorem rep_terms {ws : List ByteArray} {f g : VF} {F : List UInt8 → Int} (hf : RepV ws f F) (hg : RepV ws g F) : termsOf f ws = termsOf g ws := by
  have : ∀ {us : List ByteArray}, (∀ s ∈ us, f s = g s) → termsOf f us = termsOf g us := fun {us} h => by
    unfold termsOf
    induction us with
    | nil => rfl
    | cons s us ih =>
      rw [List.filterMap_cons, List.filterMap_cons, h s (by simp), ih (fun t ht => h t (by simp [ht]))]
  exact this fun s hs => (hf s hs).trans (hg s hs).symm

theorem RowF.second {B p q n : Nat} {w : World} {a : Option Addr} {ts : List Tm} (h : RowF B p q w a ts) (hn : w.heap.size ≤ n) : RowF B p n w a ts := by
  rcases h with h | ⟨g, e, h1, hp, hq, h3, h4⟩
  · exact .inl h
  · exact .inr ⟨g, e, h1, hp, by have := h3.1; omega, h3, h4⟩
theorem RowF.first {B p q : Nat} {w : World} {a : Option Addr} {ts : List Tm} (h : RowF B p q w a ts) : RowF B p p w a ts := by
  rcases h with h | ⟨g, e, h1, hp, hq, h3, h4⟩
  · exact .inl h
  · exact .inr ⟨g, e, h1, hp, hp, h3, h4⟩
theorem box_next {w w' : World} {g : Nat} {a b : Int} (h : Box2 w g a b) (hb : Below w.heap.size w w') : Box2 w' g a b := h.below hb h.1
theorem Box2.far {w : World} {g n i : Nat} {a b : Int} (h : Box2 w g a b) (hn : n ≠ g) (u : Value) : Box2 (w.setCell ⟨n, i, none⟩ u) g a b := by
  obtain ⟨h0, h1, h2, h3, h4⟩ := h
  refine ⟨by simpa using h0, ?_, ?_, by simpa using h3, by simpa using h4⟩
  · rw [World.cell?_setCell_far _ _ _ _ hn]; exact h1
  · rw [World.cell?_setCell_far _ _ _ _ hn]; exact h2
theorem T3.third {w : World} {g : Nat} {x y z : Value} (h : T3 w g x y z) (z' : Value) : T3 (w.setCell ⟨g, 2, none⟩ z') g x y z' := by
  obtain ⟨h0, h1, h2, h3, h4, h5, h6⟩ := h
  refine ⟨by simpa using h0, ?_, ?_, World.cell?_setCell_same _ _ _ h3, by simpa using h4, by simpa using h5, by simpa using h6⟩
  · rw [World.cell?_setCell_other _ _ _ _ (fun e => by injection e with _ e2; cases e2)]; exact h1
  · rw [World.cell?_setCell_other _ _ _ _ (fun e => by injection e with _ e2; cases e2)]; exact h2

/-- the word of one letter, and what comes behind -/
theorem wrd_snoc (l : List UInt8) (c : UInt8) : wrd l ++ wrd [c] = wrd (l ++ [c]) := by
  apply data_ext
  rw [wrd_list]
  simp [wrd]
theorem termsOf_no (ws : List ByteArray) : termsOf (fun _ => none) ws = [] := by
  unfold termsOf
  induction ws with
  | nil => rfl
  | cons s ws ih => rw [List.filterMap_cons]; exact ih
/-- the state of the model's step: `i` terms are through, and `j` words of the next one -/
def RpS (D N : Nat) (x : Int) (G : List UInt8 → Int) (ts : List Tm) (i j : Nat) (f : VF) : Prop :=
  RepV (allW D N) f (parG G (eG (chL x) (sgL x)) (dnB (ts.map fun t => t.s.data.toList) i j))
/-- the word of a term with letters behind -/
def wrS (t : Tm) (x : Int) (j : Nat) : ByteArray := wrd (t.s.data.toList ++ List.replicate j (chL x))
theorem wrS_size (t : Tm) (x : Int) (j : Nat) : (wrS t x j).size = t.s.size + j := by
  unfold wrS
  rw [wrd_size]
  simp
theorem wrS_0 (t : Tm) (x : Int) : wrS t x 0 = t.s := by
  unfold wrS
  rw [List.replicate_zero, List.append_nil, wrd_of]
theorem wrS_next (t : Tm) (x : Int) (j : Nat) : wrS t x j ++ wrd [chL x] = wrS t x (j + 1) := by
  unfold wrS
  rw [wrd_snoc, List.append_assoc]
  congr 2
  exact List.replicate_succ'.symm
/-- the value of that word in the model -/
def vlS (G : List UInt8 → Int) (t : Tm) (x : Int) (j : Nat) : Int × Int := vS (G t.s.data.toList) (facG t.s.size) (sgL x) j
theorem vlS_next (G : List UInt8 → Int) (t : Tm) (x : Int) (j : Nat) : vlS G t x (j + 1) = (fN ((vlS G t x j).1 * sgL x) ((vlS G t x j).2 * ((j : Int) + 1)), fD ((vlS G t x j).1 * sgL x) ((vlS G t x j).2 * ((j : Int) + 1))) := rfl
section
variable {D N : Nat} (hD : 1 ≤ D ∧ D ≤ 3) (hN : 1 ≤ N ∧ N ≤ 5) {x : Int} (hx : Six x) (hxD : x.natAbs ≤ D) {k : Nat} (hk : k ≤ 12) {G : List UInt8 → Int} (hG : BdG G k) {h : VF} (hr : RepV (allW D N) h G)
include hD hN hx hxD hk hG hr
theorem wrS_in {t : Tm} (ht : t ∈ termsOf h (allW D N)) {j : Nat} (hj : t.s.size + j ≤ N) : wrS t x j ∈ allW D N := by
  obtain ⟨h1, _, _⟩ := terms_rep hr (ws_small hN) ht
  have _ := hk; have _ := hG
  refine allW_all hD.2 N _ (by rw [wrS_size]; exact hj) ?_
  unfold wrS
  rw [wrd_list]
  have h2 := allW_B hD.2 N _ h1
  refine List.all_eq_true.2 fun c hc => ?_
  rcases List.mem_append.1 hc with hc | hc
  · exact List.all_eq_true.1 h2 c hc
  · obtain rfl := List.eq_of_mem_replicate hc
    have hn : (chL x).toNat = 47 + x.natAbs := by
      unfold chL
      rw [UInt8.toNat_ofNat']
      omega
    have h0 : 1 ≤ x.natAbs := by unfold Six at hx; omega
    exact letB_yes (by omega) (by omega)
theorem rps_put {i j : Nat} (hi : i < (termsOf h (allW D N)).length) (hj : ((termsOf h (allW D N))[i]).s.size + j ≤ N) {f : VF} (hf : RpS D N x G (termsOf h (allW D N)) i j f) :
    ∃ q, putL (termsOf f (allW D N)) ⟨wrS (termsOf h (allW D N))[i] x j, (vlS G (termsOf h (allW D N))[i] x j).1, (vlS G (termsOf h (allW D N))[i] x j).2⟩ = some (termsOf q (allW D N)) ∧ RpS D N x G (termsOf h (allW D N)) i (j + 1) q := by
  have hin := wrS_in hD hN hx hxD hk hG hr (List.getElem_mem hi) hj
  have hnd := us_nodup (h := h) (allW_asc (D := D) hD.2 N)
  have hlt : i < ((termsOf h (allW D N)).map fun t => t.s.data.toList).length := by simpa using hi
  have hg : ((termsOf h (allW D N)).map fun t => t.s.data.toList)[i] = (termsOf h (allW D N))[i].s.data.toList := by simp
  have hl : (termsOf h (allW D N))[i].s.data.toList.length = (termsOf h (allW D N))[i].s.size := by simp
  obtain ⟨_, q, h1, h2⟩ := round_put (sgL_sg x) hk hG hlt hnd hf (ws_small hN) (by rw [hg]; exact hin)
  refine ⟨q, ?_, h2⟩
  rw [putL_termsOf (allW_asc (D := D) hD.2 N) hin]
  unfold vlS
  rw [← hl, vS_rep (sgL_sg x) hk hG _ j (by rw [hl]; omega)]
  rw [hg] at h1
  unfold wrS
  rw [h1]; rfl
theorem rps_start : RpS D N x G (termsOf h (allW D N)) 0 0 (fun _ => none) := by
  have _ := hD; have _ := hx; have _ := hxD; have _ := hk; have _ := hG; have _ := hr
  exact round_start (fun _ _ => rfl) (ws_small hN)
theorem rps_next {i j : Nat} (hi : i < (termsOf h (allW D N)).length) (hj : N < ((termsOf h (allW D N))[i]).s.size + j) {f : VF} (hf : RpS D N x G (termsOf h (allW D N)) i j f) : RpS D N x G (termsOf h (allW D N)) (i + 1) 0 f := by
  have _ := hD; have _ := hN; have _ := hx; have _ := hxD; have _ := hk; have _ := hG; have _ := hr
  refine round_next (N := N) hf (by simpa using hi) ?_ (allW_size D N)
  simpa using hj
theorem rps_end {i : Nat} (hi : (termsOf h (allW D N)).length ≤ i) {f : VF} (hf : RpS D N x G (termsOf h (allW D N)) i 0 f) : RepV (allW D N) f (mulG G (eG (chL x) (sgL x))) := by
  have _ := hx; have _ := hxD
  refine round_end hf (by simpa using hi) fun s hs p hp => ?_
  have h1 := (ws_closed hD s hs p hp).1
  have e := (list_ext s p).1
  have h2 : wrd (s.data.toList.take p) ∈ allW D N := by
    have : wrd (s.data.toList.take p) = s.extract 0 p := data_ext (by rw [wrd_list, e])
    rw [this]; exact h1
  have h5 := ws_small hN s hs
  have hl : s.data.toList.length = s.size := by simp
  have hl2 : (s.data.toList.take p).length ≤ 5 := by rw [List.length_take]; omega
  have hsm := smq_part (c := 0) (sgL_sg 0) hk hG (s.data.toList.take p) 0 (by omega)
  have hsm' : SmQ (G (s.data.toList.take p)) (facG (s.data.toList.take p).length) := by simpa [facG] using hsm
  exact us_mem hr h2 hsm'
theorem rps_bd {i j : Nat} {f : VF} (hf : RpS D N x G (termsOf h (allW D N)) i j f) : ∀ t ∈ termsOf f (allW D N), t.n.natAbs ≤ 1000000000 ∧ t.d.natAbs ≤ 1000000000 := by
  have _ := hD; have _ := hx; have _ := hxD; have _ := hr
  exact terms_bd hf (ws_small hN) (k := k + 1) (by omega) (parG_bd hk hG (eG_bd (sgL_sg x)))
theorem vlS_bd {t : Tm} {j : Nat} (hj : t.s.size + j ≤ N) : (-1000000000 ≤ (vlS G t x j).1 ∧ (vlS G t x j).1 ≤ 1000000000) ∧ 1 ≤ (vlS G t x j).2 ∧ (vlS G t x j).2 ≤ 1000000000 := by
  have _ := hD; have _ := hx; have _ := hxD; have _ := hr
  have hl : t.s.data.toList.length = t.s.size := by simp
  unfold vlS
  rw [← hl]
  exact vS_bd (sgL_sg x) hk hG _ j (by omega)
theorem vlS_0 {t : Tm} (ht : t ∈ termsOf h (allW D N)) : vlS G t x 0 = (t.n, t.d) := by
  have _ := hD; have _ := hx; have _ := hxD; have _ := hk; have _ := hG
  exact (terms_rep hr (ws_small hN) ht).2.1.symm
end
theorem termsOf_1458 {D N : Nat} (hD : D ≤ 3) (hN : N ≤ 5) (f : VF) : (termsOf f (allW D N)).length ≤ 1458 := by
  have h1 := termsOf_len f (allW D N)
  have h2 := allW_few hD hN
  omega
/-- what one number more comes to -/
def StepG (D N : Nat) (F : List UInt8 → Int) (W : World) (e : Ending) (w' : World) : Prop :=
  ∃ (q : VF) (a : Option Addr) (c : Nat), RepV (allW D N) q F ∧ e = .returned (.agg #[.int .i64 D, .int .i64 N, .slice a (termsOf q (allW D N)).length c]) ∧ (termsOf q (allW D N)).length ≤ c ∧ Below W.heap.size W w' ∧ NewRow W.heap.size w'.heap.size w' a (termsOf q (allW D N))
/-- the box of what is being made, the letter and the sign -/
def OutCut (wb : World) (D N : Nat) (lt : ByteArray) (v5 v6 v7 : Value) (wy : World) : Prop :=
  ∃ (g : Nat) (a : Option Addr), v5 = .pointer (some ⟨g, 0, none⟩) ∧ v6 = .string lt ∧ v7 = .int .i64 1 ∧ wb.heap.size ≤ g ∧ Below wb.heap.size wb wy ∧ T3 wy g (.int .i64 D) (.int .i64 N) (.slice a 0 0)
end Go.Proofs.YtddfijlgehpjfaaGreatDoor
