/-
  Plain mathematics: the terms of values at words make a series; the value of an exponential and of a path's signature at the empty word is 1.
-/
import Derived.Test.YtddfijlgehpjfaaGreatDoorSigS
namespace Go.Proofs.YtddfijlgehpjfaaGreatDoor

theorem wordsL_B {D : Nat} (hD : D ≤ 3) : ∀ (n : Nat) (s : ByteArray), s ∈ wordsL D n → wordB (D : Int) s.data.toList = true
  | 0, s, h => by
    have e : s = ByteArray.empty := by simpa [wordsL] using h
    subst e
    rfl
  | n + 1, s, h => by
    unfold wordsL nextL at h
    obtain ⟨u, hu, h⟩ := List.mem_flatMap.1 h
    unfold longer at h
    obtain ⟨k, hk, rfl⟩ := List.mem_map.1 h
    have hk := List.mem_range.1 hk
    rw [append_list, letW_list, wordB_snoc, wordsL_B hD n u hu, Bool.true_and]
    have e : (UInt8.ofNat (48 + k)).toNat = 48 + k := by
      rw [UInt8.toNat_ofNat']
      omega
    simp only [letB, e, decide_eq_true_eq]
    omega
theorem allW_B {D : Nat} (hD : D ≤ 3) : ∀ (n : Nat) (s : ByteArray), s ∈ allW D n → wordB (D : Int) s.data.toList = true
  | 0, s, h => wordsL_B hD 0 s h
  | n + 1, s, h => by
    unfold allW at h
    rcases List.mem_append.1 h with h | h
    · exact allW_B hD n s h
    · exact wordsL_B hD (n + 1) s h
/-- good values make a series -/
theorem ser_terms {D N : Nat} (hs : shapeB (D : Int) (N : Int) = true) {h : VF} (hg : GoodV (allW D N) h) : serB (D : Int) (N : Int) (termsOf h (allW D N)) = true := by
  have hD := shape_out hs
  have ha := List.pairwise_iff_getElem.1 (termsOf_asc h (allW_asc (D := D) (by omega) N))
  refine serB_good hs fun k hk => ?_
  have hm := termsOf_iff.1 (List.getElem_mem hk)
  obtain ⟨h1, h2, h3⟩ := hg _ _ hm.2
  have hb : termB (D : Int) (N : Int) (termsOf h (allW D N))[k] = true := by
    have a1 := allW_size D N _ h1
    have a2 := allW_B (D := D) (by omega) N _ h1
    have h2' : isF (termsOf h (allW D N))[k].n (termsOf h (allW D N))[k].d = true := h2
    have h3' : (termsOf h (allW D N))[k].n ≠ 0 := h3
    simp only [termB, a2, h2', Bool.and_true, Bool.and_eq_true, decide_eq_true_eq, Bool.not_eq_true', beq_eq_false_iff_ne, Bool.true_and]
    exact ⟨by omega, h3'⟩
  unfold goodAt
  rw [List.getElem?_eq_getElem hk]
  show (termB _ _ _ && _) = true
  rw [hb, Bool.true_and]
  cases k with
  | zero => rfl
  | succ j =>
    show (match (termsOf h (allW D N))[j]? with | none => true | some p => lessL p.s.data.toList (termsOf h (allW D N))[j + 1].s.data.toList) = true
    rw [List.getElem?_eq_getElem (by omega)]
    exact ha j (j + 1) (by omega) hk (by omega)
theorem good_ext {ws : List ByteArray} {f g : VF} (hf : GoodV ws f) (hg : GoodV ws g) (h : ∀ s, valF f s = valF g s) : f = g := by
  funext s
  have e := h s
  cases ef : f s with
  | none =>
    rw [valF_none ef] at e
    exact (valF_zero hg s (by rw [← e])).symm
  | some p =>
    cases eg : g s with
    | none =>
      rw [valF_none eg, valF_some ef] at e
      exact absurd (by rw [e]) (hf s p ef).2.2
    | some q => rw [valF_some ef, valF_some eg] at e; rw [e]
/-- the values of the terms of good values are these values -/
theorem valV_terms {D N : Nat} (hs : shapeB (D : Int) (N : Int) = true) {h : VF} (hg : GoodV (allW D N) h) : valV (termsOf h (allW D N)) (termsOf h (allW D N)).length = h := by
  have hD := shape_out hs
  have hser := ser_terms hs hg
  have hv := good_valV hser
  have hw := allW_asc (D := D) (by omega) N
  refine good_ext hv.1 hg fun s => ?_
  rw [← valL_termsOf hw hv.1 s, ← valL_termsOf hw hg s, hv.2]

-- the value at the empty word
theorem unit_at : unitF ByteArray.empty = some (1, 1) := by unfold unitF setF; rw [if_pos rfl]
theorem empty_cut (k : Nat) : (ByteArray.empty).extract 0 k = ByteArray.empty ∧ (ByteArray.empty).extract k (ByteArray.empty).size = ByteArray.empty := by
  constructor <;> exact data_eq (by simp)
theorem prod_at {f g h : VF} {ws : List ByteArray} (hp : prodV f g ws = some h) : h ByteArray.empty = if inL ByteArray.empty ws = true then (prodAt f g ByteArray.empty).bind nzF else none := by
  unfold prodV at hp
  split at hp
  · injection hp with hp
    rw [← hp]
    rfl
  · cases hp
theorem prodAt_empty (f g : VF) : prodAt f g ByteArray.empty = cutStep f g ByteArray.empty 0 (0, 1) := by
  show cutsUp f g ByteArray.empty 1 = _
  rfl
theorem prod_one {f g h : VF} {D N : Nat} (hp : prodV f g (allW D N) = some h) (hf : f ByteArray.empty = some (1, 1)) (hg : g ByteArray.empty = some (1, 1)) : h ByteArray.empty = some (1, 1) := by
  obtain ⟨r, er, _⟩ := allW_head D N
  rw [prod_at hp, if_pos (inL_iff.2 (by rw [er]; simp)), prodAt_empty]
  unfold cutStep
  rw [(empty_cut 0).1, (empty_cut 0).2, hf]
  simp only [hg]
  decide
theorem prod_none {f g h : VF} {ws : List ByteArray} (hp : prodV f g ws = some h) (hg : g ByteArray.empty = none) : h ByteArray.empty = none := by
  rw [prod_at hp, prodAt_empty]
  unfold cutStep
  rw [(empty_cut 0).1, (empty_cut 0).2]
  split
  · cases f ByteArray.empty with
    | none => rfl
    | some x => simp only [hg]; rfl
  · rfl
theorem addStep_off {g f h : VF} {a b : Int} {s t : ByteArray} (e : addStep g a b f s = some h) (ht : t ≠ s) : h t = f t := by
  cases hs : g s with
  | none => rw [addStep_none hs] at e; injection e with e; rw [e]
  | some v =>
    rw [addStep_some hs] at e
    obtain ⟨r, _, rfl⟩ := Option.map_eq_some_iff.1 e
    unfold setF
    rw [if_neg ht]
theorem addK_off {g : VF} {a b : Int} {t : ByteArray} : ∀ {ws : List ByteArray} {f h : VF}, t ∉ ws → addK g a b ws f = some h → h t = f t
  | [], f, h, _, e => by unfold addK at e; injection e with e; rw [e]
  | s :: ws, f, h, ht, e => by
    unfold addK at e
    obtain ⟨f', h1, h2⟩ := Option.bind_eq_some_iff.1 e
    simp only [List.mem_cons, not_or] at ht
    rw [addK_off ht.2 h2, addStep_off h1 ht.1]
theorem addK_none {g f h : VF} {a b : Int} {D N : Nat} (e : addK g a b (allW D N) f = some h) (hg : g ByteArray.empty = none) : h ByteArray.empty = f ByteArray.empty := by
  obtain ⟨r, er, hr⟩ := allW_head D N
  rw [er] at e
  unfold addK at e
  obtain ⟨f', h1, h2⟩ := Option.bind_eq_some_iff.1 e
  rw [addStep_none hg] at h1
  injection h1 with h1
  rw [addK_off (fun m => hr _ m rfl) h2, h1]
theorem addK_first {h : VF} {D N : Nat} (e : addK unitF 1 1 (allW D N) noneF = some h) : h ByteArray.empty = some (1, 1) := by
  obtain ⟨r, er, hr⟩ := allW_head D N
  rw [er] at e
  unfold addK at e
  obtain ⟨f', h1, h2⟩ := Option.bind_eq_some_iff.1 e
  rw [addK_off (fun m => hr _ m rfl) h2]
  rw [addStep_some unit_at, valF_none (show noneF _ = none from rfl)] at h1
  have e2 : apS 0 1 1 1 1 1 = some (1, 1) := by decide
  rw [e2, Option.map_some] at h1
  injection h1 with h1
  rw [← h1]
  unfold setF
  rw [if_pos rfl]
  rfl
theorem pow_none {x p : VF} {ws : List ByteArray} (hx : x ByteArray.empty = none) : ∀ {k : Nat}, powV x ws (k + 1) = some p → p ByteArray.empty = none := fun {k} h => by
  rw [powV] at h
  obtain ⟨q, _, h2⟩ := Option.bind_eq_some_iff.1 h
  exact prod_none h2 hx
theorem exp_one {x : VF} {D N : Nat} (hx : x ByteArray.empty = none) : ∀ {k : Nat} {h : VF}, sumK x (allW D N) expF (k + 1) = some h → h ByteArray.empty = some (1, 1)
  | 0, h, e => by
    rw [sumK] at e
    obtain ⟨s, h1, h2⟩ := Option.bind_eq_some_iff.1 e
    rw [sumK] at h1
    injection h1 with h1
    obtain ⟨p, h3, h4⟩ := Option.bind_eq_some_iff.1 h2
    rw [powV] at h3
    injection h3 with h3
    rw [← h1, ← h3] at h4
    exact addK_first h4
  | k + 1, h, e => by
    rw [sumK] at e
    obtain ⟨s, h1, h2⟩ := Option.bind_eq_some_iff.1 e
    obtain ⟨p, h3, h4⟩ := Option.bind_eq_some_iff.1 h2
    rw [addK_none h4 (pow_none hx h3)]
    exact exp_one hx h1
theorem sig_one {ps : List (List Int)} {D N : Nat} : ∀ {k : Nat} {h : VF}, sigV ps (allW D N) N k = some h → h ByteArray.empty = some (1, 1)
  | 0, h, e => by
    rw [sigV] at e
    injection e with e
    rw [← e]
    exact unit_at
  | k + 1, h, e => by
    rw [sigV] at e
    obtain ⟨s, h1, h2⟩ := Option.bind_eq_some_iff.1 e
    obtain ⟨x, h3, h4⟩ := Option.bind_eq_some_iff.1 h2
    exact prod_one h4 (sig_one h1) (exp_one (by unfold stepV; exact stepF_empty _ _ _) h3)
/-- the constant of a signature -/
theorem sig_const {ps : List (List Int)} {D N : Nat} (hs : shapeB (D : Int) (N : Int) = true) {k : Nat} {h : VF} (e : sigV ps (allW D N) N k = some h) : valL [] (termsOf h (allW D N)) = (1, 1) := by
  have hD := shape_out hs
  have e2 := valL_termsOf (allW_asc (D := D) (by omega) N) (sigV_good e) ByteArray.empty
  rw [valF_some (sig_one e)] at e2
  exact e2
end Go.Proofs.YtddfijlgehpjfaaGreatDoor
