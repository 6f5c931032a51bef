/-
  Plain mathematics: the number of a word in the shuffle of two words, and sums over finitely many pairs of words.
-/
import Derived.Test.YtjloadllckllpaaGreatDoorMapW
namespace Go.Proofs.YtjloadllckllpaaGreatDoor

/-- the number of u in the shuffle of v and w -/
def shN : List UInt8 → List UInt8 → List UInt8 → Nat
  | v, w, [] => if v = [] ∧ w = [] then 1 else 0
  | v, w, c :: u => (if v.head? = some c then shN v.tail w u else 0) + (if w.head? = some c then shN v w.tail u else 0)
theorem shN_len : ∀ (u v w : List UInt8), v.length + w.length ≠ u.length → shN v w u = 0
  | [], v, w, h => by
    rw [shN]
    rw [if_neg]
    rintro ⟨rfl, rfl⟩
    exact h rfl
  | c :: u, v, w, h => by
    rw [shN]
    have h1 : (if v.head? = some c then shN v.tail w u else 0) = 0 := by
      split
      · rename_i hv
        refine shN_len u _ _ ?_
        cases v with
        | nil => cases hv
        | cons a v => simp only [List.length_cons, List.tail_cons] at h ⊢; omega
      · rfl
    have h2 : (if w.head? = some c then shN v w.tail u else 0) = 0 := by
      split
      · rename_i hw
        refine shN_len u _ _ ?_
        cases w with
        | nil => cases hw
        | cons a w => simp only [List.length_cons, List.tail_cons] at h ⊢; omega
      · rfl
    rw [h1, h2]
theorem shN_le : ∀ (u v w : List UInt8), shN v w u ≤ 2 ^ u.length
  | [], v, w => by rw [shN]; split <;> simp
  | c :: u, v, w => by
    rw [shN, List.length_cons, Nat.pow_succ]
    have h1 := shN_le u v.tail w
    have h2 := shN_le u v w.tail
    split <;> split <;> omega

/-- the sum over a list of pairs of a map's numbers, each times a weight -/
def sm (ks : List Pw) (f : Pw → Option Int) (φ : Pw → Int) : Int := (ks.map fun k => nv (f k) * φ k).sum
theorem sm_congr {f g : Pw → Option Int} {φ : Pw → Int} : ∀ {ks : List Pw}, (∀ k ∈ ks, nv (f k) = nv (g k)) → sm ks f φ = sm ks g φ
  | [], _ => rfl
  | k :: ks, h => by
    have ih := sm_congr (φ := φ) (ks := ks) (fun k hk => h k (List.mem_cons_of_mem _ hk))
    unfold sm at ih ⊢
    simp only [List.map_cons, List.sum_cons]
    rw [ih, h k (List.mem_cons_self ..)]
theorem sm_put {f : Pw → Option Int} {φ : Pw → Int} {s : Pw} {x : Int} : ∀ {ks : List Pw}, ks.Nodup → s ∈ ks → sm ks (putP f s x) φ = sm ks f φ + (x - nv (f s)) * φ s
  | [], _, h => by cases h
  | k :: ks, hn, h => by
    obtain ⟨hk, hn⟩ := List.nodup_cons.1 hn
    by_cases e : k = s
    · subst e
      have h1 : sm ks (putP f k x) φ = sm ks f φ := sm_congr fun z hz => by
        unfold putP
        rw [if_neg (fun e : z = k => hk (e ▸ hz))]
      unfold sm at h1 ⊢
      simp only [List.map_cons, List.sum_cons]
      rw [h1]
      have h2 : nv (putP f k x k) = x := by simp [putP, nv]
      rw [h2, Int.sub_mul]
      omega
    · have hs : s ∈ ks := by
        rcases List.mem_cons.1 h with h | h
        · exact absurd h.symm e
        · exact h
      have ih := sm_put (f := f) (φ := φ) (x := x) hn hs
      unfold sm at ih ⊢
      simp only [List.map_cons, List.sum_cons]
      rw [ih]
      have h2 : nv (putP f s x k) = nv (f k) := by simp [putP, e]
      rw [h2]
      omega
theorem sm_nonneg {f : Pw → Option Int} {φ : Pw → Int} : ∀ {ks : List Pw}, (∀ k ∈ ks, 0 ≤ nv (f k)) → (∀ k ∈ ks, 0 ≤ φ k) → 0 ≤ sm ks f φ
  | [], _, _ => by simp [sm]
  | k :: ks, h, hp => by
    have ih := sm_nonneg (ks := ks) (fun k hk => h k (List.mem_cons_of_mem _ hk)) (fun k hk => hp k (List.mem_cons_of_mem _ hk))
    unfold sm at ih ⊢
    simp only [List.map_cons, List.sum_cons]
    have := Int.mul_nonneg (h k (List.mem_cons_self ..)) (hp k (List.mem_cons_self ..))
    omega
theorem sm_one {f : Pw → Option Int} {s : Pw} : ∀ {ks : List Pw}, (∀ k ∈ ks, 0 ≤ nv (f k)) → s ∈ ks → nv (f s) ≤ sm ks f fun _ => 1
  | [], _, h => by cases h
  | k :: ks, h, hs => by
    have h0 := sm_nonneg (φ := fun _ => 1) (ks := ks) (fun k hk => h k (List.mem_cons_of_mem _ hk)) (fun _ _ => by omega)
    have hk := h k (List.mem_cons_self ..)
    unfold sm at h0 ⊢
    simp only [List.map_cons, List.sum_cons, Int.mul_one] at h0 ⊢
    rcases List.mem_cons.1 hs with rfl | hs
    · omega
    · have ih := sm_one (ks := ks) (fun k hk => h k (List.mem_cons_of_mem _ hk)) hs
      unfold sm at ih
      simp only [Int.mul_one] at ih
      omega
theorem sm_none (ks : List Pw) (φ : Pw → Int) : sm ks (fun _ => none) φ = 0 := by
  induction ks with
  | nil => rfl
  | cons k ks ih =>
    unfold sm at ih ⊢
    simp only [List.map_cons, List.sum_cons, ih]
    simp [nv]
/-- what is left of a map that is ranged over -/
def fL (f : Pw → Option Int) (left : Pw → Bool) : Pw → Option Int := fun k => if left k then f k else none
theorem sm_take {f : Pw → Option Int} {left : Pw → Bool} {φ : Pw → Int} {s : Pw} {ks : List Pw} (hn : ks.Nodup) (hs : s ∈ ks) (hl : left s = true) :
    sm ks (fL f left) φ = sm ks (fL f fun z => left z && !decide (z = s)) φ + nv (f s) * φ s := by
  have h1 : sm ks (fL f left) φ = sm ks (putP (fL f fun z => left z && !decide (z = s)) s (nv (f s))) φ := sm_congr fun k _ => by
    unfold putP fL
    by_cases e : k = s
    · subst e; simp [hl, nv]
    · simp [e]
  rw [h1, sm_put hn hs]
  have h2 : nv (fL f (fun z => left z && !decide (z = s)) s) = 0 := by simp [fL, nv]
  rw [h2]
  simp

/-- the number of u in the shuffle of two words -/
def phi (u : List UInt8) (p : Pw) : Int := (shN p.1.data.toList p.2.data.toList u : Nat)
/-- a word behind one letter -/
def behind (s : ByteArray) : ByteArray := ⟨s.data.toList.tail.toArray⟩
/-- the pairs behind one letter, taken of the first or of the second word -/
def cut0 (p : Pw) : Pw := (behind p.1, p.2)
def cut1 (p : Pw) : Pw := (p.1, behind p.2)
theorem phi_cons (c : UInt8) (u : List UInt8) (p : Pw) : phi (c :: u) p = (if p.1.data.toList.head? = some c then phi u (cut0 p) else 0) + (if p.2.data.toList.head? = some c then phi u (cut1 p) else 0) := by
  unfold phi cut0 cut1 behind
  rw [shN]
  split <;> split <;> simp
theorem phi_nil (p : Pw) : phi [] p = if p = (ByteArray.empty, ByteArray.empty) then 1 else 0 := by
  obtain ⟨a, b⟩ := p
  unfold phi
  rw [shN]
  have h : ∀ s : ByteArray, s.data.toList = [] ↔ s = ByteArray.empty := fun s => by
    constructor
    · intro e
      have : s.data = #[] := by simpa using e
      cases s
      simp only at this
      subst this
      rfl
    · rintro rfl; rfl
  simp only [h, Prod.mk.injEq]
  split <;> rfl
theorem phi_nonneg (u : List UInt8) (p : Pw) : 0 ≤ phi u p := by unfold phi; omega
end Go.Proofs.YtjloadllckllpaaGreatDoor
