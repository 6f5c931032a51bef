/-
  Plain mathematics: the number of a word in the shuffle of two words, and sums over finitely many pairs of words.
  The model's number of a word in the shuffle of two words.
  ShuffleNumber's contracts, of the model; and what counts as good arguments.
-/
import Derived.Test.YtdgkkcjjfpenpaaGreatDoorMapW
import Derived.Test.YtdgkkcjjfpenpaaGreatDoorOrd
import Derived.Test.YtdgkkcjjfpenpaaGreatDoorRes
namespace Go.Proofs.YtdgkkcjjfpenpaaGreatDoor

/-- the number of u in the shuffle of v and w -/
def shN : List UInt8 → List UInt8 → List UInt8 → Nat
  | v, w, [] => if v = [] ∧ w = [] then 1 else 0
  | v, w, c :: u => (if v.head? = some c then shN v.tail w u else 0) + (if w.head? = some c then shN v w.tail u else 0)
theorem shN_len : ∀ (u v w : List UInt8), v.length + w.length ≠ u.length → shN v w u = 0
  | [], v, w, h => by
    rw [shN]
    rw [if_neg]
    rintro ⟨rfl, rfl⟩
    exact h rfl
  | c :: u, v, w, h => by
    rw [shN]
    have h1 : (if v.head? = some c then shN v.tail w u else 0) = 0 := by
      split
      · rename_i hv
        refine shN_len u _ _ ?_
        cases v with
        | nil => cases hv
        | cons a v => simp only [List.length_cons, List.tail_cons] at h ⊢; omega
      · rfl
    have h2 : (if w.head? = some c then shN v w.tail u else 0) = 0 := by
      split
      · rename_i hw
        refine shN_len u _ _ ?_
        cases w with
        | nil => cases hw
        | cons a w => simp only [List.length_cons, List.tail_cons] at h ⊢; omega
      · rfl
    rw [h1, h2]
theorem shN_le : ∀ (u v w : List UInt8), shN v w u ≤ 2 ^ u.length
  | [], v, w => by rw [shN]; split <;> simp
  | c :: u, v, w => by
    rw [shN, List.length_cons, Nat.pow_succ]
    have h1 := shN_le u v.tail w
    have h2 := shN_le u v w.tail
    split <;> split <;> omega

/-- the sum over a list of pairs of a map's numbers, each times a weight -/
def sm (ks : List Pw) (f : Pw → Option Int) (φ : Pw → Int) : Int := (ks.map fun k => nv (f k) * φ k).sum
theorem sm_congr {f g : Pw → Option Int} {φ : Pw → Int} : ∀ {ks : List Pw}, (∀ k ∈ ks, nv (f k) = nv (g k)) → sm ks f φ = sm ks g φ
  | [], _ => rfl
  | k :: ks, h => by
    have ih := sm_congr (φ := φ) (ks := ks) (fun k hk => h k (List.mem_cons_of_mem _ hk))
    unfold sm at ih ⊢
    simp only [List.map_cons, List.sum_cons]
    rw [ih, h k (List.mem_cons_self ..)]
theorem sm_put {f : Pw → Option Int} {φ : Pw → Int} {s : Pw} {x : Int} : ∀ {ks : List Pw}, ks.Nodup → s ∈ ks → sm ks (putP f s x) φ = sm ks f φ + (x - nv (f s)) * φ s
  | [], _, h => by cases h
  | k :: ks, hn, h => by
    obtain ⟨hk, hn⟩ := List.nodup_cons.1 hn
    by_cases e : k = s
    · subst e
      have h1 : sm ks (putP f k x) φ = sm ks f φ := sm_congr fun z hz => by
        unfold putP
        rw [if_neg (fun e : z = k => hk (e ▸ hz))]
      unfold sm at h1 ⊢
      simp only [List.map_cons, List.sum_cons]
      rw [h1]
      have h2 : nv (putP f k x k) = x := by simp [putP, nv]
      rw [h2, Int.sub_mul]
      omega
    · have hs : s ∈ ks := by
        rcases List.mem_cons.1 h with h | h
        · exact absurd h.symm e
        · exact h
      have ih := sm_put (f := f) (φ := φ) (x := x) hn hs
      unfold sm at ih ⊢
      simp only [List.map_cons, List.sum_cons]
      rw [ih]
      have h2 : nv (putP f s x k) = nv (f k) := by simp [putP, e]
      rw [h2]
      omega
theorem sm_nonneg {f : Pw → Option Int} {φ : Pw → Int} : ∀ {ks : List Pw}, (∀ k ∈ ks, 0 ≤ nv (f k)) → (∀ k ∈ ks, 0 ≤ φ k) → 0 ≤ sm ks f φ
  | [], _, _ => by simp [sm]
  | k :: ks, h, hp => by
    have ih := sm_nonneg (ks := ks) (fun k hk => h k (List.mem_cons_of_mem _ hk)) (fun k hk => hp k (List.mem_cons_of_mem _ hk))
    unfold sm at ih ⊢
    simp only [List.map_cons, List.sum_cons]
    have := Int.mul_nonneg (h k (List.mem_cons_self ..)) (hp k (List.mem_cons_self ..))
    omega
theorem sm_one {f : Pw → Option Int} {s : Pw} : ∀ {ks : List Pw}, (∀ k ∈ ks, 0 ≤ nv (f k)) → s ∈ ks → nv (f s) ≤ sm ks f fun _ => 1
  | [], _, h => by cases h
  | k :: ks, h, hs => by
    have h0 := sm_nonneg (φ := fun _ => 1) (ks := ks) (fun k hk => h k (List.mem_cons_of_mem _ hk)) (fun _ _ => by omega)
    have hk := h k (List.mem_cons_self ..)
    unfold sm at h0 ⊢
    simp only [List.map_cons, List.sum_cons, Int.mul_one] at h0 ⊢
    rcases List.mem_cons.1 hs with rfl | hs
    · omega
    · have ih := sm_one (ks := ks) (fun k hk => h k (List.mem_cons_of_mem _ hk)) hs
      unfold sm at ih
      simp only [Int.mul_one] at ih
      omega
theorem sm_none (ks : List Pw) (φ : Pw → Int) : sm ks (fun _ => none) φ = 0 := by
  induction ks with
  | nil => rfl
  | cons k ks ih =>
    unfold sm at ih ⊢
    simp only [List.map_cons, List.sum_cons, ih]
    simp [nv]
/-- what is left of a map that is ranged over -/
def fL (f : Pw → Option Int) (left : Pw → Bool) : Pw → Option Int := fun k => if left k then f k else none
theorem sm_take {f : Pw → Option Int} {left : Pw → Bool} {φ : Pw → Int} {s : Pw} {ks : List Pw} (hn : ks.Nodup) (hs : s ∈ ks) (hl : left s = true) :
    sm ks (fL f left) φ = sm ks (fL f fun z => left z && !decide (z = s)) φ + nv (f s) * φ s := by
  have h1 : sm ks (fL f left) φ = sm ks (putP (fL f fun z => left z && !decide (z = s)) s (nv (f s))) φ := sm_congr fun k _ => by
    unfold putP fL
    by_cases e : k = s
    · subst e; simp [hl, nv]
    · simp [e]
  rw [h1, sm_put hn hs]
  have h2 : nv (fL f (fun z => left z && !decide (z = s)) s) = 0 := by simp [fL, nv]
  rw [h2]
  simp

/-- the number of u in the shuffle of two words -/
def phi (u : List UInt8) (p : Pw) : Int := (shN p.1.data.toList p.2.data.toList u : Nat)
/-- a word behind one letter -/
def behind (s : ByteArray) : ByteArray := ⟨s.data.toList.tail.toArray⟩
/-- the pairs behind one letter, taken of the first or of the second word -/
def cut0 (p : Pw) : Pw := (behind p.1, p.2)
def cut1 (p : Pw) : Pw := (p.1, behind p.2)
theorem phi_cons (c : UInt8) (u : List UInt8) (p : Pw) : phi (c :: u) p = (if p.1.data.toList.head? = some c then phi u (cut0 p) else 0) + (if p.2.data.toList.head? = some c then phi u (cut1 p) else 0) := by
  unfold phi cut0 cut1 behind
  rw [shN]
  split <;> split <;> simp
theorem phi_nil (p : Pw) : phi [] p = if p = (ByteArray.empty, ByteArray.empty) then 1 else 0 := by
  obtain ⟨a, b⟩ := p
  unfold phi
  rw [shN]
  have h : ∀ s : ByteArray, s.data.toList = [] ↔ s = ByteArray.empty := fun s => by
    constructor
    · intro e
      have : s.data = #[] := by simpa using e
      cases s
      simp only at this
      subst this
      rfl
    · rintro rfl; rfl
  simp only [h, Prod.mk.injEq]
  split <;> rfl
theorem phi_nonneg (u : List UInt8) (p : Pw) : 0 ≤ phi u p := by unfold phi; omega
end Go.Proofs.YtdgkkcjjfpenpaaGreatDoor

namespace Go.Proofs.YtdgkkcjjfpenpaaGreatDoor
open Go.RowKit
set_option linter.unusedVariables false

theorem behind_ext (s : ByteArray) : s.extract 1 s.size = behind s := by
  unfold behind
  apply ByteArray.ext
  apply Array.ext'
  have e : s.size - 1 = s.data.toList.tail.length := by rw [List.length_tail]; rfl
  simp only [ByteArray.data_extract, Array.toList_extract, List.extract_eq_take_drop, List.drop_one]
  rw [e, List.take_length]
theorem behind_size {s : ByteArray} (h : 0 < s.size) : (behind s).size = s.size - 1 := by
  rw [← behind_ext]; simp only [ByteArray.size_extract]; omega
theorem head_of {s : ByteArray} (h : 0 < s.size) : s.data.toList.head? = some s[0] := by
  have h' : 0 < s.data.toList.length := h
  cases hs : s.data.toList with
  | nil => rw [hs] at h'; cases h'
  | cons a r =>
    simp only [List.head?_cons]
    have : s[0] = s.data.toList[0] := by
      rw [Array.getElem_toList]; rfl
    simp only [this, hs, List.getElem_cons_zero]
theorem nil_of {s : ByteArray} (h : s.size = 0) : s.data.toList = [] := List.eq_nil_of_length_eq_zero h
theorem cons_of {s : ByteArray} (h : 0 < s.size) : s.data.toList = s[0] :: (behind s).data.toList := by
  have h1 := head_of h
  unfold behind
  cases hs : s.data.toList with
  | nil => rw [hs] at h1; cases h1
  | cons a r =>
    rw [hs] at h1
    simp only [List.head?_cons, Option.some.injEq] at h1
    simp [h1]
/-- what the model's two heads come to -/
theorem shN_heads {v w u : ByteArray} (h : 0 < u.size) (x y : Nat) (hx : (if v.data.toList.head? = some u[0] then shN (behind v).data.toList w.data.toList (behind u).data.toList else 0) = x) (hy : (if w.data.toList.head? = some u[0] then shN v.data.toList (behind w).data.toList (behind u).data.toList else 0) = y) :
    shN v.data.toList w.data.toList u.data.toList = x + y := by
  rw [cons_of h, shN, ← hx, ← hy]
  rfl
theorem shN_b {v w u : List UInt8} (h : u.length ≤ 8) : (shN v w u : Int) ≤ 256 := by
  have h1 := shN_le u v w
  have h2 : 2 ^ u.length ≤ 2 ^ 8 := Nat.pow_le_pow_right (by omega) h
  omega
theorem drew_ex {W W' : World} (h : ∃ m, W' = W.drewN m) (n : Nat) : ∃ m, W'.drewN n = W.drewN m := by
  obtain ⟨m, rfl⟩ := h
  exact ⟨m + n, by rw [World.drewN_drewN]⟩
theorem drew_0 (W : World) : ∃ m, W = W.drewN m := ⟨0, rfl⟩
theorem quiet_of2 {P : Program} {f : FuncId} {args : Array Value} {W : World} {k n : Nat} {v : Value}
    (h : Calls P f args (W.drewN (k + n)) fun e w' => e = .returned v ∧ ∃ m, w' = (W.drewN (k + n)).drewN m) : Calls P f args (W.drewN (k + n)) fun e w'' => e = .returned v ∧ ∃ m, w'' = W.drewN (k + m) :=
  h.mono fun _ _ ⟨he, m, hm⟩ => ⟨he, n + m, by rw [hm, World.drewN_drewN, Nat.add_assoc]⟩
/-- the model's number: what is proved of it -/
def NumAt (n : Nat) : Prop := ∀ (v w u : ByteArray), u.size = n → n ≤ 8 → v.size ≤ 8 → w.size ≤ 8 → ∀ W, Calls Tryz.prog 36 #[.string v, .string w, .string u] W fun e w' => e = .returned (.int .i64 (shN v.data.toList w.data.toList u.data.toList : Nat)) ∧ ∃ m, w' = W.drewN m
set_option maxRecDepth 100000 in
theorem num_ne (n : Nat) (v w u : ByteArray) (hu : u.size = n) (hn : n ≤ 8) (hv : v.size ≤ 8) (hw : w.size ≤ 8) (hl : v.size + w.size ≠ u.size) (W : World) : Calls Tryz.prog 36 #[.string v, .string w, .string u] W fun e w' => e = .returned (.int .i64 (shN v.data.toList w.data.toList u.data.toList : Nat)) ∧ ∃ m, w' = W.drewN m := by
  have e : shN v.data.toList w.data.toList u.data.toList = 0 := shN_len _ _ _ hl
  rw [e]
  have h0 : ¬ ((v.size : Int) + (w.size : Int) = (u.size : Int)) := by omega
  clear hl e
  go_enter Tryz.func36, Tryz.ntmps36
  go_wp2
  go_ret
  exact ⟨rfl, drew_0 _⟩
set_option maxRecDepth 100000 in
theorem num_0 : NumAt 0 := by
  intro v w u hu hn hv hw W
  by_cases hl : v.size + w.size = u.size
  · have hv0 : v.size = 0 := by omega
    have hw0 : w.size = 0 := by omega
    have e : shN v.data.toList w.data.toList u.data.toList = 1 := by rw [nil_of hv0, nil_of hw0, nil_of hu]; rfl
    rw [e]
    clear hl e hn hv hw
    go_enter Tryz.func36, Tryz.ntmps36
    go_wp2
    go_ret
    exact ⟨rfl, drew_0 _⟩
  · exact num_ne 0 v w u hu hn hv hw hl W

set_option maxRecDepth 100000 in
set_option maxHeartbeats 1000000 in
theorem num_zy (n : Nat) (ih : NumAt n) (v w u : ByteArray) (hu : u.size = n + 1) (hn : n + 1 ≤ 8) (hv : v.size ≤ 8) (hw : w.size ≤ 8) (hl : v.size + w.size = u.size) (hu0 : 0 < u.size) (hv0 : v.size = 0) (hw0 : 0 < w.size) (hqw : w[0] = u[0]) (W : World) : Calls Tryz.prog 36 #[.string v, .string w, .string u] W fun e w' => e = .returned (.int .i64 (shN v.data.toList w.data.toList u.data.toList : Nat)) ∧ ∃ m, w' = W.drewN m := by
  have hbu : (behind u).size = n := by rw [behind_size hu0]; omega
  have hbw : (behind w).size ≤ 8 := by rw [behind_size hw0]; omega
  obtain ⟨nw, hnw⟩ : ∃ m, shN v.data.toList (behind w).data.toList (behind u).data.toList = m := ⟨_, rfl⟩
  have hlw : (nw : Int) ≤ 256 := by rw [← hnw]; exact shN_b (by have : (behind u).data.toList.length = n := hbu; omega)
  have hr := shN_heads (v := v) (w := w) hu0 0 nw (by rw [nil_of hv0]; rfl) (by rw [head_of hw0, hqw, if_pos rfl]; exact hnw)
  rw [hr]
  have HIw := ih v (behind w) (behind u) hbu (by omega) (by omega) (by omega)
  rw [hnw] at HIw
  replace HIw := Lib.hid HIw
  have hiw : (w[0].toNat : Int) = (u[0].toNat : Int) := by rw [hqw]
  have hxw : w.extract 1 w.size = behind w := behind_ext w
  have hxu : u.extract 1 u.size = behind u := behind_ext u
  have hlz : (v.size : Int) + (w.size : Int) = (u.size : Int) := by omega
  have h1w : (1 : Int) ≤ (w.size : Int) := by omega
  have h1u : (1 : Int) ≤ (u.size : Int) := by omega
  clear hr ih hu hl hbu hqw hnw
  go_enter Tryz.func36, Tryz.ntmps36
  go_wp2_with fail
  go_quiet (fail)
  go_wp2_with fail
  go_quiet (fail)
  go_wp2_with fail
  go_quiet ((go_at_call 36; (try simp only [hxw, hxu]); exact (quiet_of2 (HIw.out _))))
  go_wp2_with fail
  go_ret
  refine ⟨?_, ?_⟩
  · simp
  · repeat' (first | exact drew_0 _ | refine drew_ex ?_ _)

set_option maxRecDepth 100000 in
set_option maxHeartbeats 1000000 in
theorem num_zn (n : Nat) (ih : NumAt n) (v w u : ByteArray) (hu : u.size = n + 1) (hn : n + 1 ≤ 8) (hv : v.size ≤ 8) (hw : w.size ≤ 8) (hl : v.size + w.size = u.size) (hu0 : 0 < u.size) (hv0 : v.size = 0) (hw0 : 0 < w.size) (hqw : ¬ w[0] = u[0]) (W : World) : Calls Tryz.prog 36 #[.string v, .string w, .string u] W fun e w' => e = .returned (.int .i64 (shN v.data.toList w.data.toList u.data.toList : Nat)) ∧ ∃ m, w' = W.drewN m := by
  have hbu : (behind u).size = n := by rw [behind_size hu0]; omega
  have hr := shN_heads (v := v) (w := w) hu0 0 0 (by rw [nil_of hv0]; rfl) (by rw [head_of hw0, if_neg (fun e => hqw (Option.some.inj e))])
  rw [hr]
  have hiw : ¬ (w[0].toNat : Int) = (u[0].toNat : Int) := fun e => hqw (UInt8.toNat_inj.1 (by omega))
  have hxu : u.extract 1 u.size = behind u := behind_ext u
  have hlz : (v.size : Int) + (w.size : Int) = (u.size : Int) := by omega
  have h1w : (1 : Int) ≤ (w.size : Int) := by omega
  have h1u : (1 : Int) ≤ (u.size : Int) := by omega
  clear hr ih hu hl hbu hqw
  go_enter Tryz.func36, Tryz.ntmps36
  go_wp2_with fail
  go_quiet (fail)
  go_wp2_with fail
  go_quiet (fail)
  go_wp2_with fail
  go_ret
  refine ⟨?_, ?_⟩
  · simp
  · repeat' (first | exact drew_0 _ | refine drew_ex ?_ _)

set_option maxRecDepth 100000 in
set_option maxHeartbeats 1000000 in
theorem num_yz (n : Nat) (ih : NumAt n) (v w u : ByteArray) (hu : u.size = n + 1) (hn : n + 1 ≤ 8) (hv : v.size ≤ 8) (hw : w.size ≤ 8) (hl : v.size + w.size = u.size) (hu0 : 0 < u.size) (hv0 : 0 < v.size) (hqv : v[0] = u[0]) (hw0 : w.size = 0) (W : World) : Calls Tryz.prog 36 #[.string v, .string w, .string u] W fun e w' => e = .returned (.int .i64 (shN v.data.toList w.data.toList u.data.toList : Nat)) ∧ ∃ m, w' = W.drewN m := by
  have hbu : (behind u).size = n := by rw [behind_size hu0]; omega
  have hbv : (behind v).size ≤ 8 := by rw [behind_size hv0]; omega
  obtain ⟨nv, hnv⟩ : ∃ m, shN (behind v).data.toList w.data.toList (behind u).data.toList = m := ⟨_, rfl⟩
  have hlv : (nv : Int) ≤ 256 := by rw [← hnv]; exact shN_b (by have : (behind u).data.toList.length = n := hbu; omega)
  have hr := shN_heads (v := v) (w := w) hu0 nv 0 (by rw [head_of hv0, hqv, if_pos rfl]; exact hnv) (by rw [nil_of hw0]; rfl)
  rw [hr]
  have HIv := ih (behind v) w (behind u) hbu (by omega) (by omega) (by omega)
  rw [hnv] at HIv
  replace HIv := Lib.hid HIv
  have hiv : (v[0].toNat : Int) = (u[0].toNat : Int) := by rw [hqv]
  have hxv : v.extract 1 v.size = behind v := behind_ext v
  have hxu : u.extract 1 u.size = behind u := behind_ext u
  have hlz : (v.size : Int) + (w.size : Int) = (u.size : Int) := by omega
  have h1v : (1 : Int) ≤ (v.size : Int) := by omega
  have h1u : (1 : Int) ≤ (u.size : Int) := by omega
  clear hr ih hu hl hbu hqv hnv
  go_enter Tryz.func36, Tryz.ntmps36
  go_wp2_with fail
  go_quiet (fail)
  go_wp2_with fail
  go_quiet ((go_at_call 36; (try simp only [hxv, hxu]); exact (quiet_of2 (HIv.out _))))
  go_wp2_with fail
  go_quiet (fail)
  go_wp2_with fail
  go_ret
  refine ⟨?_, ?_⟩
  · simp
  · repeat' (first | exact drew_0 _ | refine drew_ex ?_ _)

set_option maxRecDepth 100000 in
set_option maxHeartbeats 1000000 in
theorem num_yy (n : Nat) (ih : NumAt n) (v w u : ByteArray) (hu : u.size = n + 1) (hn : n + 1 ≤ 8) (hv : v.size ≤ 8) (hw : w.size ≤ 8) (hl : v.size + w.size = u.size) (hu0 : 0 < u.size) (hv0 : 0 < v.size) (hqv : v[0] = u[0]) (hw0 : 0 < w.size) (hqw : w[0] = u[0]) (W : World) : Calls Tryz.prog 36 #[.string v, .string w, .string u] W fun e w' => e = .returned (.int .i64 (shN v.data.toList w.data.toList u.data.toList : Nat)) ∧ ∃ m, w' = W.drewN m := by
  have hbu : (behind u).size = n := by rw [behind_size hu0]; omega
  have hbv : (behind v).size ≤ 8 := by rw [behind_size hv0]; omega
  obtain ⟨nv, hnv⟩ : ∃ m, shN (behind v).data.toList w.data.toList (behind u).data.toList = m := ⟨_, rfl⟩
  have hlv : (nv : Int) ≤ 256 := by rw [← hnv]; exact shN_b (by have : (behind u).data.toList.length = n := hbu; omega)
  have hbw : (behind w).size ≤ 8 := by rw [behind_size hw0]; omega
  obtain ⟨nw, hnw⟩ : ∃ m, shN v.data.toList (behind w).data.toList (behind u).data.toList = m := ⟨_, rfl⟩
  have hlw : (nw : Int) ≤ 256 := by rw [← hnw]; exact shN_b (by have : (behind u).data.toList.length = n := hbu; omega)
  have hr := shN_heads (v := v) (w := w) hu0 nv nw (by rw [head_of hv0, hqv, if_pos rfl]; exact hnv) (by rw [head_of hw0, hqw, if_pos rfl]; exact hnw)
  rw [hr]
  have HIv := ih (behind v) w (behind u) hbu (by omega) (by omega) (by omega)
  rw [hnv] at HIv
  replace HIv := Lib.hid HIv
  have hiv : (v[0].toNat : Int) = (u[0].toNat : Int) := by rw [hqv]
  have hxv : v.extract 1 v.size = behind v := behind_ext v
  have HIw := ih v (behind w) (behind u) hbu (by omega) (by omega) (by omega)
  rw [hnw] at HIw
  replace HIw := Lib.hid HIw
  have hiw : (w[0].toNat : Int) = (u[0].toNat : Int) := by rw [hqw]
  have hxw : w.extract 1 w.size = behind w := behind_ext w
  have hxu : u.extract 1 u.size = behind u := behind_ext u
  have hlz : (v.size : Int) + (w.size : Int) = (u.size : Int) := by omega
  have h1v : (1 : Int) ≤ (v.size : Int) := by omega
  have h1w : (1 : Int) ≤ (w.size : Int) := by omega
  have h1u : (1 : Int) ≤ (u.size : Int) := by omega
  clear hr ih hu hl hbu hqv hqw hnv hnw
  go_enter Tryz.func36, Tryz.ntmps36
  go_wp2_with fail
  go_quiet (fail)
  go_wp2_with fail
  go_quiet ((go_at_call 36; (try simp only [hxv, hxu]); exact (quiet_of2 (HIv.out _))))
  go_wp2_with fail
  go_quiet (fail)
  go_wp2_with fail
  go_quiet ((go_at_call 36; (try simp only [hxw, hxu]); exact (quiet_of2 (HIw.out _))))
  go_wp2_with fail
  go_ret
  refine ⟨?_, ?_⟩
  · simp
  · repeat' (first | exact drew_0 _ | refine drew_ex ?_ _)

set_option maxRecDepth 100000 in
set_option maxHeartbeats 1000000 in
theorem num_yn (n : Nat) (ih : NumAt n) (v w u : ByteArray) (hu : u.size = n + 1) (hn : n + 1 ≤ 8) (hv : v.size ≤ 8) (hw : w.size ≤ 8) (hl : v.size + w.size = u.size) (hu0 : 0 < u.size) (hv0 : 0 < v.size) (hqv : v[0] = u[0]) (hw0 : 0 < w.size) (hqw : ¬ w[0] = u[0]) (W : World) : Calls Tryz.prog 36 #[.string v, .string w, .string u] W fun e w' => e = .returned (.int .i64 (shN v.data.toList w.data.toList u.data.toList : Nat)) ∧ ∃ m, w' = W.drewN m := by
  have hbu : (behind u).size = n := by rw [behind_size hu0]; omega
  have hbv : (behind v).size ≤ 8 := by rw [behind_size hv0]; omega
  obtain ⟨nv, hnv⟩ : ∃ m, shN (behind v).data.toList w.data.toList (behind u).data.toList = m := ⟨_, rfl⟩
  have hlv : (nv : Int) ≤ 256 := by rw [← hnv]; exact shN_b (by have : (behind u).data.toList.length = n := hbu; omega)
  have hr := shN_heads (v := v) (w := w) hu0 nv 0 (by rw [head_of hv0, hqv, if_pos rfl]; exact hnv) (by rw [head_of hw0, if_neg (fun e => hqw (Option.some.inj e))])
  rw [hr]
  have HIv := ih (behind v) w (behind u) hbu (by omega) (by omega) (by omega)
  rw [hnv] at HIv
  replace HIv := Lib.hid HIv
  have hiv : (v[0].toNat : Int) = (u[0].toNat : Int) := by rw [hqv]
  have hxv : v.extract 1 v.size = behind v := behind_ext v
  have hiw : ¬ (w[0].toNat : Int) = (u[0].toNat : Int) := fun e => hqw (UInt8.toNat_inj.1 (by omega))
  have hxu : u.extract 1 u.size = behind u := behind_ext u
  have hlz : (v.size : Int) + (w.size : Int) = (u.size : Int) := by omega
  have h1v : (1 : Int) ≤ (v.size : Int) := by omega
  have h1w : (1 : Int) ≤ (w.size : Int) := by omega
  have h1u : (1 : Int) ≤ (u.size : Int) := by omega
  clear hr ih hu hl hbu hqv hqw hnv
  go_enter Tryz.func36, Tryz.ntmps36
  go_wp2_with fail
  go_quiet (fail)
  go_wp2_with fail
  go_quiet ((go_at_call 36; (try simp only [hxv, hxu]); exact (quiet_of2 (HIv.out _))))
  go_wp2_with fail
  go_quiet (fail)
  go_wp2_with fail
  go_ret
  refine ⟨?_, ?_⟩
  · simp
  · repeat' (first | exact drew_0 _ | refine drew_ex ?_ _)

set_option maxRecDepth 100000 in
set_option maxHeartbeats 1000000 in
theorem num_nz (n : Nat) (ih : NumAt n) (v w u : ByteArray) (hu : u.size = n + 1) (hn : n + 1 ≤ 8) (hv : v.size ≤ 8) (hw : w.size ≤ 8) (hl : v.size + w.size = u.size) (hu0 : 0 < u.size) (hv0 : 0 < v.size) (hqv : ¬ v[0] = u[0]) (hw0 : w.size = 0) (W : World) : Calls Tryz.prog 36 #[.string v, .string w, .string u] W fun e w' => e = .returned (.int .i64 (shN v.data.toList w.data.toList u.data.toList : Nat)) ∧ ∃ m, w' = W.drewN m := by
  have hbu : (behind u).size = n := by rw [behind_size hu0]; omega
  have hr := shN_heads (v := v) (w := w) hu0 0 0 (by rw [head_of hv0, if_neg (fun e => hqv (Option.some.inj e))]) (by rw [nil_of hw0]; rfl)
  rw [hr]
  have hiv : ¬ (v[0].toNat : Int) = (u[0].toNat : Int) := fun e => hqv (UInt8.toNat_inj.1 (by omega))
  have hxu : u.extract 1 u.size = behind u := behind_ext u
  have hlz : (v.size : Int) + (w.size : Int) = (u.size : Int) := by omega
  have h1v : (1 : Int) ≤ (v.size : Int) := by omega
  have h1u : (1 : Int) ≤ (u.size : Int) := by omega
  clear hr ih hu hl hbu hqv
  go_enter Tryz.func36, Tryz.ntmps36
  go_wp2_with fail
  go_quiet (fail)
  go_wp2_with fail
  go_quiet (fail)
  go_wp2_with fail
  go_ret
  refine ⟨?_, ?_⟩
  · simp
  · repeat' (first | exact drew_0 _ | refine drew_ex ?_ _)

set_option maxRecDepth 100000 in
set_option maxHeartbeats 1000000 in
theorem num_ny (n : Nat) (ih : NumAt n) (v w u : ByteArray) (hu : u.size = n + 1) (hn : n + 1 ≤ 8) (hv : v.size ≤ 8) (hw : w.size ≤ 8) (hl : v.size + w.size = u.size) (hu0 : 0 < u.size) (hv0 : 0 < v.size) (hqv : ¬ v[0] = u[0]) (hw0 : 0 < w.size) (hqw : w[0] = u[0]) (W : World) : Calls Tryz.prog 36 #[.string v, .string w, .string u] W fun e w' => e = .returned (.int .i64 (shN v.data.toList w.data.toList u.data.toList : Nat)) ∧ ∃ m, w' = W.drewN m := by
  have hbu : (behind u).size = n := by rw [behind_size hu0]; omega
  have hbw : (behind w).size ≤ 8 := by rw [behind_size hw0]; omega
  obtain ⟨nw, hnw⟩ : ∃ m, shN v.data.toList (behind w).data.toList (behind u).data.toList = m := ⟨_, rfl⟩
  have hlw : (nw : Int) ≤ 256 := by rw [← hnw]; exact shN_b (by have : (behind u).data.toList.length = n := hbu; omega)
  have hr := shN_heads (v := v) (w := w) hu0 0 nw (by rw [head_of hv0, if_neg (fun e => hqv (Option.some.inj e))]) (by rw [head_of hw0, hqw, if_pos rfl]; exact hnw)
  rw [hr]
  have hiv : ¬ (v[0].toNat : Int) = (u[0].toNat : Int) := fun e => hqv (UInt8.toNat_inj.1 (by omega))
  have HIw := ih v (behind w) (behind u) hbu (by omega) (by omega) (by omega)
  rw [hnw] at HIw
  replace HIw := Lib.hid HIw
  have hiw : (w[0].toNat : Int) = (u[0].toNat : Int) := by rw [hqw]
  have hxw : w.extract 1 w.size = behind w := behind_ext w
  have hxu : u.extract 1 u.size = behind u := behind_ext u
  have hlz : (v.size : Int) + (w.size : Int) = (u.size : Int) := by omega
  have h1v : (1 : Int) ≤ (v.size : Int) := by omega
  have h1w : (1 : Int) ≤ (w.size : Int) := by omega
  have h1u : (1 : Int) ≤ (u.size : Int) := by omega
  clear hr ih hu hl hbu hqv hqw hnw
  go_enter Tryz.func36, Tryz.ntmps36
  go_wp2_with fail
  go_quiet (fail)
  go_wp2_with fail
  go_quiet (fail)
  go_wp2_with fail
  go_quiet ((go_at_call 36; (try simp only [hxw, hxu]); exact (quiet_of2 (HIw.out _))))
  go_wp2_with fail
  go_ret
  refine ⟨?_, ?_⟩
  · simp
  · repeat' (first | exact drew_0 _ | refine drew_ex ?_ _)

set_option maxRecDepth 100000 in
set_option maxHeartbeats 1000000 in
theorem num_nn (n : Nat) (ih : NumAt n) (v w u : ByteArray) (hu : u.size = n + 1) (hn : n + 1 ≤ 8) (hv : v.size ≤ 8) (hw : w.size ≤ 8) (hl : v.size + w.size = u.size) (hu0 : 0 < u.size) (hv0 : 0 < v.size) (hqv : ¬ v[0] = u[0]) (hw0 : 0 < w.size) (hqw : ¬ w[0] = u[0]) (W : World) : Calls Tryz.prog 36 #[.string v, .string w, .string u] W fun e w' => e = .returned (.int .i64 (shN v.data.toList w.data.toList u.data.toList : Nat)) ∧ ∃ m, w' = W.drewN m := by
  have hbu : (behind u).size = n := by rw [behind_size hu0]; omega
  have hr := shN_heads (v := v) (w := w) hu0 0 0 (by rw [head_of hv0, if_neg (fun e => hqv (Option.some.inj e))]) (by rw [head_of hw0, if_neg (fun e => hqw (Option.some.inj e))])
  rw [hr]
  have hiv : ¬ (v[0].toNat : Int) = (u[0].toNat : Int) := fun e => hqv (UInt8.toNat_inj.1 (by omega))
  have hiw : ¬ (w[0].toNat : Int) = (u[0].toNat : Int) := fun e => hqw (UInt8.toNat_inj.1 (by omega))
  have hxu : u.extract 1 u.size = behind u := behind_ext u
  have hlz : (v.size : Int) + (w.size : Int) = (u.size : Int) := by omega
  have h1v : (1 : Int) ≤ (v.size : Int) := by omega
  have h1w : (1 : Int) ≤ (w.size : Int) := by omega
  have h1u : (1 : Int) ≤ (u.size : Int) := by omega
  clear hr ih hu hl hbu hqv hqw
  go_enter Tryz.func36, Tryz.ntmps36
  go_wp2_with fail
  go_quiet (fail)
  go_wp2_with fail
  go_quiet (fail)
  go_wp2_with fail
  go_ret
  refine ⟨?_, ?_⟩
  · simp
  · repeat' (first | exact drew_0 _ | refine drew_ex ?_ _)

theorem num_all : ∀ n, NumAt n
  | 0 => num_0
  | n + 1 => by
    have ih := num_all n
    intro v w u hu hn hv hw W
    by_cases hl : v.size + w.size = u.size
    · have hu0 : 0 < u.size := by omega
      by_cases hv0 : v.size = 0
      · have hw0 : 0 < w.size := by omega
        by_cases hqw : w[0] = u[0]
        · exact num_zy n ih v w u hu hn hv hw hl hu0 hv0 hw0 hqw W
        · exact num_zn n ih v w u hu hn hv hw hl hu0 hv0 hw0 hqw W
      · have hv0 : 0 < v.size := by omega
        by_cases hqv : v[0] = u[0]
        · by_cases hw0 : w.size = 0
          · exact num_yz n ih v w u hu hn hv hw hl hu0 hv0 hqv hw0 W
          · have hw0 : 0 < w.size := by omega
            by_cases hqw : w[0] = u[0]
            · exact num_yy n ih v w u hu hn hv hw hl hu0 hv0 hqv hw0 hqw W
            · exact num_yn n ih v w u hu hn hv hw hl hu0 hv0 hqv hw0 hqw W
        · by_cases hw0 : w.size = 0
          · exact num_nz n ih v w u hu hn hv hw hl hu0 hv0 hqv hw0 W
          · have hw0 : 0 < w.size := by omega
            by_cases hqw : w[0] = u[0]
            · exact num_ny n ih v w u hu hn hv hw hl hu0 hv0 hqv hw0 hqw W
            · exact num_nn n ih v w u hu hn hv hw hl hu0 hv0 hqv hw0 hqw W
    · exact num_ne (n + 1) v w u hu hn hv hw hl W
end Go.Proofs.YtdgkkcjjfpenpaaGreatDoor

namespace Go.Proofs.YtdgkkcjjfpenpaaGreatDoor
open Go.RowKit
set_option linter.unusedVariables false

/-- the code of ShuffleNumber -/
def shC (d : Int) (v w u : ByteArray) : Int := if inB d 1 3 && wordB d v.data.toList && wordB d w.data.toList && wordB d u.data.toList && decide (v.size ≤ 8) && decide (w.size ≤ 8) && decide (u.size ≤ 8) then 0 else 2
/-- its number -/
def shV (d : Int) (v w u : ByteArray) : Int := if shC d v w u = 0 then (shN v.data.toList w.data.toList u.data.toList : Nat) else 0
theorem shC_good {d : Int} {v w u : ByteArray} (h : shC d v w u = 0) : inB d 1 3 = true ∧ wordB d v.data.toList = true ∧ wordB d w.data.toList = true ∧ wordB d u.data.toList = true ∧ v.size ≤ 8 ∧ w.size ≤ 8 ∧ u.size ≤ 8 := by
  unfold shC at h
  split at h
  · rename_i h1
    simp only [Bool.and_eq_true, decide_eq_true_eq] at h1
    obtain ⟨⟨⟨⟨⟨⟨a, b⟩, c⟩, d⟩, e⟩, f⟩, g⟩ := h1
    exact ⟨a, b, c, d, e, f, g⟩
  · cases h
theorem shC_bad {d : Int} {v w u : ByteArray} (h : ¬ shC d v w u = 0) : shC d v w u = 2 := by
  unfold shC at h ⊢
  split
  · rename_i h1; rw [if_pos h1] at h; exact absurd rfl h
  · rfl
theorem below_drewN {W : World} (m : Nat) : Below W.heap.size W (W.drewN m) := have h := Below.refl W.heap.size W; ⟨h.os, h.tape, h.output, h.size, h.block⟩

end Go.Proofs.YtdgkkcjjfpenpaaGreatDoor
