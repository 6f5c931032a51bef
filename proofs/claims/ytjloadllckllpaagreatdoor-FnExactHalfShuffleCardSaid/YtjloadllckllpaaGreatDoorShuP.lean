/-
  ShuffleNumber's contract, of the program.
-/
import Derived.Test.YtjloadllckllpaaGreatDoorShuA
namespace Go.Proofs.YtjloadllckllpaaGreatDoor
open Go.RowKit
open Go.WideAt Go.WideMaps Go.ChangeMaps Go.Maps
set_option linter.unusedVariables false

/-- a word without its first a letters -/
def dropB (a : Nat) (s : ByteArray) : ByteArray := ⟨(s.data.toList.drop a).toArray⟩
theorem dropB_size (a : Nat) (s : ByteArray) : (dropB a s).size = s.size - a := by
  unfold dropB
  show (s.data.toList.drop a).toArray.size = _
  simp only [List.size_toArray, List.length_drop]
  rfl
theorem dropB_0 (s : ByteArray) : dropB 0 s = s := rfl
theorem behind_drop (a : Nat) (s : ByteArray) : behind (dropB a s) = dropB (a + 1) s := by
  unfold behind dropB
  simp only [List.tail_drop]
theorem dropB_all (s : ByteArray) : dropB s.size s = ByteArray.empty := by
  unfold dropB
  have : s.data.toList.drop s.size = [] := List.drop_eq_nil_of_le (Nat.le_refl _)
  rw [this]; rfl
def suf (s : ByteArray) : List ByteArray := (List.range (s.size + 1)).map fun a => dropB a s
theorem suf_nodup (s : ByteArray) : (suf s).Nodup := by
  unfold suf List.Nodup
  rw [List.pairwise_map]
  refine List.Pairwise.imp_of_mem (R := (· < ·)) (fun {a b} ha hb h e => ?_) List.pairwise_lt_range
  have h1 := congrArg ByteArray.size e
  rw [dropB_size, dropB_size] at h1
  have := List.mem_range.1 hb
  omega
theorem suf_mem {s t : ByteArray} : t ∈ suf s ↔ ∃ a, a ≤ s.size ∧ t = dropB a s := by
  unfold suf
  rw [List.mem_map]
  constructor
  · rintro ⟨a, ha, rfl⟩
    exact ⟨a, by have := List.mem_range.1 ha; omega, rfl⟩
  · rintro ⟨a, ha, rfl⟩
    exact ⟨a, List.mem_range.2 (by omega), rfl⟩
/-- the pairs that a shuffle of two words comes by -/
def grid (v w : ByteArray) : List Pw := (suf v).flatMap fun p => (suf w).map fun q => (p, q)
theorem grid_mem {v w : ByteArray} {p : Pw} : p ∈ grid v w ↔ p.1 ∈ suf v ∧ p.2 ∈ suf w := by
  unfold grid
  rw [List.mem_flatMap]
  constructor
  · rintro ⟨a, ha, h⟩
    obtain ⟨q, hq, rfl⟩ := List.mem_map.1 h
    exact ⟨ha, hq⟩
  · rintro ⟨h1, h2⟩
    exact ⟨p.1, h1, List.mem_map.2 ⟨p.2, h2, rfl⟩⟩
theorem grid_nodup (v w : ByteArray) : (grid v w).Nodup := by
  unfold grid List.Nodup
  rw [List.pairwise_flatMap]
  refine ⟨fun a _ => ?_, List.Pairwise.imp (fun {a b} h => ?_) (suf_nodup v)⟩
  · rw [List.pairwise_map]
    exact List.Pairwise.imp (fun {p q} h e => h (congrArg Prod.snd e)) (suf_nodup w)
  · intro x hx y hy e
    obtain ⟨p, _, rfl⟩ := List.mem_map.1 hx
    obtain ⟨q, _, rfl⟩ := List.mem_map.1 hy
    exact h (congrArg Prod.fst e)
theorem grid_small {v w : ByteArray} (hv : v.size ≤ 8) (hw : w.size ≤ 8) : ∀ p ∈ grid v w, SmP p := fun p hp => by
  obtain ⟨h1, h2⟩ := grid_mem.1 hp
  obtain ⟨a, _, h1⟩ := suf_mem.1 h1
  obtain ⟨b, _, h2⟩ := suf_mem.1 h2
  refine ⟨?_, ?_⟩
  · rw [h1, dropB_size]; unfold maxLen; omega
  · rw [h2, dropB_size]; unfold maxLen; omega
theorem suf_behind {s t : ByteArray} {c : UInt8} (h : t ∈ suf s) (hc : t.data.toList.head? = some c) : behind t ∈ suf s := by
  obtain ⟨a, ha, rfl⟩ := suf_mem.1 h
  refine suf_mem.2 ⟨a + 1, ?_, behind_drop a s⟩
  rcases Nat.lt_or_ge a s.size with h | h
  · omega
  · have : (dropB a s).data.toList = [] := nil_of (by rw [dropB_size]; omega)
    rw [this] at hc
    cases hc
theorem grid_cut {v w : ByteArray} {c : UInt8} : ∀ p ∈ grid v w, ∀ i, i < 2 → hasI c i p → cutI i p ∈ grid v w := fun p hp i _ h => by
  obtain ⟨h1, h2⟩ := grid_mem.1 hp
  unfold hasI at h
  unfold cutI
  split
  · rename_i e
    rw [if_pos e] at h
    exact grid_mem.2 ⟨suf_behind h1 h, h2⟩
  · rename_i e
    rw [if_neg e] at h
    exact grid_mem.2 ⟨h1, suf_behind h2 h⟩
theorem sm_phi_nil {f : Pw → Option Int} : ∀ {ks : List Pw}, ks.Nodup → (ByteArray.empty, ByteArray.empty) ∈ ks → sm ks f (phi []) = nv (f (ByteArray.empty, ByteArray.empty))
  | [], _, h => by cases h
  | k :: ks, hn, h => by
    obtain ⟨hk, hn⟩ := List.nodup_cons.1 hn
    by_cases e : k = (ByteArray.empty, ByteArray.empty)
    · subst e
      have h0 : sm ks f (phi []) = 0 := by
        have : ∀ {l : List Pw}, (ByteArray.empty, ByteArray.empty) ∉ l → sm l f (phi []) = 0 := by
          intro l
          induction l with
          | nil => intro _; rfl
          | cons z l ih =>
            intro hz
            have h1 := ih (fun h => hz (List.mem_cons_of_mem _ h))
            have h2 : phi [] z = 0 := by rw [phi_nil, if_neg (fun e : z = (ByteArray.empty, ByteArray.empty) => hz (by rw [← e]; exact List.mem_cons_self ..))]
            unfold sm at h1 ⊢
            simp only [List.map_cons, List.sum_cons, h1, h2]
            simp
        exact this hk
      unfold sm at h0 ⊢
      simp only [List.map_cons, List.sum_cons]
      rw [h0, phi_nil, if_pos rfl]
      simp
    · have hm : (ByteArray.empty, ByteArray.empty) ∈ ks := by
        rcases List.mem_cons.1 h with h | h
        · exact absurd h.symm e
        · exact h
      have ih := sm_phi_nil (f := f) hn hm
      have h2 : phi [] k = 0 := by rw [phi_nil, if_neg e]
      unfold sm at ih ⊢
      simp only [List.map_cons, List.sum_cons, ih, h2]
      simp
/-- the beginning -/
def way0 (v w : ByteArray) : Pw → Option Int := putP (fun _ => none) (v, w) 1
theorem grid_0 (v w : ByteArray) : (v, w) ∈ grid v w := grid_mem.2 ⟨suf_mem.2 ⟨0, by omega, rfl⟩, suf_mem.2 ⟨0, by omega, rfl⟩⟩
theorem grid_e (v w : ByteArray) : (ByteArray.empty, ByteArray.empty) ∈ grid v w := grid_mem.2 ⟨suf_mem.2 ⟨v.size, Nat.le_refl _, (dropB_all v).symm⟩, suf_mem.2 ⟨w.size, Nat.le_refl _, (dropB_all w).symm⟩⟩
theorem way0_ok (v w : ByteArray) (hv : v.size ≤ 8) (hw : w.size ≤ 8) : WaysOk (grid v w) (way0 v w) 1 := by
  have h0 : WaysOk (grid v w) (fun _ => none) 0 := ⟨fun p _ h => absurd rfl h, fun p x _ h => (by cases h), by rw [sm_none]; omega⟩
  have h1 := h0.add (grid_small hv hw) (grid_nodup v w) (grid_0 v w) (x := 1) (by omega)
  exact h1
theorem way0_sm (v w : ByteArray) (u : List UInt8) : sm (grid v w) (way0 v w) (phi u) = phi u (v, w) := by
  unfold way0
  rw [sm_put (grid_nodup v w) (grid_0 v w), sm_none]
  simp [nv]
theorem ext_one (u : ByteArray) (k : Nat) (h : k < u.size) : (u.extract k (k + 1)).data.toList = [u[k]] ∧ u.data.toList.drop k = u[k] :: u.data.toList.drop (k + 1) := by
  have h' : k < u.data.toList.length := h
  have e : u[k] = u.data.toList[k] := by rw [Array.getElem_toList]; rfl
  have e2 : u.data.toList.drop k = u.data.toList[k] :: u.data.toList.drop (k + 1) := List.drop_eq_getElem_cons h'
  refine ⟨?_, by rw [e]; exact e2⟩
  simp only [ByteArray.data_extract, Array.toList_extract, List.extract_eq_take_drop]
  rw [e2, e]
  simp
section
variable {ops : Array Oper} {rest : List Oper} {o : Oper} {a : Act} {w : World} {Q : Exit → Act → World → Prop} {b n : Nat} {f : Pw → Option Int}
theorem wpList_insP (hg : o.guard = none) (m x v : Operand) (hop : o.op = Op.insert 87 m x v) (hm : a.eval m = .map (some b)) (h : MapP w b n f) (hn : n < maxLen) (s : Pw) (hx : a.eval x = pwV s) (hs : SmP s) (y : Int) (hv : a.eval v = .int .i64 y)
    (hK : ∀ w', MapP w' b (n + 1) (putP f s y) → w.grownBy w' (some b) → wpList Tryz.prog ops Q rest (a.put o.dst undef) w') : wpList Tryz.prog ops Q (o :: rest) a w := by
  obtain ⟨w', hrun, r1, r2⟩ := h.run_put hn s hs y
  refine wpList_plain hg fun K' hK' => ?_
  unfold Oper.wp
  simp [execOp, hop, hm, hx, hv, hrun, Result.andThen]
  exact hK' _ _ (hK w' r1 r2)
end
/-- a word that is fit -/
def fitW (d : Int) (s : ByteArray) : Bool := decide ((s.size : Int) ≤ 8) && wordB d s.data.toList
theorem isWord_f (d : Int) (s : ByteArray) (hs : s.size ≤ maxLen) (w : World) :
    Calls Tryz.prog 64 #[.int .i64 d, .int .i64 8, .string s] w fun e w' => e = .returned (.bool (fitW d s)) ∧ w = w' := isWord_c d 8 s hs w
def nth (v w u : ByteArray) (i : Nat) : ByteArray := if i = 0 then v else if i = 1 then w else u
theorem shC_fit {d : Int} {v w u : ByteArray} (hi : inB d 1 3 = true) (h : ∀ j, j < 3 → fitW d (nth v w u j) = true) : shC d v w u = 0 := by
  have h0 := h 0 (by omega)
  have h1 := h 1 (by omega)
  have h2 := h 2 (by omega)
  unfold fitW nth at h0 h1 h2
  simp only [Bool.and_eq_true, decide_eq_true_eq, if_true, if_false, Nat.succ_ne_zero] at h0 h1 h2
  unfold shC
  rw [if_pos]
  simp only [Bool.and_eq_true, decide_eq_true_eq]
  refine ⟨⟨⟨⟨⟨⟨hi, h0.2⟩, h1.2⟩, h2.2⟩, ?_⟩, ?_⟩, ?_⟩
  · have := h0.1; omega
  · have := h1.1; omega
  · have := h2.1; simp at this; omega
theorem shC_unfit {d : Int} {v w u : ByteArray} {j : Nat} (hj : j < 3) (h : fitW d (nth v w u j) = false) : shC d v w u = 2 := by
  refine shC_bad fun e => ?_
  obtain ⟨_, h2, h3, h4, h5, h6, h7⟩ := shC_good e
  have : fitW d (nth v w u j) = true := by
    unfold fitW nth
    simp only [Bool.and_eq_true, decide_eq_true_eq]
    split
    · exact ⟨by omega, h2⟩
    · split
      · exact ⟨by omega, h3⟩
      · exact ⟨by omega, h4⟩
  rw [h] at this
  cases this
end Go.Proofs.YtjloadllckllpaaGreatDoor
