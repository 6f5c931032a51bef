/-
  ShuffleNumber's contract, of the program.
-/
import Derived.Test.YtgcjpenlcokgjaaShuA
namespace Go.Proofs.Ytgcjpenlcokgjaa
open Go.RowKit
open Go.WideAt Go.WideMaps Go.ChangeMaps Go.Maps
set_option linter.unusedVariables false

/-- a word without its first a letters -/
def dropB (a : Nat) (s : ByteArray) : ByteArray := ⟨(s.data.toList.drop a).toArray⟩
theorem dropB_size (a : Nat) (s : ByteArray) : (dropB a s).size = s.size - a := by
  unfold dropB
  show (s.data.toList.drop a).toArray.size = _
  simp only [List.size_toArray, List.length_drop]
  rfl
theorem dropB_0 (s : ByteArray) : dropB 0 s = s := rfl
theorem behind_drop (a : Nat) (s : ByteArray) : behind (dropB a s) = dropB (a + 1) s := by
  unfold behind dropB
  simp only [List.tail_drop]
theorem dropB_all (s : ByteArray) : dropB s.size s = ByteArray.empty := by
  unfold dropB
  have : s.data.toList.drop s.size = [] := List.drop_eq_nil_of_le (Nat.le_refl _)
  rw [this]; rfl
def suf (s : ByteArray) : List ByteArray := (List.range (s.size + 1)).map fun a => dropB a s
theorem suf_nodup (s : ByteArray) : (suf s).Nodup := by
  unfold suf List.Nodup
  rw [List.pairwise_map]
  refine List.Pairwise.imp_of_mem (R := (· < ·)) (fun {a b} ha hb h e => ?_) List.pairwise_lt_range
  have h1 := congrArg ByteArray.size e
  rw [dropB_size, dropB_size] at h1
  have := List.mem_range.1 hb
  omega
theorem suf_mem {s t : ByteArray} : t ∈ suf s ↔ ∃ a, a ≤ s.size ∧ t = dropB a s := by
  unfold suf
  rw [List.mem_map]
  constructor
  · rintro ⟨a, ha, rfl⟩
    exact ⟨a, by have := List.mem_range.1 ha; omega, rfl⟩
  · rintro ⟨a, ha, rfl⟩
    exact ⟨a, List.mem_range.2 (by omega), rfl⟩
/-- the pairs that a shuffle of two words comes by -/
def grid (v w : ByteArray) : List Pw := (suf v).flatMap fun p => (suf w).map fun q => (p, q)
theorem grid_mem {v w : ByteArray} {p : Pw} : p ∈ grid v w ↔ p.1 ∈ suf v ∧ p.2 ∈ suf w := by
  unfold grid
  rw [List.mem_flatMap]
  constructor
  · rintro ⟨a, ha, h⟩
    obtain ⟨q, hq, rfl⟩ := List.mem_map.1 h
    exact ⟨ha, hq⟩
  · rintro ⟨h1, h2⟩
    exact ⟨p.1, h1, List.mem_map.2 ⟨p.2, h2, rfl⟩⟩
theorem grid_nodup (v w : ByteArray) : (grid v w).Nodup := by
  unfold grid List.Nodup
  rw [List.pairwise_flatMap]
  refine ⟨fun a _ => ?_, List.Pairwise.imp (fun {a b} h => ?_) (suf_nodup v)⟩
  · rw [List.pairwise_map]
    exact List.Pairwise.imp (fun {p q} h e => h (congrArg Prod.snd e)) (suf_nodup w)
  · intro x hx y hy e
    obtain ⟨p, _, rfl⟩ := List.mem_map.1 hx
    obtain ⟨q, _, rfl⟩ := List.mem_map.1 hy
    exact h (congrArg Prod.fst e)
theorem grid_small {v w : ByteArray} (hv : v.size ≤ 8) (hw : w.size ≤ 8) : ∀ p ∈ grid v w, SmP p := fun p hp => by
  obtain ⟨h1, h2⟩ := grid_mem.1 hp
  obtain ⟨a, _, h1⟩ := suf_mem.1 h1
  obtain ⟨b, _, h2⟩ := suf_mem.1 h2
  refine ⟨?_, ?_⟩
  · rw [h1, dropB_size]; unfold maxLen; omega
  · rw [h2, dropB_size]; unfold maxLen; omega
theorem suf_behind {s t : ByteArray} {c : UInt8} (h : t ∈ suf s) (hc : t.data.toList.head? = some c) : behind t ∈ suf s := by
  obtain ⟨a, ha, rfl⟩ := suf_mem.1 h
  refine suf_mem.2 ⟨a + 1, ?_, behind_drop a s⟩
  rcases Nat.lt_or_ge a s.size with h | h
  · omega
  · have : (dropB a s).data.toList = [] := nil_of (by rw [dropB_size]; omega)
    rw [this] at hc
    cases hc
theorem grid_cut {v w : ByteArray} {c : UInt8} : ∀ p ∈ grid v w, ∀ i, i < 2 → hasI c i p → cutI i p ∈ grid v w := fun p hp i _ h => by
  obtain ⟨h1, h2⟩ := grid_mem.1 hp
  unfold hasI at h
  unfold cutI
  split
  · rename_i e
    rw [if_pos e] at h
    exact grid_mem.2 ⟨suf_behind h1 h, h2⟩
  · rename_i e
    rw [if_neg e] at h
    exact grid_mem.2 ⟨h1, suf_behind h2 h⟩
theorem sm_phi_nil {f : Pw → Option Int} : ∀ {ks : List Pw}, ks.Nodup → (ByteArray.empty, ByteArray.empty) ∈ ks → sm ks f (phi []) = nv (f (ByteArray.empty, ByteArray.empty))
  | [], _, h => by cases h
  | k :: ks, hn, h => by
    obtain ⟨hk, hn⟩ := List.nodup_cons.1 hn
    by_cases e : k = (ByteArray.empty, ByteArray.empty)
    · subst e
      have h0 : sm ks f (phi []) = 0 := by
        have : ∀ {l : List Pw}, (ByteArray.empty, ByteArray.empty) ∉ l → sm l f (phi []) = 0 := by
          intro l
          induction l with
          | nil => intro _; rfl
          | cons z l ih =>
            intro hz
            have h1 := ih (fun h => hz (List.mem_cons_of_mem _ h))
            have h2 : phi [] z = 0 := by rw [phi_nil, if_neg (fun e : z = (ByteArray.empty, ByteArray.empty) => hz (by rw [← e]; exact List.mem_cons_self ..))]
            unfold sm at h1 ⊢
            simp only [List.map_cons, List.sum_cons, h1, h2]
            simp
        exact this hk
      unfold sm at h0 ⊢
      simp only [List.map_cons, List.sum_cons]
      rw [h0, phi_nil, if_pos rfl]
      simp
    · have hm : (ByteArray.empty, ByteArray.empty) ∈ ks := by
        rcases List.mem_cons.1 h with h | h
        · exact absurd h.symm e
        · exact h
      have ih := sm_phi_nil (f := f) hn hm
      have h2 : phi [] k = 0 := by rw [phi_nil, if_neg e]
      unfold sm at ih ⊢
      simp only [List.map_cons, List.sum_cons, ih, h2]
      simp
/-- the beginning -/
def way0 (v w : ByteArray) : Pw → Option Int := putP (fun _ => none) (v, w) 1
theorem grid_0 (v w : ByteArray) : (v, w) ∈ grid v w := grid_mem.2 ⟨suf_mem.2 ⟨0, by omega, rfl⟩, suf_mem.2 ⟨0, by omega, rfl⟩⟩
theorem grid_e (v w : ByteArray) : (ByteArray.empty, ByteArray.empty) ∈ grid v w := grid_mem.2 ⟨suf_mem.2 ⟨v.size, Nat.le_refl _, (dropB_all v).symm⟩, suf_mem.2 ⟨w.size, Nat.le_refl _, (dropB_all w).symm⟩⟩
theorem way0_ok (v w : ByteArray) (hv : v.size ≤ 8) (hw : w.size ≤ 8) : WaysOk (grid v w) (way0 v w) 1 := by
  have h0 : WaysOk (grid v w) (fun _ => none) 0 := ⟨fun p _ h => absurd rfl h, fun p x _ h => (by cases h), by rw [sm_none]; omega⟩
  have h1 := h0.add (grid_small hv hw) (grid_nodup v w) (grid_0 v w) (x := 1) (by omega)
  exact h1
theorem way0_sm (v w : ByteArray) (u : List UInt8) : sm (grid v w) (way0 v w) (phi u) = phi u (v, w) := by
  unfold way0
  rw [sm_put (grid_nodup v w) (grid_0 v w), sm_none]
  simp [nv]
theorem ext_one (u : ByteArray) (k : Nat) (h : k < u.size) : (u.extract k (k + 1)).data.toList = [u[k]] ∧ u.data.toList.drop k = u[k] :: u.data.toList.drop (k + 1) := by
  have h' : k < u.data.toList.length := h
  have e : u[k] = u.data.toList[k] := by rw [Array.getElem_toList]; rfl
  have e2 : u.data.toList.drop k = u.data.toList[k] :: u.data.toList.drop (k + 1) := List.drop_eq_getElem_cons h'
  refine ⟨?_, by rw [e]; exact e2⟩
  simp only [ByteArray.data_extract, Array.toList_extract, List.extract_eq_take_drop]
  rw [e2, e]
  simp
section
variable {ops : Array Oper} {rest : List Oper} {o : Oper} {a : Act} {w : World} {Q : Exit → Act → World → Prop} {b n : Nat} {f : Pw → Option Int}
theorem wpList_insP (hg : o.guard = none) (m x v : Operand) (hop : o.op = Op.insert 56 m x v) (hm : a.eval m = .map (some b)) (h : MapP w b n f) (hn : n < maxLen) (s : Pw) (hx : a.eval x = pwV s) (hs : SmP s) (y : Int) (hv : a.eval v = .int .i64 y)
    (hK : ∀ w', MapP w' b (n + 1) (putP f s y) → w.grownBy w' (some b) → wpList Try.prog ops Q rest (a.put o.dst undef) w') : wpList Try.prog ops Q (o :: rest) a w := by
  obtain ⟨w', hrun, r1, r2⟩ := h.run_put hn s hs y
  refine wpList_plain hg fun K' hK' => ?_
  unfold Oper.wp
  simp [execOp, hop, hm, hx, hv, hrun, Result.andThen]
  exact hK' _ _ (hK w' r1 r2)
end
theorem tr_at0 (x0 x1 x2 : Value) : ∀ w : World, (Instr.index 52 (.agg #[x0, x1, x2]) (.int .i64 0)).run Try.prog w = .ok x0 w := fun _ => by kernel_rfl
theorem tr_at1 (x0 x1 x2 : Value) : ∀ w : World, (Instr.index 52 (.agg #[x0, x1, x2]) (.int .i64 1)).run Try.prog w = .ok x1 w := fun _ => by kernel_rfl
theorem tr_at2 (x0 x1 x2 : Value) : ∀ w : World, (Instr.index 52 (.agg #[x0, x1, x2]) (.int .i64 2)).run Try.prog w = .ok x2 w := fun _ => by kernel_rfl
set_option maxRecDepth 100000 in
theorem iShn_bad (d : Int) (v w u : ByteArray) (hi : inB d 1 3 = false) (W : World) :
    Calls Try.prog 20 #[.int .i64 d, .string v, .string w, .string u] W fun e w' => e = .returned (.tuple #[.int .i64 0, .int .i64 2]) ∧ Below W.heap.size W w' := by
  have HI := Lib.hid hi
  clear hi
  go_enter Try.func20, Try.ntmps20
  go_wp2_with (go_at_call 38; refine (isBetween_c _ _ _ _).mono ?_; rw [HI.out]; rintro e w' ⟨rfl, rfl⟩)
  go_ret2
  exact ⟨rfl, Below.refl _ _⟩
/-- a word that is fit -/
def fitW (d : Int) (s : ByteArray) : Bool := decide ((s.size : Int) ≤ 8) && wordB d s.data.toList
theorem isWord_f (d : Int) (s : ByteArray) (hs : s.size ≤ maxLen) (w : World) :
    Calls Try.prog 39 #[.int .i64 d, .int .i64 8, .string s] w fun e w' => e = .returned (.bool (fitW d s)) ∧ w = w' := isWord_c d 8 s hs w
def nth (v w u : ByteArray) (i : Nat) : ByteArray := if i = 0 then v else if i = 1 then w else u
theorem shC_fit {d : Int} {v w u : ByteArray} (hi : inB d 1 3 = true) (h : ∀ j, j < 3 → fitW d (nth v w u j) = true) : shC d v w u = 0 := by
  have h0 := h 0 (by omega)
  have h1 := h 1 (by omega)
  have h2 := h 2 (by omega)
  unfold fitW nth at h0 h1 h2
  simp only [Bool.and_eq_true, decide_eq_true_eq, if_true, if_false, Nat.succ_ne_zero] at h0 h1 h2
  unfold shC
  rw [if_pos]
  simp only [Bool.and_eq_true, decide_eq_true_eq]
  refine ⟨⟨⟨⟨⟨⟨hi, h0.2⟩, h1.2⟩, h2.2⟩, ?_⟩, ?_⟩, ?_⟩
  · have := h0.1; omega
  · have := h1.1; omega
  · have := h2.1; simp at this; omega
theorem shC_unfit {d : Int} {v w u : ByteArray} {j : Nat} (hj : j < 3) (h : fitW d (nth v w u j) = false) : shC d v w u = 2 := by
  refine shC_bad fun e => ?_
  obtain ⟨_, h2, h3, h4, h5, h6, h7⟩ := shC_good e
  have : fitW d (nth v w u j) = true := by
    unfold fitW nth
    simp only [Bool.and_eq_true, decide_eq_true_eq]
    split
    · exact ⟨by omega, h2⟩
    · split
      · exact ⟨by omega, h3⟩
      · exact ⟨by omega, h4⟩
  rw [h] at this
  cases this
set_option maxRecDepth 100000 in
set_option maxHeartbeats 4000000 in
theorem iShn_c (d : Int) (v w u : ByteArray) (hv : v.size ≤ maxLen) (hw : w.size ≤ maxLen) (hu : u.size ≤ maxLen) (hi : inB d 1 3 = true) (W : World) :
    Calls Try.prog 20 #[.int .i64 d, .string v, .string w, .string u] W fun e w' => e = .returned (.tuple #[.int .i64 (shV d v w u), .int .i64 (shC d v w u)]) ∧ Below W.heap.size W w' := by
  have HI := Lib.hid hi
  have HV := Lib.hid (fun W => isWord_f d v hv W)
  have HW := Lib.hid (fun W => isWord_f d w hw W)
  have HU := Lib.hid (fun W => isWord_f d u hu W)
  have hmm := @run_makeMap Try.prog
  clear hi hv hw hu
  go_enter Try.func20, Try.ntmps20
  go_wp2_with (go_at_call 38; refine (isBetween_c _ _ _ _).mono ?_; rw [HI.out]; rintro e w' ⟨rfl, rfl⟩)
  go_loop [21] (fun x => ∃ i : Nat, i ≤ 3 ∧ x = .int .i64 i ∧ ∀ j, j < i → fitW d (nth v w u j) = true) (fun x => 3 - (intOf x).toNat)
  case atStart => exact ⟨0, by omega, rfl, fun j h => by omega⟩
  case round =>
    obtain ⟨i, hi3, rfl, hf⟩ := hrel
    have HF := Lib.hid hf
    clear hf
    by_cases h3 : i = 3
    · subst h3
      have HC := Lib.hid (shC_fit HI.out HF.out)
      clear hi3
      obtain ⟨_, hwv, hww, hwu, hv8, hw8, hu8⟩ := shC_good HC.out
      have hs0 : SmP (v, w) := ⟨show v.size ≤ maxLen by unfold maxLen; omega, show w.size ≤ maxLen by unfold maxLen; omega⟩
      have HS := Lib.hid (grid_small hv8 hw8)
      have HO := Lib.hid (way0_ok v w hv8 hw8)
      clear hwv hww hwu
      go_wp2_with (refine wpList_insP rfl _ _ _ rfl rfl (MapP.made _) (by decide) (v, w) rfl hs0 1 rfl ?_; intro w1 hM1 hg1)
      have HB1 := Lib.hid (show Below W.heap.size W w1 from (below1 W _).trans (below_of_grown hg1 (fun g h => by cases h; omega) (by simp)))
      have hM1' : MapP w1 W.heap.size (2 ^ 0) (way0 v w) := hM1
      have hV : shV d v w u = phi u.data.toList (v, w) := by unfold shV; rw [if_pos HC.out]; rfl
      have HV2 := Lib.hid hV
      clear hg1 hM1 hV
      go_loopw [36, 12] (fun vi vm wr => ∃ (k b : Nat) (f : Pw → Option Int), k ≤ u.size ∧ vi = .int .i64 k ∧ vm = .map (some b) ∧ MapP wr b (2 ^ k) f ∧ WaysOk (grid v w) f ((2 ^ k : Nat) : Int) ∧ sm (grid v w) f (phi (u.data.toList.drop k)) = phi u.data.toList (v, w) ∧ Below W.heap.size W wr)
        (fun vi _ _ => u.size - (intOf vi).toNat)
      case atStart => exact ⟨0, _, way0 v w, by omega, rfl, rfl, hM1', HO.out, way0_sm v w _, HB1.out⟩
      case round =>
        obtain ⟨k, b, f, hk, rfl, rfl, hM, hO, hs, hB⟩ := hrel
        have HM := Lib.hid hM
        have HOk := Lib.hid hO
        have HSs := Lib.hid hs
        have HB := Lib.hid hB
        have hzb := hB.size
        clear hM hO hs hB hM1' HB1
        by_cases hlt : k < u.size
        · have hl := ext_one u k hlt
          have hp : 2 ^ k ≤ 2 ^ 8 := Nat.pow_le_pow_right (by omega) (by omega)
          have HAf := Lib.hid (fun W hM => after_c (grid v w) (grid_nodup v w) HS.out u[k] (u.extract k (k + 1)) hl.1 grid_cut b (2 ^ k) f _ HOk.out (by omega) (by omega) W hM)
          have HL := Lib.hid hl.2
          clear hl hp
          go_wp2_with (go_at_call 40; refine (HAf.out _ HM.out).mono ?_; rintro e w' ⟨b2, f2, rfl, hb, hb2, hM2, hO2, hs2⟩)
          go_roundw
          case rel =>
            refine ⟨k + 1, b2, f2, by omega, by go_num, rfl, ?_, ?_, ?_, HB.out.trans (hb.mono hzb)⟩
            · rw [Nat.pow_succ, Nat.mul_comm]; exact hM2
            · rw [Nat.pow_succ, Nat.mul_comm]; simpa using hO2
            · rw [hs2, ← HL.out]; exact HSs.out
          case measure => simp [intOf]; omega
        · obtain rfl : k = u.size := by omega
          have hd : u.data.toList.drop u.size = [] := List.drop_eq_nil_of_le (Nat.le_refl _)
          have hs := HSs.out
          rw [hd, sm_phi_nil (grid_nodup v w) (grid_e v w)] at hs
          have hL0 := HM.out.run_look1 (ByteArray.empty, ByteArray.empty) ⟨by decide, by decide⟩
          rw [hs] at hL0
          have hL : (Instr.lookup 56 (.map (some b)) (.agg #[.string ⟨#[]⟩, .string ⟨#[]⟩]) false).run Try.prog wr = .ok (.int .i64 (phi u.data.toList (v, w))) wr := hL0
          clear hL0
          have HN := Lib.hid hs
          clear hs hd
          go_wp2
          go_ret2
          exact ⟨by rw [HV2.out, HC.out]; rfl, HB.out⟩
    · obtain rfl | rfl | rfl : i = 0 ∨ i = 1 ∨ i = 2 := by omega
      · have hat := tr_at0 (.string v) (.string w) (.string u)
        have h1 := HV.out
        cases hk : fitW d v with
        | true =>
          rw [hk] at h1
          have H1 := Lib.hid h1
          have HK := Lib.hid hk
          clear h1 hk
          go_wp2_with (go_at_call 39; (with_reducible refine (H1.out _).mono ?_); rintro e w' ⟨rfl, rfl⟩)
          go_round
          case rel => exact ⟨1, by omega, by go_num, fun j hj => by
            rcases Nat.lt_or_ge j 0 with h | h
            · exact HF.out j h
            · obtain rfl : j = 0 := by omega
              exact HK.out⟩
          case measure => simp [intOf]
        | false =>
          rw [hk] at h1
          have H1 := Lib.hid h1
          have HC := Lib.hid (shC_unfit (d := d) (v := v) (w := w) (u := u) (j := 0) (by omega) hk)
          clear h1 hk
          go_wp2_with (go_at_call 39; (with_reducible refine (H1.out _).mono ?_); rintro e w' ⟨rfl, rfl⟩)
          go_ret2
          refine ⟨?_, Below.refl _ _⟩
          have hV : shV d v w u = 0 := by unfold shV; rw [HC.out]; rfl
          rw [hV, HC.out]
          rfl
      · have hat := tr_at1 (.string v) (.string w) (.string u)
        have h1 := HW.out
        cases hk : fitW d w with
        | true =>
          rw [hk] at h1
          have H1 := Lib.hid h1
          have HK := Lib.hid hk
          clear h1 hk
          go_wp2_with (go_at_call 39; (with_reducible refine (H1.out _).mono ?_); rintro e w' ⟨rfl, rfl⟩)
          go_round
          case rel => exact ⟨2, by omega, by go_num, fun j hj => by
            rcases Nat.lt_or_ge j 1 with h | h
            · exact HF.out j h
            · obtain rfl : j = 1 := by omega
              exact HK.out⟩
          case measure => simp [intOf]
        | false =>
          rw [hk] at h1
          have H1 := Lib.hid h1
          have HC := Lib.hid (shC_unfit (d := d) (v := v) (w := w) (u := u) (j := 1) (by omega) hk)
          clear h1 hk
          go_wp2_with (go_at_call 39; (with_reducible refine (H1.out _).mono ?_); rintro e w' ⟨rfl, rfl⟩)
          go_ret2
          refine ⟨?_, Below.refl _ _⟩
          have hV : shV d v w u = 0 := by unfold shV; rw [HC.out]; rfl
          rw [hV, HC.out]
          rfl
      · have hat := tr_at2 (.string v) (.string w) (.string u)
        have h1 := HU.out
        cases hk : fitW d u with
        | true =>
          rw [hk] at h1
          have H1 := Lib.hid h1
          have HK := Lib.hid hk
          clear h1 hk
          go_wp2_with (go_at_call 39; (with_reducible refine (H1.out _).mono ?_); rintro e w' ⟨rfl, rfl⟩)
          go_round
          case rel => exact ⟨3, by omega, by go_num, fun j hj => by
            rcases Nat.lt_or_ge j 2 with h | h
            · exact HF.out j h
            · obtain rfl : j = 2 := by omega
              exact HK.out⟩
          case measure => simp [intOf]
        | false =>
          rw [hk] at h1
          have H1 := Lib.hid h1
          have HC := Lib.hid (shC_unfit (d := d) (v := v) (w := w) (u := u) (j := 2) (by omega) hk)
          clear h1 hk
          go_wp2_with (go_at_call 39; (with_reducible refine (H1.out _).mono ?_); rintro e w' ⟨rfl, rfl⟩)
          go_ret2
          refine ⟨?_, Below.refl _ _⟩
          have hV : shV d v w u = 0 := by unfold shV; rw [HC.out]; rfl
          rw [hV, HC.out]
          rfl
theorem iShn (d : Int) (v w u : ByteArray) (hv : v.size ≤ maxLen) (hw : w.size ≤ maxLen) (hu : u.size ≤ maxLen) (W : World) :
    Calls Try.prog 20 #[.int .i64 d, .string v, .string w, .string u] W fun e w' => e = .returned (.tuple #[.int .i64 (shV d v w u), .int .i64 (shC d v w u)]) ∧ Below W.heap.size W w' := by
  cases hi : inB d 1 3 with
  | true => exact iShn_c d v w u hv hw hu hi W
  | false =>
    have hC : shC d v w u = 2 := shC_bad fun e => by
      have := (shC_good e).1
      rw [hi] at this
      cases this
    have hV : shV d v w u = 0 := by unfold shV; rw [hC]; rfl
    rw [hC, hV]
    exact iShn_bad d v w u hi W
end Go.Proofs.Ytgcjpenlcokgjaa
