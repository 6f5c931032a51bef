/-
  The model's ShuffleWords where it gives words: its loop over them.
-/
import Derived.Test.YteljpgoaaelbfaaDoorShuX
namespace Go.Proofs.YteljpgoaaelbfaaDoor
open Go.RowKit
set_option linter.unusedVariables false

/-- the term of a word of a shuffle, and all of them -/
def shT (v w s : ByteArray) : Tm := ⟨s, ((shN v.data.toList w.data.toList s.data.toList : Nat) : Int), 1⟩
def shL (D : Nat) (v w : ByteArray) : List Tm := ((wordsL D (v.size + w.size)).filter (shP v w)).map (shT v w)
theorem shL_few {D : Nat} {v w : ByteArray} (hD : D ≤ 3) (h : v.size + w.size ≤ 5) : (shL D v w).length ≤ 1000 := by
  have := wordsL_few (d := D) (n := v.size + w.size) hD h
  unfold shL
  rw [List.length_map]
  have h2 := List.length_filter_le (shP v w) (wordsL D (v.size + w.size))
  omega
theorem take_map_next {α β : Type} (f : α → β) (l : List α) (i : Nat) (h : i < l.length) : (l.take (i + 1)).map f = (l.take i).map f ++ [f l[i]] := by
  rw [List.take_succ_eq_append_getElem h, List.map_append]
  rfl
theorem cell_of_heap {w w' : World} (h : w'.heap = w.heap) (p : Addr) : w'.cell? p = w.cell? p := by unfold World.cell?; rw [h]
theorem frozen_of_heap {w w' : World} (h : w'.heap = w.heap) (p : Addr) : w'.frozen? p = w.frozen? p := by unfold World.frozen?; rw [h]
theorem cell_heap {w w' : World} {b : Nat} (h : w'.heap[b]? = w.heap[b]?) (k : Nat) : w'.cell? ⟨b, k, none⟩ = w.cell? ⟨b, k, none⟩ := by unfold World.cell?; simp only [h]
theorem OwnT.of_heap {w w' : World} {B : Nat} {v : Value} {ts : List Tm} (h : OwnT w B v ts) (e : w'.heap = w.heap) : OwnT w' B v ts := by
  unfold OwnT World.ownsRow at h ⊢
  rw [e]; exact h
theorem Blk.of_heap {w w' : World} {g : Nat} {t : TypeId} {cs : Array Value} (h : Blk w g t cs) (e : w'.heap = w.heap) : Blk w' g t cs := by
  unfold Blk at h ⊢
  rw [e]; exact h
/-- where the loop over the words stands -/
def ShRel (F : Nat → List Tm) (m B n b : Nat) (x y : Value) (W : World) (vi : Value) (wr : World) : Prop :=
  ∃ (k : Nat) (a : Option Addr) (l c : Nat), k ≤ m ∧ vi = .int .i64 k ∧ l = (F k).length ∧ OwnT wr B (.slice a l c) (F k) ∧ (Value.slice a l c).ownBlock ≠ some n ∧ (Value.slice a l c).ownBlock ≠ some b ∧ Blk wr n 24 #[x, y, .slice a l c] ∧ Below B W wr ∧ wr.heap[b]? = W.heap[b]?
theorem ShRel.step {F : Nat → List Tm} {m B n b : Nat} {x y : Value} {W wr w2 : World} {k lv cv gg cg : Nat} {av : Option Addr} (t : Tm) (hk : k + 1 ≤ m) (hF : F (k + 1) = F k ++ [t])
    (hl : lv = (F k).length) (hO : OwnT wr B (.slice av lv cv) (F k)) (hn : (Value.slice av lv cv).ownBlock ≠ some n) (hb : (Value.slice av lv cv).ownBlock ≠ some b) (hBl : Blk wr n 24 #[x, y, .slice av lv cv]) (hB : Below B W wr) (hH : wr.heap[b]? = W.heap[b]?) (hnB : B ≤ n) (hBw : B ≤ wr.heap.size) (hnb : n ≠ b) (hbw : b < wr.heap.size)
    (hown : w2.ownsRow B 47 3 (.slice (some ⟨gg, 0, none⟩) (lv + 1) cg) (lv + 1) (cellsT (F k) ++ [.string t.s, .int .i64 t.n, .int .i64 t.d]))
    (hgrow : (wr.alloc (.cells #[.string t.s, .int .i64 t.n, .int .i64 t.d] 47)).grownBy w2 (Value.slice av lv cv).ownBlock) (hat : (Value.slice av lv cv).ownBlock = some gg ∨ gg = wr.heap.size + 1) :
    ShRel F m B n b x y W (.int .i64 ((k : Int) + 1)) (w2.setCell ⟨n, 2, none⟩ (.slice (some ⟨gg, 0, none⟩) (lv + 1) cg)) := by
  have hlt := hBl.lt
  have hne : gg ≠ n := by
    rcases hat with h | h
    · intro e; rw [h, e] at hn; exact hn rfl
    · omega
  have hneb : gg ≠ b := by
    rcases hat with h | h
    · intro e; rw [h, e] at hb; exact hb rfl
    · omega
  have hl2 : lv + 1 = (F (k + 1)).length := by rw [hF, hl]; simp
  refine ⟨k + 1, some ⟨gg, 0, none⟩, lv + 1, cg, hk, by go_num, hl2, ?_, ?_, ?_, ?_, ?_, ?_⟩
  · refine OwnT.far ?_ (fun e => hne (by simpa [Value.ownBlock] using e)) _
    unfold OwnT
    rw [← hl2, hF, cellsT_append]
    exact hown
  · intro e; exact hne (by simpa [Value.ownBlock] using e)
  · intro e; exact hneb (by simpa [Value.ownBlock] using e)
  · have h1 : Blk (wr.alloc (.cells #[.string t.s, .int .i64 t.n, .int .i64 t.d] 47)) n 24 #[x, y, .slice av lv cv] := hBl.alloc _
    exact (h1.grown hgrow (Ne.symm hn)).set_ 2 _
  · have h1 : Below B W (wr.alloc (.cells #[.string t.s, .int .i64 t.n, .int .i64 t.d] 47)) := hB.alloc hBw _
    exact (h1.trans (below_of_grown hgrow (fun g h => (hO.lt g h).1) (by simp; omega))).setCell (p := ⟨n, 2, none⟩) hnB _
  · rw [Below.heap_setCell _ _ _ b (fun e => hnb e.symm)]
    exact ((hgrow.block b (by simp; omega) (fun e => hb e.symm)).trans (Below.heap_alloc wr _ b hbw)).trans hH
/-- the number of a word, as one step of a region that draws -/
theorem step_num {ops : Array Oper} {o : Oper} {a : Act} {w : World} {K : Act → World → Prop} {Q : Exit → Act → World → Prop} {E : Prop} (hg : o.guard = none) (x y z : Operand)
    (ho : o.op = .call { callee := .value (.func 18), args := #[x, y, z], argTypes := #[9, 9, 9] }) (v u s : ByteArray) (hx : a.eval x = .string v) (hy : a.eval y = .string u) (hz : a.eval z = .string s) (r : Int)
    (hN : ∀ W : World, Calls Tryd.prog 18 #[.string v, .string u, .string s] W fun e w' => e = .returned (.int .i64 r) ∧ ∃ m, w' = W.drewN m)
    (h : ∀ w', w'.heap = w.heap → Below w.heap.size w w' → K (a.put o.dst (.int .i64 r)) w') : if Region.wanted o (yielded ops a.tmps) = true then Oper.wp Tryd.prog o a w K Q else E := by
  have hw : Region.wanted o (yielded ops a.tmps) = true := by simp [Region.wanted, hg]
  rw [if_pos hw]
  unfold Oper.wp
  have hrun : (execOp a.eval o).run Tryd.prog w = .ok (.enter 18 #[.string v, .string u, .string s]) w := by
    simpa [execOp, ho, resolve, invoke, Deferred.ofValue, go_sem] using (⟨hx, hy, hz⟩ : _ ∧ _ ∧ _)
  rw [hrun, Oper.upon_enter]
  refine (hN w).mono ?_
  rintro e w' ⟨rfl, m, rfl⟩
  exact h _ rfl (below_drewN m)
set_option maxRecDepth 100000 in
set_option maxHeartbeats 4000000 in
theorem sShw_6 (D : Nat) (n : Int) (v w : ByteArray) (hv : v.size ≤ maxLen) (hw : w.size ≤ maxLen) (hsh : shapeB (D : Int) n = true) (hwv : wordB (D : Int) v.data.toList = true) (hww : wordB (D : Int) w.data.toList = true) (hsum : (v.size : Int) + (w.size : Int) ≤ n) (W : World) :
    Calls Tryd.prog 5 #[.int .i64 D, .int .i64 n, .string v, .string w] W (SerPost D n (shL D v w) 0 W) := by
  obtain ⟨i0, hi0, hi1, hi2, hi3⟩ := info_parts info_term
  have Hsh := Lib.hid hsh
  have hn5 := shape_out hsh
  have C1 := Lib.hid (fun W => l01Word_c D v hv W)
  rw [hwv] at C1
  have C2 := Lib.hid (fun W => l01Word_c D w hw W)
  rw [hww] at C2
  have hzv : ¬ n < (v.size : Int) := by omega
  have hzw : ¬ n < (w.size : Int) := by omega
  have hzs : ¬ n < (v.size : Int) + (w.size : Int) := by omega
  have hfew := shL_few (D := D) (v := v) (w := w) (by omega) (by omega)
  have HWs := Lib.hid (l03Words_c D (by omega) v w (by omega))
  have HSz := Lib.hid (fun s (hs : s ∈ (wordsL D (v.size + w.size)).filter (shP v w)) => wordsL_size D (v.size + w.size) s (List.mem_filter.1 hs).1)
  have HNum := Lib.hid (fun (s : ByteArray) (hs : s.size ≤ 8) W => num_all s.size v w s rfl hs (by omega) (by omega) W)
  unfold shL at hfew ⊢
  rw [List.length_map] at hfew
  generalize (wordsL D (v.size + w.size)).filter (shP v w) = ws at hfew HWs HSz ⊢
  clear hv hw hsh hwv hww
  go_enter Tryd.func5, Tryd.ntmps5
  go_wp2_with (first | (go_at_call 15; refine (l01Sizes_c _ _ _).mono ?_; rw [Hsh.out]; rintro e w' ⟨rfl, rfl⟩) | (go_at_call 16; (with_reducible refine (C1.out _).mono ?_); rintro e w' ⟨rfl, rfl⟩) | (go_at_call 16; (with_reducible refine (C2.out _).mono ?_); rintro e w' ⟨rfl, rfl⟩) | fail)
  refine (HWs.out _).mono ?_
  rintro e w2 ⟨aw, cw, rfl, hb2, hN2⟩
  have hB := hb2
  simp only [World.size_alloc] at hB hN2
  obtain ⟨hc, hf⟩ := bcellB hB
  have r0 : w2.cell? ⟨W.heap.size, 0, none⟩ = some (.int .i64 0) := (hc _ _ (by omega)).trans (by go_simp)
  have r1 : w2.cell? ⟨W.heap.size, 1, none⟩ = some (.int .i64 0) := (hc _ _ (by omega)).trans (by go_simp)
  have r2 : w2.cell? ⟨W.heap.size, 2, none⟩ = some (.slice none 0 0) := (hc _ _ (by omega)).trans (by go_simp)
  have z0 : w2.frozen? ⟨W.heap.size, 0, none⟩ = false := (hf _ _ (by omega)).trans (by go_simp)
  have z1 : w2.frozen? ⟨W.heap.size, 1, none⟩ = false := (hf _ _ (by omega)).trans (by go_simp)
  have z2 : w2.frozen? ⟨W.heap.size, 2, none⟩ = false := (hf _ _ (by omega)).trans (by go_simp)
  have hbl : Blk w2 (W.heap.size + 1 + 1) 24 #[.int .i64 D, .int .i64 n, .slice (some ⟨W.heap.size + 1, 0, none⟩) 0 0] := by
    refine Blk.below ?_ hB (by omega)
    have h := Blk.new ((W.alloc (.cells #[.int .i64 0, .int .i64 0, .slice none 0 0] 24)).alloc (.cells #[] 47)) 24 #[.int .i64 D, .int .i64 n, .slice (some ⟨W.heap.size + 1, 0, none⟩) 0 0]
    simpa using h
  have hrw : Blk w2 (W.heap.size + 1) 47 #[] := by
    refine Blk.below ?_ hB (by omega)
    have h := (Blk.new (W.alloc (.cells #[.int .i64 0, .int .i64 0, .slice none 0 0] 24)) 47 #[]).alloc (.cells #[.int .i64 D, .int .i64 n, .slice (some ⟨W.heap.size + 1, 0, none⟩) 0 0] 24)
    simpa using h
  have HW2 := Lib.hid ((below3 W (.cells #[.int .i64 0, .int .i64 0, .slice none 0 0] 24) (.cells #[] 47) (.cells #[.int .i64 D, .int .i64 n, .slice (some ⟨W.heap.size + 1, 0, none⟩) 0 0] 24)).trans (hB.mono (by omega)))
  have hz2 := hB.size
  simp only [World.size_alloc] at hz2
  obtain ⟨bw, hbw0, hbw1, hbw2, hrow⟩ : ∃ bw, W.heap.size + 1 + 1 ≠ bw ∧ W.heap.size + 1 ≠ bw ∧ bw < w2.heap.size ∧ ∀ k (h : k < ws.length), aw = some ⟨bw, 0, none⟩ ∧ w2.cell? ⟨bw, k, none⟩ = some (.string ws[k]) := by
    rcases hN2 with h | ⟨b, rfl, hb1, hb2, hM, ht⟩
    · exact ⟨W.heap.size, by omega, by omega, by omega, fun k hk => by rw [h] at hk; simp at hk⟩
    · exact ⟨b, by omega, by omega, hb2, fun k hk => ⟨rfl, by have := ht k hk; rwa [Nat.zero_add] at this⟩⟩
  have HBl := Lib.hid hbl
  have HRw := Lib.hid hrw
  have HRow := Lib.hid hrow
  clear hb2 hB hN2 hc hf hbl hrw hrow
  go_wp2_with fail
  go_loopw [12] (fun vi wr => ShRel (fun k => (ws.take k).map (shT v w)) ws.length (W.heap.size + 1) (W.heap.size + 1 + 1) bw (.int .i64 D) (.int .i64 n) w2 vi wr) (fun vi _ => ws.length - (intOf vi).toNat)
  case atStart => exact ⟨0, some ⟨W.heap.size + 1, 0, none⟩, 0, 0, Nat.zero_le _, rfl, rfl, OwnT.emptyRow HRw.out (Nat.le_refl _), by simp [Value.ownBlock], fun e => hbw1 (by simpa [Value.ownBlock] using e), HBl.out, Below.refl _ _, rfl⟩
  case round =>
    obtain ⟨k, av, lv, cv, hk, rfl, hlv, hOk, hnv, hnw, hBl, hBk, hHk⟩ := hrel
    have HLv := Lib.hid hlv
    have HOk := Lib.hid hOk
    have HBl2 := Lib.hid hBl
    have HBk := Lib.hid hBk
    have HNv := Lib.hid hnv
    have HNw := Lib.hid hnw
    have HHk := Lib.hid hHk
    have hzn := hBl.lt
    have hzr := hBk.size
    have hlk : lv ≤ 1000 := by rw [hlv, List.length_map, List.length_take]; omega
    obtain ⟨wb, rfl⟩ : ∃ wb : World, wb = wr := ⟨_, rfl⟩
    clear hOk hBl hBk hnv hnw hHk hlv
    by_cases hlt : k < ws.length
    · obtain ⟨rfl, c0⟩ := HRow.out k hlt
      have c1 : wb.cell? ⟨bw, k, none⟩ = some (.string ws[k]) := (cell_heap HHk.out k).trans c0
      have hsz8 : (ws[k]).size ≤ 8 := by have := HSz.out _ (List.getElem_mem hlt); omega
      have HT := Lib.hid (take_map_next (shT v w) ws k hlt)
      unfold shT at HT
      obtain ⟨s, hs⟩ : ∃ s, ws[k] = s := ⟨_, rfl⟩
      rw [hs] at c1 hsz8 HT
      have HN := Lib.hid (fun W => HNum.out s hsz8 W)
      obtain ⟨x, hx⟩ : ∃ x, ((shN v.data.toList w.data.toList s.data.toList : Nat) : Int) = x := ⟨_, rfl⟩
      rw [hx] at HT HN
      have hkI : (0 : Int) ≤ (k : Int) := by omega
      have hkL : (k : Int) < (ws.length : Int) := by omega
      have n2 : wb.cell? ⟨W.heap.size + 1 + 1, 2, none⟩ = some (.slice av lv cv) := HBl2.out.cell 2
      have e2 := Ne.symm HNv.out
      clear hs hx c0
      go_wp2_with fail
      go_region_law (first
        | (refine step_num rfl (.tmp 70) (.tmp 71) (.tmp 75) rfl v w s rfl rfl rfl x HN.out ?_; intro wa hha hba; have hzna : W.heap.size + 1 + 1 < wa.heap.size := (by rw [hha]; exact hzn); have m1 : wa.cell? ⟨bw, k, none⟩ = some (.string s) := (cell_of_heap hha _).trans c1; have m2 : wa.cell? ⟨W.heap.size + 1 + 1, 2, none⟩ = some (.slice av lv cv) := (cell_of_heap hha _).trans n2; have HOa := Lib.hid (HOk.out.of_heap hha); have nc2 : (wa.alloc (.cells #[.string s, .int .i64 x, .int .i64 1] 47)).cell? ⟨W.heap.size + 1 + 1, 2, none⟩ = some (.slice av lv cv) := ((below1 wa _).cell (p := ⟨W.heap.size + 1 + 1, 2, none⟩) hzna).trans m2; have nf2 : (wa.alloc (.cells #[.string s, .int .i64 x, .int .i64 1] 47)).frozen? ⟨W.heap.size + 1 + 1, 2, none⟩ = false := ((below1 wa _).frozen (p := ⟨W.heap.size + 1 + 1, 2, none⟩) hzna).trans ((frozen_of_heap hha _).trans (HBl2.out.frozen 2)); have hza : wb.heap.size ≤ wa.heap.size := hba.size; have HHa := Lib.hid hha; have HBa := Lib.hid hba; clear hha hba)
        | (refine step_append_lies _ (by rfl) _ _ _ (by rfl) (W.heap.size + 1) 47 i0 _ 3 32 Tryd.underlying22 hi0 hi1 hi2 hi3 rfl (by omega) (.slice av lv cv) lv (cellsT ((ws.take k).map (shT v w))) (by rfl) (by have h := HOa.out; unfold OwnT at h; rw [← HLv.out] at h; exact h.alloc _)
            ⟨wa.heap.size, 0, none⟩ 1 1 [.string s, .int .i64 x, .int .i64 1] (by rfl) (by rfl) (World.news_of_block (cs := #[.string s, .int .i64 x, .int .i64 1]) (t := 47) (fr := (0, 0)) (heap_alloc_new wa _)) (by simp [Value.oneCell'])
            (by omega) (by unfold maxLen; omega) (by omega) (by simp; omega) (wa.heap.size + 1) (by simp) ?_; intro gg cg w3 hown1 hgrow hat hlt2; have q0 := (hgrow.cell_far ⟨W.heap.size + 1 + 1, 2, none⟩ (by simp; omega) e2).trans nc2; have q1 := (hgrow.frozen_far ⟨W.heap.size + 1 + 1, 2, none⟩ (by simp; omega) e2).trans nf2)
        | fail)
      all_goals
        have hOs := Lib.hid (ShRel.step (F := fun k => (ws.take k).map (shT v w)) (m := ws.length) (x := .int .i64 D) (y := .int .i64 n) (wr := wa) ⟨s, x, 1⟩ (by omega) HT.out HLv.out HOa.out HNv.out HNw.out (HBl2.out.of_heap HHa.out) (HBk.out.trans (Below.mono (show Below wb.heap.size wb wa from ⟨HBa.out.os, HBa.out.tape, HBa.out.output, HBa.out.size, HBa.out.block⟩) (by omega))) ((congrArg (fun h => h[bw]?) HHa.out).trans HHk.out) (by omega) (by omega) hbw0 (by omega) hown1 hgrow hat)
        clear hown1 hgrow hat
        go_wp2
        go_roundw
        case rel => exact hOs.out
        case measure => simp [intOf]; omega
    · obtain rfl : k = ws.length := by omega
      have n0 : wb.cell? ⟨W.heap.size + 1 + 1, 0, none⟩ = some (.int .i64 D) := HBl2.out.cell 0
      have n1 : wb.cell? ⟨W.heap.size + 1 + 1, 1, none⟩ = some (.int .i64 n) := HBl2.out.cell 1
      have n2 : wb.cell? ⟨W.heap.size + 1 + 1, 2, none⟩ = some (.slice av lv cv) := HBl2.out.cell 2
      have bc := bcellB HBk.out
      have r0 : wb.cell? ⟨W.heap.size, 0, none⟩ = some (.int .i64 0) := (bc.1 _ _ (by omega)).trans r0
      have r1 : wb.cell? ⟨W.heap.size, 1, none⟩ = some (.int .i64 0) := (bc.1 _ _ (by omega)).trans r1
      have r2 : wb.cell? ⟨W.heap.size, 2, none⟩ = some (.slice none 0 0) := (bc.1 _ _ (by omega)).trans r2
      have z0 : wb.frozen? ⟨W.heap.size, 0, none⟩ = false := (bc.2 _ _ (by omega)).trans z0
      have z1 : wb.frozen? ⟨W.heap.size, 1, none⟩ = false := (bc.2 _ _ (by omega)).trans z1
      have z2 : wb.frozen? ⟨W.heap.size, 2, none⟩ = false := (bc.2 _ _ (by omega)).trans z2
      have hE : (ws.take ws.length).map (shT v w) = ws.map (shT v w) := by rw [List.take_length]
      have HO2 := Lib.hid (show OwnT wb (W.heap.size + 1) (.slice av lv cv) (ws.map (shT v w)) from by rw [← hE]; exact HOk.out)
      have HL2 := Lib.hid (show lv = (ws.map (shT v w)).length from by rw [← hE]; exact HLv.out)
      have HW3 := Lib.hid (HW2.out.trans (HBk.out.mono (by omega)))
      clear bc hE
      go_wp2
      obtain ⟨a', c', he, hle, hN⟩ := HO2.out.newRow
      injection he with e1 e2 e3
      subst e1 e3
      have hW3 := HW3.out
      refine bodyPost_ret (v := .tuple #[.agg #[.int .i64 D, .int .i64 n, .slice av (ws.map (shT v w)).length cv], .int .i64 0]) (by rw [← HL2.out]; simp [results, Tryd.results5, go_sem, r0, r1, r2]) rfl ⟨av, cv, rfl, by go_grown, ?_⟩
      exact (hN.far3 (by omega)).mono (by omega) (Nat.le_refl _)
end Go.Proofs.YteljpgoaaelbfaaDoor
