/-
  The program's values of brackets, in a space: of a tree in memory, and of a word from the left.
-/
import Derived.Test.YtgcjpenlcokgjaaGreatDoorBvM
import Derived.Test.YtgcjpenlcokgjaaGreatDoorGate
import Derived.Test.YtgcjpenlcokgjaaGreatDoorUnitS
import Derived.Deep.RegionHeld2
import Derived.Deep.RegionHeld3
namespace Go.Proofs.YtgcjpenlcokgjaaGreatDoor
open Go.RowKit

/-- a call whose values have to fit, as one step: either the whole fails with it, or it goes on with a map -/
theorem work_or {f : FuncId} {args : Array Value} {w : World} {R : Ending → World → Prop} {r : Option VF} (h : Calls Tryz.prog f args w (WorkPost r w)) (hp : r = none → ∀ w', Below w.heap.size w w' → R (.panicked [misP 3]) w')
    (hy : ∀ (b n : Nat) (h' : VF) (w' : World), r = some h' → w.heap.size ≤ b → Below w.heap.size w w' → n ≤ 1048576 → MapV w' b n h' → R (.returned (.map (some b))) w') : Calls Tryz.prog f args w R := by
  refine h.mono ?_
  cases r with
  | none => rintro e w' ⟨rfl, hb⟩; exact hp rfl w' hb
  | some h' => rintro e w' ⟨b, n, rfl, h1, h2, h3, h4⟩; exact hy b n h' w' rfl h1 h2 h3 h4
/-- an insertion into a map of values, as one step of a region that draws -/
theorem step_putV {ops : Array Oper} {o : Oper} {a : Act} {w : World} {K : Act → World → Prop} {Q : Exit → Act → World → Prop} {E : Prop} (hg : o.guard = none) (m x v : Operand) (hop : o.op = Op.insert 68 m x v) {b n : Nat} {f : VF} (hm : a.eval m = .map (some b)) (h : MapV w b n f) (hn : n < maxLen) (s : ByteArray) (hx : a.eval x = .string s) (hs : s.size ≤ maxLen) (p d : Int) (hv : a.eval v = .agg #[.int .i64 p, .int .i64 d])
    (hK : ∀ w', MapV w' b (n + 1) (setF f s (some (p, d))) → w.grownBy w' (some b) → K (a.put o.dst undef) w') : if Region.wanted o (yielded ops a.tmps) = true then Oper.wp Tryz.prog o a w K Q else E := by
  have hw : Region.wanted o (yielded ops a.tmps) = true := by simp [Region.wanted, hg]
  rw [if_pos hw]
  obtain ⟨w', hrun, r1, r2⟩ := h.run_put hn s hs p d
  unfold Oper.wp
  simp [execOp, hop, hm, hx, hv, hrun, Result.andThen]
  exact hK w' r1 r2

theorem InT.lt {w : World} : ∀ {b : Brk} {p : Nat}, InT w b p → p < w.heap.size
  | .leaf s, p, h => World.block_lt_of_cell? w _ h.1
  | .node l r, p, h => by
    obtain ⟨bl, br, h1, _⟩ := h
    exact World.block_lt_of_cell? w _ h1

set_option maxRecDepth 100000 in
set_option maxHeartbeats 4000000 in
theorem valuesIn_leaf (L V : Int) (a : Option Addr) (cap : Nat) (ws : List ByteArray) (s : ByteArray) (hs : s.size ≤ maxLen) (p : Nat) (w : World) (hp : p < w.heap.size) (hT : InT w (.leaf s) p) :
    Calls Tryz.prog 78 #[.pointer (some ⟨p, 0, none⟩), .agg #[.int .i64 L, .int .i64 V, .slice a ws.length cap]] w (WorkPost (some (oneF s)) w) := by
  have hmm := @run_makeMap Tryz.prog
  obtain ⟨c0, c1⟩ := hT
  have HS := Lib.hid hs
  go_enter Tryz.func78, Tryz.ntmps78
  go_upto_region 2 with fail
  have HB0 := Lib.hid (below1 w (.cells #[.int .i64 L, .int .i64 V, .slice a ws.length cap] 64))
  have hwz : (w.alloc (.cells #[.int .i64 L, .int .i64 V, .slice a ws.length cap] 64)).heap.size = w.heap.size + 1 := by simp
  have hc : (w.alloc (.cells #[.int .i64 L, .int .i64 V, .slice a ws.length cap] 64)).cell? ⟨p, 0, none⟩ = some (.string s) := ((below1 w (.cells #[.int .i64 L, .int .i64 V, .slice a ws.length cap] 64)).cell (p := ⟨p, 0, none⟩) hp).trans c0
  generalize (w.alloc (.cells #[.int .i64 L, .int .i64 V, .slice a ws.length cap] 64)) = wb at *
  have HC := Lib.hid hc
  have HZ := Lib.hid hwz
  have hpz : p < wb.heap.size := by omega
  clear c0 c1 hs hwz
  refine wp_region_held_drew (S := fun w' => w'.cell? ⟨p, 0, none⟩ = some (.string s)) (by kernel_rfl) (show wb.drew.cell? ⟨p, 0, none⟩ = some (.string s) from hc) (fun hHeld => ?_)
  refine wpAnyH_take (i := 1) (v := ?_) rfl (by kernel_rfl) (by kernel_rfl) (by kernel_rfl) (fun _ _ _ h => h) (Or.inl ⟨by rfl, ?_⟩) (by assumption) ?_
  rotate_left
  · (intro w0 hSw; obtain _s0 := hSw; go_simp; (try with_reducible rfl))
  simp only [Act.put, List.setIfInBounds_toArray, List.set_cons_zero, List.set_cons_succ, List.getElem_toArray, List.getElem_cons_zero, List.getElem_cons_succ]
  refine wpAnyH_take (i := 2) (v := ?_) rfl (by kernel_rfl) (by kernel_rfl) (by kernel_rfl) (fun _ _ _ h => h) (Or.inl ⟨by rfl, ?_⟩) (by assumption) ?_
  rotate_left
  · (intro w0 hSw; obtain _s0 := hSw; go_simp; (try with_reducible rfl))
  simp only [Act.put, List.setIfInBounds_toArray, List.set_cons_zero, List.set_cons_succ, List.getElem_toArray, List.getElem_cons_zero, List.getElem_cons_succ]
  refine wpAnyH_take (i := 3) (v := ?_) rfl (by kernel_rfl) (by kernel_rfl) (by kernel_rfl) (fun _ _ _ h => h) (Or.inl ⟨by rfl, ?_⟩) (by assumption) ?_
  rotate_left
  · (intro w0 hSw; obtain _s0 := hSw; go_simp; (try with_reducible rfl))
  simp only [Act.put, List.setIfInBounds_toArray, List.set_cons_zero, List.set_cons_succ, List.getElem_toArray, List.getElem_cons_zero, List.getElem_cons_succ]
  refine wpAnyH_take (i := 4) (v := ?_) rfl (by kernel_rfl) (by kernel_rfl) (by kernel_rfl) (fun _ _ _ h => h) (Or.inl ⟨by rfl, ?_⟩) (by assumption) ?_
  rotate_left
  · (intro w0 hSw; obtain _s0 := hSw; go_simp; (try with_reducible rfl))
  simp only [Act.put, List.setIfInBounds_toArray, List.set_cons_zero, List.set_cons_succ, List.getElem_toArray, List.getElem_cons_zero, List.getElem_cons_succ]
  refine wpAnyH_ready (rs := [0, 5]) (by kernel_rfl) (by simp) ?_
  refine AllReadyH.cons rfl (fun K hK => ?_) (AllReadyH.cons rfl (fun K hK => ?_) AllReadyH.nil)
  · go_simp
    have hM0 : MapV (wb.drew.alloc (.map #[] 0)) wb.heap.size 0 (fun _ => none) := MapV.made wb.drew
    have hb1 : Below wb.heap.size wb (wb.drew.alloc (.map #[] 0)) := (Below.drew (Below.refl _ _)).alloc (Nat.le_refl _) _
    refine hK.out _ _ ((hb1.cell (p := ⟨p, 0, none⟩) hpz).trans HC.out) (fun hHeld => ?_)
    clear hK K

    refine wpAnyH_ready (rs := [5]) (by kernel_rfl) (by simp) ?_
    refine AllReadyH.cons rfl (fun K hK => ?_) AllReadyH.nil
    go_simp
    go_at_call 117
    refine (wholeFraction_c _ _).mono ?_
    rintro e w5 ⟨rfl, hb5⟩
    have hM5 := hM0.below hb5 (by simp)
    have hB5 : Below wb.heap.size wb w5 := below_step hb1 hb5 (Nat.le_refl _)
    refine hK.out _ _ ((hB5.cell (p := ⟨p, 0, none⟩) hpz).trans HC.out) (fun hHeld => ?_)
    clear hK K

    refine wpAnyH_ready (rs := [6]) (by kernel_rfl) (by simp) ?_
    refine AllReadyH.cons rfl (fun K hK => ?_) AllReadyH.nil
    refine step_putV rfl (.tmp 10) (.tmp 14) (.tmp 15) rfl rfl hM5 (by unfold maxLen; omega) s rfl HS.out 1 1 rfl ?_
    intro w6 hM6 hG6
    have HM6 := Lib.hid hM6
    have hB6 : Below wb.heap.size wb w6 := hB5.trans (below_of_grown hG6 (fun g h => by cases h; exact Nat.le_refl _) hB5.size)
    have HB6 := Lib.hid hB6
    refine hK.out _ _ ((hB6.cell (p := ⟨p, 0, none⟩) hpz).trans HC.out) (fun hHeld => ?_)
    clear hK K hM5 hB5 hM6 hG6 hB6
    (try simp only [Act.put, List.getElem_toArray, List.getElem_cons_zero, List.getElem_cons_succ])
    refine wpAnyH_take (i := 7) (v := ?_) rfl (by kernel_rfl) (by kernel_rfl) (by kernel_rfl) (fun _ _ _ h => h) (Or.inl ⟨by rfl, ?_⟩) (by assumption) ?_
    rotate_left
    · (intro w0 hSw; obtain _s0 := hSw; go_simp; (try with_reducible rfl))
    simp only [Act.put, List.setIfInBounds_toArray, List.set_cons_zero, List.set_cons_succ, List.getElem_toArray, List.getElem_cons_zero, List.getElem_cons_succ]
    refine wpAnyH_take (i := 8) (v := ?_) rfl (by kernel_rfl) (by kernel_rfl) (by kernel_rfl) (fun _ _ _ h => h) (Or.inl ⟨by rfl, ?_⟩) (by assumption) ?_
    rotate_left
    · (intro w0 hSw; obtain _s0 := hSw; go_simp; (try with_reducible rfl))
    simp only [Act.put, List.setIfInBounds_toArray, List.set_cons_zero, List.set_cons_succ, List.getElem_toArray, List.getElem_cons_zero, List.getElem_cons_succ]
    refine wpAnyH_done (by kernel_rfl) ?_ _
    go_wp2
    go_ret
    exact ⟨_, 1, rfl, by have := HZ.out; omega, HB0.out.trans (HB6.out.mono (by have := HZ.out; omega)), by omega, HM6.out⟩
  · go_simp
    go_at_call 117
    refine (wholeFraction_c _ _).mono ?_
    rintro e w4 ⟨rfl, hb4'⟩
    have hb4 : Below wb.heap.size wb w4 := ⟨hb4'.os, hb4'.tape, hb4'.output, hb4'.size, hb4'.block⟩
    have hz4 := hb4.size
    refine hK.out _ _ ((hb4.cell (p := ⟨p, 0, none⟩) hpz).trans HC.out) (fun hHeld => ?_)
    clear hK K

    refine wpAnyH_ready (rs := [0]) (by kernel_rfl) (by simp) ?_
    refine AllReadyH.cons rfl (fun K hK => ?_) AllReadyH.nil
    go_simp
    have hM5 : MapV (w4.alloc (.map #[] 0)) w4.heap.size 0 (fun _ => none) := MapV.made w4
    have hB5 : Below wb.heap.size wb (w4.alloc (.map #[] 0)) := hb4.alloc hz4 _
    refine hK.out _ _ ((hB5.cell (p := ⟨p, 0, none⟩) hpz).trans HC.out) (fun hHeld => ?_)
    clear hK K

    refine wpAnyH_ready (rs := [6]) (by kernel_rfl) (by simp) ?_
    refine AllReadyH.cons rfl (fun K hK => ?_) AllReadyH.nil
    refine step_putV rfl (.tmp 10) (.tmp 14) (.tmp 15) rfl rfl hM5 (by unfold maxLen; omega) s rfl HS.out 1 1 rfl ?_
    intro w6 hM6 hG6
    have HM6 := Lib.hid hM6
    have hB6 : Below wb.heap.size wb w6 := hB5.trans (below_of_grown hG6 (fun g h => by cases h; exact hz4) hB5.size)
    have HB6 := Lib.hid hB6
    refine hK.out _ _ ((hB6.cell (p := ⟨p, 0, none⟩) hpz).trans HC.out) (fun hHeld => ?_)
    clear hK K hM5 hB5 hM6 hG6 hB6
    (try simp only [Act.put, List.getElem_toArray, List.getElem_cons_zero, List.getElem_cons_succ])
    refine wpAnyH_take (i := 7) (v := ?_) rfl (by kernel_rfl) (by kernel_rfl) (by kernel_rfl) (fun _ _ _ h => h) (Or.inl ⟨by rfl, ?_⟩) (by assumption) ?_
    rotate_left
    · (intro w0 hSw; obtain _s0 := hSw; go_simp; (try with_reducible rfl))
    simp only [Act.put, List.setIfInBounds_toArray, List.set_cons_zero, List.set_cons_succ, List.getElem_toArray, List.getElem_cons_zero, List.getElem_cons_succ]
    refine wpAnyH_take (i := 8) (v := ?_) rfl (by kernel_rfl) (by kernel_rfl) (by kernel_rfl) (fun _ _ _ h => h) (Or.inl ⟨by rfl, ?_⟩) (by assumption) ?_
    rotate_left
    · (intro w0 hSw; obtain _s0 := hSw; go_simp; (try with_reducible rfl))
    simp only [Act.put, List.setIfInBounds_toArray, List.set_cons_zero, List.set_cons_succ, List.getElem_toArray, List.getElem_cons_zero, List.getElem_cons_succ]
    refine wpAnyH_done (by kernel_rfl) ?_ _
    go_wp2
    go_ret
    exact ⟨_, 1, rfl, by have := HZ.out; omega, HB0.out.trans (HB6.out.mono (by have := HZ.out; omega)), by omega, HM6.out⟩

set_option maxRecDepth 100000 in
set_option maxHeartbeats 8000000 in
theorem valuesIn_c (L V : Int) (a : Option Addr) (cap : Nat) (ws : List ByteArray) (hl : ws.length ≤ 100000) (hs : ∀ s ∈ ws, s.size ≤ 1000) : ∀ (b : Brk) (p : Nat), b.inW ws → ∀ w : World, p < w.heap.size → InT w b p → SRow w a ws → (∀ p, a = some p → p.block < w.heap.size) →
    Calls Tryz.prog 78 #[.pointer (some ⟨p, 0, none⟩), .agg #[.int .i64 L, .int .i64 V, .slice a ws.length cap]] w (WorkPost (brkV ws b) w) := by
  intro b
  induction b with
  | leaf s => exact fun p hi w hp hT _ _ => valuesIn_leaf L V a cap ws s (by have := hs s hi; unfold maxLen; omega) p w hp hT
  | node l r ihl ihr =>
    intro p hi w hp hT hr hA
    obtain ⟨bl, br, c1, c2, hTl, hTr⟩ := hT
    have hbl := hTl.lt
    have hbr := hTr.lt
    have HTl := Lib.hid hTl
    have HTr := Lib.hid hTr
    have HR := Lib.hid hr
    have HA := Lib.hid hA
    have HCl := Lib.hid (ihl bl hi.1)
    have HCr := Lib.hid (ihr br hi.2)
    have HIl := Lib.hid (fun f (e : brkV ws l = some f) => brkV_isF e)
    have HIr := Lib.hid (fun f (e : brkV ws r = some f) => brkV_isF e)
    have HLn := Lib.hid (fun (e : brkV ws l = none) => brkV_l (r := r) e)
    have HRn := Lib.hid (fun (e : brkV ws r = none) => brkV_r (l := l) e)
    have HLR := Lib.hid (fun f g (e : brkV ws l = some f) (e2 : brkV ws r = some g) => brkV_lr e e2)
    have HCo := Lib.hid (fun f g hf hg b1 n1 b2 n2 W hr hA m1 m2 => commutator_c L V a cap ws hl hs f g hf hg b1 n1 b2 n2 W hr hA m1 m2)
    obtain ⟨o, ho⟩ : ∃ o, brkV ws (.node l r) = o := ⟨_, rfl⟩
    rw [ho] at HLn HRn HLR ⊢
    obtain ⟨ol, hol⟩ : ∃ o, brkV ws l = o := ⟨_, rfl⟩
    obtain ⟨or, hor⟩ : ∃ o, brkV ws r = o := ⟨_, rfl⟩
    rw [hol] at HLn HIl HCl HLR
    rw [hor] at HRn HIr HCr HLR
    clear ihl ihr hi hTl hTr hr hA ho hol hor
    go_enter Tryz.func78, Tryz.ntmps78
    go_upto_region 3 with fail
    have HB0 := Lib.hid (below1 w (.cells #[.int .i64 L, .int .i64 V, .slice a ws.length cap] 64))
    have hwz : (w.alloc (.cells #[.int .i64 L, .int .i64 V, .slice a ws.length cap] 64)).heap.size = w.heap.size + 1 := by simp
    have k0 : (w.alloc (.cells #[.int .i64 L, .int .i64 V, .slice a ws.length cap] 64)).cell? ⟨w.heap.size, 0, none⟩ = some (.int .i64 L) := by go_simp
    have k1 : (w.alloc (.cells #[.int .i64 L, .int .i64 V, .slice a ws.length cap] 64)).cell? ⟨w.heap.size, 1, none⟩ = some (.int .i64 V) := by go_simp
    have k2 : (w.alloc (.cells #[.int .i64 L, .int .i64 V, .slice a ws.length cap] 64)).cell? ⟨w.heap.size, 2, none⟩ = some (.slice a ws.length cap) := by go_simp
    have d1 : (w.alloc (.cells #[.int .i64 L, .int .i64 V, .slice a ws.length cap] 64)).cell? ⟨p, 1, none⟩ = some (.pointer (some ⟨bl, 0, none⟩)) := ((below1 w (.cells #[.int .i64 L, .int .i64 V, .slice a ws.length cap] 64)).cell (p := ⟨p, 1, none⟩) hp).trans c1
    have d2 : (w.alloc (.cells #[.int .i64 L, .int .i64 V, .slice a ws.length cap] 64)).cell? ⟨p, 2, none⟩ = some (.pointer (some ⟨br, 0, none⟩)) := ((below1 w (.cells #[.int .i64 L, .int .i64 V, .slice a ws.length cap] 64)).cell (p := ⟨p, 2, none⟩) hp).trans c2
    generalize (w.alloc (.cells #[.int .i64 L, .int .i64 V, .slice a ws.length cap] 64)) = wb at *
    have hww : w.heap.size < wb.heap.size := by omega
    have hpb : p < wb.heap.size := by omega
    have KS := Lib.hid (show ∀ w', Below wb.heap.size wb w' → (w'.cell? ⟨w.heap.size, 0, none⟩ = some (.int .i64 L) ∧ w'.cell? ⟨w.heap.size, 1, none⟩ = some (.int .i64 V) ∧ w'.cell? ⟨w.heap.size, 2, none⟩ = some (.slice a ws.length cap) ∧ w'.cell? ⟨p, 1, none⟩ = some (.pointer (some ⟨bl, 0, none⟩)) ∧ w'.cell? ⟨p, 2, none⟩ = some (.pointer (some ⟨br, 0, none⟩))) from fun w' hb => ⟨(hb.cell (p := ⟨w.heap.size, 0, none⟩) hww).trans k0, (hb.cell (p := ⟨w.heap.size, 1, none⟩) hww).trans k1, (hb.cell (p := ⟨w.heap.size, 2, none⟩) hww).trans k2, (hb.cell (p := ⟨p, 1, none⟩) hpb).trans d1, (hb.cell (p := ⟨p, 2, none⟩) hpb).trans d2⟩)
    have HZ := Lib.hid hwz
    have HRw := Lib.hid (fun W (hW : Below wb.heap.size wb W) => HR.out.below (HB0.out.trans (hW.mono (by omega))) (Nat.le_refl _))
    have HAw := Lib.hid (show ∀ (W : World), Below wb.heap.size wb W → ∀ p, a = some p → p.block < W.heap.size from fun W hW p e => by have := HA.out p e; have := hW.size; omega)
    have HVl := Lib.hid (fun W (hW : Below wb.heap.size wb W) => HCl.out W (by have := hW.size; omega) (HTl.out.below (HB0.out.trans (hW.mono (by omega)))) (HRw.out W hW) (HAw.out W hW))
    have HVr := Lib.hid (fun W (hW : Below wb.heap.size wb W) => HCr.out W (by have := hW.size; omega) (HTr.out.below (HB0.out.trans (hW.mono (by omega)))) (HRw.out W hW) (HAw.out W hW))
    have HCw := Lib.hid (fun f g (e1 : ol = some f) (e2 : or = some g) b1 n1 b2 n2 W (hW : Below wb.heap.size wb W) m1 m2 => HCo.out f g (HIl.out f e1) (HIr.out g e2) b1 n1 b2 n2 W (HRw.out W hW) (HAw.out W hW) m1 m2)
    clear c1 c2 hwz
    go_region_held2 (fun w' => w'.cell? ⟨w.heap.size, 0, none⟩ = some (.int .i64 L) ∧ w'.cell? ⟨w.heap.size, 1, none⟩ = some (.int .i64 V) ∧ w'.cell? ⟨w.heap.size, 2, none⟩ = some (.slice a ws.length cap) ∧ w'.cell? ⟨p, 1, none⟩ = some (.pointer (some ⟨bl, 0, none⟩)) ∧ w'.cell? ⟨p, 2, none⟩ = some (.pointer (some ⟨br, 0, none⟩)))
      ((refine KS.out _ ?_; repeat' (first | with_reducible assumption | with_reducible exact Below.refl _ _ | (with_reducible refine Below.drew ?_) | (with_reducible refine Below.setCell ?_ (by (try dsimp only); omega) _) | (with_reducible refine Below.alloc ?_ (by (try simp only [World.size_setCell]); (try simp only [World.size_drew]); (try simp only [World.size_alloc]); (try simp only [World.size_setCell]); (try simp only [World.size_alloc]); omega) _))))
      (first
        | (go_at_call 78; (with_reducible refine work_or (HVl.out _ ?_) ?_ ?_); (focus repeat' (first | with_reducible assumption | with_reducible exact Below.refl _ _ | (with_reducible refine Below.drew ?_) | (with_reducible refine Below.setCell ?_ (by (try dsimp only); omega) _) | (with_reducible refine Below.alloc ?_ (by (try simp only [World.size_setCell]); (try simp only [World.size_drew]); (try simp only [World.size_alloc]); (try simp only [World.size_setCell]); (try simp only [World.size_alloc]); omega) _))); (focus (intro e w' hb'; refine ⟨rfl, ?_⟩; rw [HLn.out e]; exact ⟨rfl, HB0.out.trans ((below_step (by repeat' (first | with_reducible assumption | with_reducible exact Below.refl _ _ | (with_reducible refine Below.drew ?_) | (with_reducible refine Below.setCell ?_ (by (try dsimp only); omega) _) | (with_reducible refine Below.alloc ?_ (by (try simp only [World.size_setCell]); (try simp only [World.size_drew]); (try simp only [World.size_alloc]); (try simp only [World.size_setCell]); (try simp only [World.size_alloc]); omega) _))) hb' (Nat.le_refl _)).mono (by have := HZ.out; omega))⟩)); intro bl1 nl1 fl wl eL hll hb0 hnl hMl; have hbl1 : Below wb.heap.size wb wl := below_step (by repeat' (first | with_reducible assumption | with_reducible exact Below.refl _ _ | (with_reducible refine Below.drew ?_) | (with_reducible refine Below.setCell ?_ (by (try dsimp only); omega) _) | (with_reducible refine Below.alloc ?_ (by (try simp only [World.size_setCell]); (try simp only [World.size_drew]); (try simp only [World.size_alloc]); (try simp only [World.size_setCell]); (try simp only [World.size_alloc]); omega) _))) hb0 (Nat.le_refl _); (try have hMr2 := hMr.below hb0 hMr.lt))
        | (go_at_call 78; (with_reducible refine work_or (HVr.out _ ?_) ?_ ?_); (focus repeat' (first | with_reducible assumption | with_reducible exact Below.refl _ _ | (with_reducible refine Below.drew ?_) | (with_reducible refine Below.setCell ?_ (by (try dsimp only); omega) _) | (with_reducible refine Below.alloc ?_ (by (try simp only [World.size_setCell]); (try simp only [World.size_drew]); (try simp only [World.size_alloc]); (try simp only [World.size_setCell]); (try simp only [World.size_alloc]); omega) _))); (focus (intro e w' hb'; refine ⟨rfl, ?_⟩; rw [HRn.out e]; exact ⟨rfl, HB0.out.trans ((below_step (by repeat' (first | with_reducible assumption | with_reducible exact Below.refl _ _ | (with_reducible refine Below.drew ?_) | (with_reducible refine Below.setCell ?_ (by (try dsimp only); omega) _) | (with_reducible refine Below.alloc ?_ (by (try simp only [World.size_setCell]); (try simp only [World.size_drew]); (try simp only [World.size_alloc]); (try simp only [World.size_setCell]); (try simp only [World.size_alloc]); omega) _))) hb' (Nat.le_refl _)).mono (by have := HZ.out; omega))⟩)); intro br1 nr1 fr wr eR hlr hb0 hnr hMr; have hbr1 : Below wb.heap.size wb wr := below_step (by repeat' (first | with_reducible assumption | with_reducible exact Below.refl _ _ | (with_reducible refine Below.drew ?_) | (with_reducible refine Below.setCell ?_ (by (try dsimp only); omega) _) | (with_reducible refine Below.alloc ?_ (by (try simp only [World.size_setCell]); (try simp only [World.size_drew]); (try simp only [World.size_alloc]); (try simp only [World.size_setCell]); (try simp only [World.size_alloc]); omega) _))) hb0 (Nat.le_refl _); (try have hMl2 := hMl.below hb0 hMl.lt))
        | (go_at_call 118; (with_reducible refine work_or (HCw.out fl fr eL eR bl1 nl1 br1 nr1 _ ?_ ?_ ?_) ?_ ?_); (focus repeat' (first | with_reducible assumption | with_reducible exact Below.refl _ _ | (with_reducible refine Below.drew ?_) | (with_reducible refine Below.setCell ?_ (by (try dsimp only); omega) _) | (with_reducible refine Below.alloc ?_ (by (try simp only [World.size_setCell]); (try simp only [World.size_drew]); (try simp only [World.size_alloc]); (try simp only [World.size_setCell]); (try simp only [World.size_alloc]); omega) _))); (focus (first | with_reducible exact hMl | with_reducible exact hMl2)); (focus (first | with_reducible exact hMr | with_reducible exact hMr2)); (focus (intro e w' hb'; refine ⟨rfl, ?_⟩; rw [(HLR.out fl fr eL eR).trans e]; exact ⟨rfl, HB0.out.trans ((below_step (by repeat' (first | with_reducible assumption | with_reducible exact Below.refl _ _ | (with_reducible refine Below.drew ?_) | (with_reducible refine Below.setCell ?_ (by (try dsimp only); omega) _) | (with_reducible refine Below.alloc ?_ (by (try simp only [World.size_setCell]); (try simp only [World.size_drew]); (try simp only [World.size_alloc]); (try simp only [World.size_setCell]); (try simp only [World.size_alloc]); omega) _))) hb' (Nat.le_refl _)).mono (by have := HZ.out; omega))⟩)); intro bc nc fc wc eC hlc hb0 hnc hMc; have hbc : Below wb.heap.size wb wc := below_step (by repeat' (first | with_reducible assumption | with_reducible exact Below.refl _ _ | (with_reducible refine Below.drew ?_) | (with_reducible refine Below.setCell ?_ (by (try dsimp only); omega) _) | (with_reducible refine Below.alloc ?_ (by (try simp only [World.size_setCell]); (try simp only [World.size_drew]); (try simp only [World.size_alloc]); (try simp only [World.size_setCell]); (try simp only [World.size_alloc]); omega) _))) hb0 (Nat.le_refl _); have hlc2 : wb.heap.size ≤ bc := (by first | (have h1 := hbl1.size; have h2 := hbr1.size; omega)))
        | fail)
    all_goals
      have HM9 := Lib.hid hMc
      have HB9 := Lib.hid hbc
      have HO9 := Lib.hid ((HLR.out fl fr eL eR).trans eC)
      clear hMc hbc hbl1 hbr1 hMl hMr
      go_wp2
      rw [HO9.out]
      go_ret
      exact ⟨bc, nc, rfl, by omega, HB0.out.trans (HB9.out.mono (by have := HZ.out; omega)), hnc, HM9.out⟩

end Go.Proofs.YtgcjpenlcokgjaaGreatDoor
