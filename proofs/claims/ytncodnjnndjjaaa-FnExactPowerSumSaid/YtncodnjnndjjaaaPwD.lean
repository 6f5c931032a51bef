/-
  Power sums: what one part makes out of what was found for the parts behind it. Contracts of sumsWithPart.
-/
import Derived.Test.YtncodnjnndjjaaaPwR
import Derived.Shelf.RegionOpen
namespace Go.Proofs.Ytncodnjnndjjaaa
open Go.RowKit Go.Shelf

attribute [local go_sem] Oper.semAt_some

/-- one place more -/
def swF (p : Nat) (beh F : List Int) (i : Nat) (x : Int) : Option (List Int) := (addW (F.getD (i + 1) 0) (x ^ p) (beh.getD (i + 1) 0)).map fun v => F.set i v
def swG (z : List Int) (p : Nat) (beh : List Int) (o : Option (List Int)) (pre : List (Plc z)) : Option (List Int) := pre.foldl (fun o x => o.bind fun F => swF p beh F x.1.1 x.1.2) o
def swL (z : List Int) (p : Nat) (beh : List Int) (pre : List (Plc z)) : Option (List Int) := swG z p beh (some (List.replicate (z.length + 1) 0)) pre
theorem swL_snoc {z : List Int} {p : Nat} {beh : List Int} (pre : List (Plc z)) (x : Plc z) : swL z p beh (pre ++ [x]) = (swL z p beh pre).bind fun F => swF p beh F x.1.1 x.1.2 := by
  unfold swL swG
  rw [List.foldl_append]
  rfl
theorem swG_none {z : List Int} {p : Nat} {beh : List Int} : ∀ (t : List (Plc z)), swG z p beh none t = none
  | [] => rfl
  | _ :: t => swG_none t
theorem swL_app {z : List Int} {p : Nat} {beh : List Int} {pre t : List (Plc z)} (h : swL z p beh pre = none) : swL z p beh (pre ++ t) = none := by
  have e : swL z p beh (pre ++ t) = swG z p beh (swL z p beh pre) t := by unfold swL swG; rw [List.foldl_append]
  rw [e, h, swG_none]
def goodS (n : Nat) (F : List Int) : Prop := F.length = n + 1 ∧ ∀ v ∈ F, -mxS ≤ v ∧ v ≤ mxS
theorem goodS.get {n : Nat} {F : List Int} (h : goodS n F) (i : Nat) : -mxS ≤ F.getD i 0 ∧ F.getD i 0 ≤ mxS := by
  rw [List.getD_eq_getElem?_getD]
  cases hi : F[i]? with
  | none => simp
  | some v => exact h.2 v (List.mem_of_getElem? hi)
theorem swF_good {n p : Nat} {beh F F' : List Int} {i : Nat} {x : Int} (h : goodS n F) (e : swF p beh F i x = some F') : goodS n F' := by
  unfold swF at e
  obtain ⟨v, hv, rfl⟩ := Option.map_eq_some_iff.1 e
  refine ⟨by rw [List.length_set]; exact h.1, fun u hu => ?_⟩
  rcases List.mem_or_eq_of_mem_set hu with h1 | rfl
  · exact h.2 u h1
  · exact addW_in hv
theorem swG_good {z : List Int} {p : Nat} {beh : List Int} : ∀ (t : List (Plc z)) {o : Option (List Int)}, (∀ F, o = some F → goodS z.length F) → ∀ F, swG z p beh o t = some F → goodS z.length F
  | [], _, h, F, e => h F e
  | x :: t, o, h, F, e => swG_good t (o := o.bind fun F => swF p beh F x.1.1 x.1.2) (fun F' h' => by
      obtain ⟨F0, h0, h1⟩ := Option.bind_eq_some_iff.1 h'
      exact swF_good (h F0 h0) h1) F e
theorem good_0 (n : Nat) {v : Int} (hv : -mxS ≤ v ∧ v ≤ mxS) : goodS n (List.replicate (n + 1) v) := ⟨by simp, fun u hu => by obtain rfl := List.eq_of_mem_replicate hu; exact hv⟩
theorem swL_good {z : List Int} {p : Nat} {beh : List Int} {pre : List (Plc z)} {F : List Int} (h : swL z p beh pre = some F) : goodS z.length F :=
  swG_good pre (fun F' e => by injection e with e; subst e; exact good_0 _ (by decide)) F h

theorem bwd_congr {z : List Int} {m n : Nat} (e : m = n) (hm : m ≤ z.length) (hn : n ≤ z.length) : bwd z m hm = bwd z n hn := by subst e; rfl
theorem swL_stop {z : List Int} {p : Nat} {beh : List Int} {k : Nat} (hk : k ≤ z.length) (h : swL z p beh (bwd z k hk) = none) : swL z p beh (bwd z z.length (Nat.le_refl _)) = none := by
  obtain ⟨d, hd⟩ : ∃ d, k + d = z.length := ⟨z.length - k, by omega⟩
  obtain ⟨t, ht⟩ := bwd_pre z hk d (by omega)
  rw [← bwd_congr hd (by omega) (Nat.le_refl _), ht]
  exact swL_app h

/-- what sumsWithPart comes to -/
def SwPost (r : Option (List Int)) (W : World) (e : Ending) (w' : World) : Prop :=
  match r with
  | none => e = .returned (.tuple #[.slice none 0 0, .int .i64 3]) ∧ Below W.heap.size W w'
  | some F => ∃ g, e = .returned (.tuple #[.slice (some ⟨g, 0, none⟩) F.length F.length, .int .i64 0]) ∧ Below W.heap.size W w' ∧ W.heap.size ≤ g ∧ Made w' g F.length ∧ IntsIn w' g 0 F

theorem keeps_below {W W' : World} (h : Below W.heap.size W W') : KeepsOthers W W' := ⟨h.size, fun _ _ hk _ => (h.block _ (Array.getElem?_eq_some_iff.1 hk).1).trans hk⟩
/-- what stands between two rounds -/
structure SwI (z beh : List Int) (p : Nat) (a2 : Option Addr) (cap2 B : Nat) (F : List Int) (cd : Int) (W : World) : Prop where
  sz : B + 8 ≤ W.heap.size
  p0 : W.cell? ⟨B, 0, none⟩ = some (.int .i64 p)
  b0 : W.cell? ⟨B + 1, 0, none⟩ = some (.slice a2 beh.length cap2)
  r0 : W.cell? ⟨B + 1 + 1, 0, none⟩ = some (.slice none 0 0)
  r1 : W.cell? ⟨B + 1 + 1 + 1, 0, none⟩ = some (.int .i64 0)
  f0 : W.cell? ⟨B + 1 + 1 + 1 + 1 + 1, 0, none⟩ = some (.slice (some ⟨B + 1 + 1 + 1 + 1, 0, none⟩) (z.length + 1) (z.length + 1))
  c0 : W.cell? ⟨B + 1 + 1 + 1 + 1 + 1 + 1, 0, none⟩ = some (.int .i64 cd)
  zr0 : W.frozen? ⟨B + 1 + 1, 0, none⟩ = false
  zr1 : W.frozen? ⟨B + 1 + 1 + 1, 0, none⟩ = false
  zc0 : W.frozen? ⟨B + 1 + 1 + 1 + 1 + 1 + 1, 0, none⟩ = false
  md : Made W (B + 1 + 1 + 1 + 1) (z.length + 1)
  fs : IntsIn W (B + 1 + 1 + 1 + 1) 0 F
theorem made_kept {W W' : World} {row : Option Nat} {g m : Nat} (h : Made W g m) (hg : W.grownBy W' row) (hrow : ∀ r, row = some r → ∃ o : Obj, W.heap[r]? = some o ∧ o.isCells = false) : Made W' g m :=
  ⟨Nat.lt_of_lt_of_le h.1 hg.size, fun j hj => by
    obtain ⟨⟨v, hv⟩, hf⟩ := h.2 j hj
    exact ⟨⟨v, cell_kept hv hg hrow⟩, (frozen_kept hv hg hrow).trans hf⟩⟩
section
variable {z beh F : List Int} {p : Nat} {a2 : Option Addr} {cap2 B : Nat} {cd : Int} {W W' : World}
theorem SwI.kept {row : Option Nat} (h : SwI z beh p a2 cap2 B F cd W) (hg : W.grownBy W' row) (hrow : ∀ r, row = some r → ∃ o : Obj, W.heap[r]? = some o ∧ o.isCells = false) : SwI z beh p a2 cap2 B F cd W' where
  sz := Nat.le_trans h.sz hg.size
  p0 := cell_kept h.p0 hg hrow
  b0 := cell_kept h.b0 hg hrow
  r0 := cell_kept h.r0 hg hrow
  r1 := cell_kept h.r1 hg hrow
  f0 := cell_kept h.f0 hg hrow
  c0 := cell_kept h.c0 hg hrow
  zr0 := (frozen_kept h.r0 hg hrow).trans h.zr0
  zr1 := (frozen_kept h.r1 hg hrow).trans h.zr1
  zc0 := (frozen_kept h.c0 hg hrow).trans h.zc0
  md := made_kept h.md hg hrow
  fs := fun i hi => cell_kept (h.fs i hi) hg hrow
theorem SwI.below (h : SwI z beh p a2 cap2 B F cd W) (hb : Below W.heap.size W W') : SwI z beh p a2 cap2 B F cd W' where
  sz := Nat.le_trans h.sz hb.size
  p0 := (hb.cell (p := ⟨B, 0, none⟩) (by show B < _; have := h.sz; omega)).trans h.p0
  b0 := (hb.cell (p := ⟨B + 1, 0, none⟩) (by show B + 1 < _; have := h.sz; omega)).trans h.b0
  r0 := (hb.cell (p := ⟨B + 1 + 1, 0, none⟩) (by show B + 1 + 1 < _; have := h.sz; omega)).trans h.r0
  r1 := (hb.cell (p := ⟨B + 1 + 1 + 1, 0, none⟩) (by show B + 1 + 1 + 1 < _; have := h.sz; omega)).trans h.r1
  f0 := (hb.cell (p := ⟨B + 1 + 1 + 1 + 1 + 1, 0, none⟩) (by show B + 1 + 1 + 1 + 1 + 1 < _; have := h.sz; omega)).trans h.f0
  c0 := (hb.cell (p := ⟨B + 1 + 1 + 1 + 1 + 1 + 1, 0, none⟩) (by show B + 1 + 1 + 1 + 1 + 1 + 1 < _; have := h.sz; omega)).trans h.c0
  zr0 := (hb.frozen (p := ⟨B + 1 + 1, 0, none⟩) (by show B + 1 + 1 < _; have := h.sz; omega)).trans h.zr0
  zr1 := (hb.frozen (p := ⟨B + 1 + 1 + 1, 0, none⟩) (by show B + 1 + 1 + 1 < _; have := h.sz; omega)).trans h.zr1
  zc0 := (hb.frozen (p := ⟨B + 1 + 1 + 1 + 1 + 1 + 1, 0, none⟩) (by show B + 1 + 1 + 1 + 1 + 1 + 1 < _; have := h.sz; omega)).trans h.zc0
  md := h.md.below hb (by have := h.sz; omega)
  fs := h.fs.below hb (by have := h.sz; omega)
theorem SwI.put (h : SwI z beh p a2 cap2 B F cd W) (hF : F.length = z.length + 1) {i : Nat} (hi : i < z.length + 1) (v u : Int) :
    SwI z beh p a2 cap2 B (F.set i v) u ((W.setCell ⟨B + 1 + 1 + 1 + 1, i, none⟩ (.int .i64 v)).setCell ⟨B + 1 + 1 + 1 + 1 + 1 + 1, 0, none⟩ (.int .i64 u)) where
  sz := by simp only [World.size_setCell]; exact h.sz
  p0 := by rw [World.cell?_setCell_far _ _ _ _ (by show B + 1 + 1 + 1 + 1 + 1 + 1 ≠ B; omega), World.cell?_setCell_far _ _ _ _ (by show B + 1 + 1 + 1 + 1 ≠ B; omega)]; exact h.p0
  b0 := by rw [World.cell?_setCell_far _ _ _ _ (by show B + 1 + 1 + 1 + 1 + 1 + 1 ≠ B + 1; omega), World.cell?_setCell_far _ _ _ _ (by show B + 1 + 1 + 1 + 1 ≠ B + 1; omega)]; exact h.b0
  r0 := by rw [World.cell?_setCell_far _ _ _ _ (by show B + 1 + 1 + 1 + 1 + 1 + 1 ≠ B + 1 + 1; omega), World.cell?_setCell_far _ _ _ _ (by show B + 1 + 1 + 1 + 1 ≠ B + 1 + 1; omega)]; exact h.r0
  r1 := by rw [World.cell?_setCell_far _ _ _ _ (by show B + 1 + 1 + 1 + 1 + 1 + 1 ≠ B + 1 + 1 + 1; omega), World.cell?_setCell_far _ _ _ _ (by show B + 1 + 1 + 1 + 1 ≠ B + 1 + 1 + 1; omega)]; exact h.r1
  f0 := by rw [World.cell?_setCell_far _ _ _ _ (by show B + 1 + 1 + 1 + 1 + 1 + 1 ≠ B + 1 + 1 + 1 + 1 + 1; omega), World.cell?_setCell_far _ _ _ _ (by show B + 1 + 1 + 1 + 1 ≠ B + 1 + 1 + 1 + 1 + 1; omega)]; exact h.f0
  c0 := World.cell?_setCell_same _ _ _ ((World.cell?_setCell_far _ _ _ _ (by show B + 1 + 1 + 1 + 1 ≠ B + 1 + 1 + 1 + 1 + 1 + 1; omega)).trans h.c0)
  zr0 := by rw [World.frozen?_setCell, World.frozen?_setCell]; exact h.zr0
  zr1 := by rw [World.frozen?_setCell, World.frozen?_setCell]; exact h.zr1
  zc0 := by rw [World.frozen?_setCell, World.frozen?_setCell]; exact h.zc0
  md := (h.md.set _ _).set _ _
  fs := (h.fs.upd (by rw [hF]; exact h.md) (by omega) v).setCell (by show B + 1 + 1 + 1 + 1 + 1 + 1 ≠ B + 1 + 1 + 1 + 1; omega) _
end

/-- what the region of a round reads -/
def SwS (p : Nat) (b2 o2 cap2 n m B i : Nat) (f1 b1 : Int) (w' : World) : Prop := w'.cell? ⟨B, 0, none⟩ = some (.int .i64 p) ∧ w'.cell? ⟨B + 1, 0, none⟩ = some (.slice (some ⟨b2, o2, none⟩) m cap2) ∧ w'.cell? ⟨B + 1 + 1 + 1 + 1 + 1, 0, none⟩ = some (.slice (some ⟨B + 1 + 1 + 1 + 1, 0, none⟩) n n) ∧ w'.cell? ⟨B + 1 + 1 + 1 + 1, i + 1, none⟩ = some (.int .i64 f1) ∧ w'.cell? ⟨b2, o2 + (i + 1), none⟩ = some (.int .i64 b1)
theorem SwS.put {p b2 o2 cap2 n m B i : Nat} {f1 b1 : Int} {w' : World} (h : SwS p b2 o2 cap2 n m B i f1 b1 w') (hb : b2 < B) (u : Value) : SwS p b2 o2 cap2 n m B i f1 b1 (w'.setCell ⟨B + 1 + 1 + 1 + 1, i, none⟩ u) := by
  obtain ⟨h0, h1, h2, h3, h4⟩ := h
  refine ⟨?_, ?_, ?_, ?_, ?_⟩
  · rw [World.cell?_setCell_far _ _ _ _ (by show B + 1 + 1 + 1 + 1 ≠ B; omega)]; exact h0
  · rw [World.cell?_setCell_far _ _ _ _ (by show B + 1 + 1 + 1 + 1 ≠ B + 1; omega)]; exact h1
  · rw [World.cell?_setCell_far _ _ _ _ (by show B + 1 + 1 + 1 + 1 ≠ B + 1 + 1 + 1 + 1 + 1; omega)]; exact h2
  · rw [World.cell?_setCell_other _ _ _ _ (fun e => by injection e with _ e2; omega)]; exact h3
  · rw [World.cell?_setCell_far _ _ _ _ (by show B + 1 + 1 + 1 + 1 ≠ b2; omega)]; exact h4
theorem SwS.code {p b2 o2 cap2 n m B i : Nat} {f1 b1 : Int} {w' : World} (h : SwS p b2 o2 cap2 n m B i f1 b1 w') (hb : b2 < B) (u : Value) : SwS p b2 o2 cap2 n m B i f1 b1 (w'.setCell ⟨B + 1 + 1 + 1 + 1 + 1 + 1, 0, none⟩ u) := by
  obtain ⟨h0, h1, h2, h3, h4⟩ := h
  refine ⟨?_, ?_, ?_, ?_, ?_⟩
  · rw [World.cell?_setCell_far _ _ _ _ (by show B + 1 + 1 + 1 + 1 + 1 + 1 ≠ B; omega)]; exact h0
  · rw [World.cell?_setCell_far _ _ _ _ (by show B + 1 + 1 + 1 + 1 + 1 + 1 ≠ B + 1; omega)]; exact h1
  · rw [World.cell?_setCell_far _ _ _ _ (by show B + 1 + 1 + 1 + 1 + 1 + 1 ≠ B + 1 + 1 + 1 + 1 + 1; omega)]; exact h2
  · rw [World.cell?_setCell_far _ _ _ _ (by show B + 1 + 1 + 1 + 1 + 1 + 1 ≠ B + 1 + 1 + 1 + 1; omega)]; exact h3
  · rw [World.cell?_setCell_far _ _ _ _ (by show B + 1 + 1 + 1 + 1 + 1 + 1 ≠ b2; omega)]; exact h4

set_option maxRecDepth 100000 in
set_option maxHeartbeats 8000000 in
theorem sumsWithPart_c (lo hi lo2 hi2 : Nat) (a a2 : Option Addr) (cap cap2 : Nat) (z beh : List Int) (hl : z.length ≤ 12) (hz : ∀ x ∈ z, -100 ≤ x ∧ x ≤ 100) (p : Nat) (hp : p ≤ 5) (hb : goodS z.length beh) (w : World) (hr : IRow lo hi w a z) (hh : hi ≤ w.heap.size) (hr2 : IRow lo2 hi2 w a2 beh) (hh2 : hi2 ≤ w.heap.size) :
    Calls Try.prog 46 #[.slice a z.length cap, .int .i64 p, .slice a2 beh.length cap2] w (SwPost (swL z p beh (bwd z z.length (Nat.le_refl _))) w) := by
  obtain ⟨O, hmk, hmade⟩ := make_ints (z.length + 1) (by omega)
  have HM := Lib.hid hmade
  have HR := Lib.hid hr
  have HR2 := Lib.hid hr2
  have HB := Lib.hid hb
  have HZ := Lib.hid hz
  clear hmade hr hr2 hb hz
  refine (callsIn_wide (n := 9)).1 ?_
  refine callsIn_of_wp_marks Try.func46 rfl trivial ?_ rfl
  simp only [Try.ntmps46, List.size_toArray, List.length_cons, List.length_nil, Nat.reduceAdd, Nat.reduceSub, Array.replicate_succ, Array.replicate_zero, List.push_toArray, List.append_toArray, List.nil_append, List.cons_append]
  have k0 : IntKind.i64.wrap ((z.length : Int) + 1) = (z.length : Int) + 1 := IntWalk.i64_in _ (by omega)
  have hmk' : ∀ W : World, (Instr.makeSlice 29 (.int .i64 ((z.length : Int) + 1)) (.int .i64 ((z.length : Int) + 1))).run Try.prog W = .ok (.slice (some ⟨W.heap.size, 0, none⟩) (z.length + 1) (z.length + 1)) (W.alloc O) := fun W => hmk W
  clear hmk
  gi_wp2_with (refine ⟨trivial, ?_⟩; gi_at_call 45; refine (callsIn_wide.2 (backward_c _ _ _ _)).mono ?_; rintro e w' ⟨rfl, rfl⟩)
  obtain ⟨w8, hw8⟩ : ∃ w8 : World, (((((((w.alloc (.cells #[.int .i64 p] 2)).alloc (.cells #[.slice a2 beh.length cap2] 29)).alloc (.cells #[.slice none 0 0] 29)).alloc (.cells #[.int .i64 0] 2)).alloc O).alloc (.cells #[.slice (some ⟨w.heap.size + 1 + 1 + 1 + 1, 0, none⟩) (z.length + 1) (z.length + 1)] 29)).alloc (.cells #[.int .i64 0] 2)).alloc (.cells #[.slice a z.length cap] 29) = w8 := ⟨_, rfl⟩
  have hsz : w8.heap.size = w.heap.size + 1 + 1 + 1 + 1 + 1 + 1 + 1 + 1 := by subst hw8; simp
  have HS : SwI z beh p a2 cap2 w.heap.size (List.replicate (z.length + 1) 0) 0 w8 := by
    obtain ⟨W4, hW4⟩ : ∃ W4 : World, (((w.alloc (.cells #[.int .i64 p] 2)).alloc (.cells #[.slice a2 beh.length cap2] 29)).alloc (.cells #[.slice none 0 0] 29)).alloc (.cells #[.int .i64 0] 2) = W4 := ⟨_, rfl⟩
    have hz4 : W4.heap.size = w.heap.size + 1 + 1 + 1 + 1 := by subst hW4; simp
    have h5 := HM.out W4
    rw [hz4] at h5
    have hB5 : Below (W4.alloc O).heap.size (W4.alloc O) w8 := by subst hw8 hW4; exact below3 _ _ _ _
    have h5s : w.heap.size + 1 + 1 + 1 + 1 < (W4.alloc O).heap.size := by simp; omega
    exact ⟨by omega, by subst hw8 hW4; go_simp, by subst hw8 hW4; go_simp, by subst hw8 hW4; go_simp, by subst hw8 hW4; go_simp, by subst hw8; go_simp, by subst hw8; go_simp, by subst hw8 hW4; go_simp, by subst hw8 hW4; go_simp, by subst hw8; go_simp, h5.1.below hB5 h5s, h5.2.below hB5 h5s⟩
  have HB8 : Below w.heap.size w w8 := by
    subst hw8
    repeat' (first | with_reducible exact Below.refl _ _ | (refine Below.alloc ?_ (by (try simp only [World.size_alloc]); omega) _))
  have hlist : w8.cell? ⟨w.heap.size + 1 + 1 + 1 + 1 + 1 + 1 + 1, 0, none⟩ = some (.slice a z.length cap) := by subst hw8; go_simp
  rw [hw8]
  clear hw8 hmk' HM
  refine wpIn_rangeFunc_ownF rfl (by omega) (gf := 65) (lb := #[.pointer (some ⟨w.heap.size + 1 + 1 + 1 + 1 + 1 + 1 + 1, 0, none⟩)]) rfl trivial (enters_of Try.func65 (by kernel_rfl) rfl)
    (backward_stops Fence.wide 8 trivial rfl (by omega) (w.heap.size + 1 + 1 + 1 + 1 + 1 + 1 + 1) w.heap.size lo hi a cap z (by omega) w8 (by omega) (by omega) hh hlist (HR.out.below HB8 hh)) kpB_t (kpB_b (by omega)) (Below.refl _ _) (fun _ => rfl)
    (fun pre W => (∃ F, swL z p beh pre = some F ∧ SwI z beh p a2 cap2 w.heap.size F 0 W) ∧ Below w.heap.size w W)
    (fun c pre W => (c = .ret ∧ swL z p beh pre = none ∧ W.cell? ⟨w.heap.size + 1 + 1, 0, none⟩ = some (.slice none 0 0) ∧ W.cell? ⟨w.heap.size + 1 + 1 + 1, 0, none⟩ = some (.int .i64 3)) ∧ Below w.heap.size w W)
    (OwnFrom.and (Own.from (fun s A B row hs hg hr => by obtain ⟨F, h1, h2⟩ := hs; exact ⟨F, h1, h2.kept hg hr⟩) _) (ownFrom_below (Nat.le_refl _) (by omega)))
    (fun c => OwnFrom.and (Own.from (fun s A B row hs hg hr => ⟨hs.1, hs.2.1, cell_kept hs.2.2.1 hg hr, cell_kept hs.2.2.2 hg hr⟩) _) (ownFrom_below (Nat.le_refl _) (by omega)))
    ⟨⟨_, rfl, HS⟩, HB8⟩
    (fun x => { tmps := #[.slice a z.length cap, .int .i64 p, .slice a2 beh.length cap2, undef, .pointer (some ⟨w.heap.size, 0, none⟩), .pointer (some ⟨w.heap.size + 1, 0, none⟩), .pointer (some ⟨w.heap.size + 1 + 1, 0, none⟩), .pointer (some ⟨w.heap.size + 1 + 1 + 1, 0, none⟩), .pointer (some ⟨w.heap.size + 1 + 1 + 1 + 1 + 1, 0, none⟩), .pointer (some ⟨w.heap.size + 1 + 1 + 1 + 1 + 1 + 1, 0, none⟩), .int .i64 (x.1.1 : Int), .int .i64 x.1.2, .slice a z.length cap, .int .i64 z.length, .int .i64 ((z.length : Int) + 1), .slice (some ⟨w.heap.size + 1 + 1 + 1 + 1, 0, none⟩) (z.length + 1) (z.length + 1), .slice a z.length cap, .func (.func 65) #[] #[.pointer (some ⟨w.heap.size + 1 + 1 + 1 + 1 + 1 + 1 + 1, 0, none⟩)], .int .i64 (x.1.1 : Int), .int .i64 x.1.2, undef, undef, undef, undef, undef, undef, undef, undef, undef, undef, undef, undef, undef, undef, undef, undef, undef, undef, undef, undef, undef, undef, undef, undef], defers := [] }) ?assign ?body ?done ?stop
  case assign =>
    intro l x W K hK
    simp only [encP]
    gi_wp2
    exact hK
  case body =>
    rintro l pre ⟨⟨i, x⟩, hi, hx⟩ W ⟨⟨F, hF, hI⟩, hBW⟩ _
    simp only at hi hx
    have hgF := swL_good hF
    have hlen := hgF.1
    have hbl := HB.out.1
    have hxz := HZ.out x (by rw [← hx]; exact List.getElem_mem hi)
    have hf1 := hgF.get (i + 1)
    have hb1 := HB.out.get (i + 1)
    have hy := ipow_bd hxz hp
    rcases (HR2.out.below hBW hh2) with h0 | ⟨b2, o2, rfl, hb20, hb21, hb22⟩
    · rw [h0] at hbl; simp at hbl
    have c2 := hb22 (i + 1) (by omega)
    have c1 := hI.fs (i + 1) (by omega)
    rw [Nat.zero_add] at c1
    have g1 : F.getD (i + 1) 0 = F[i + 1]'(by omega) := by simp [List.getD, show i + 1 < F.length by omega]
    have g2 : beh.getD (i + 1) 0 = beh[i + 1]'(by omega) := by simp [List.getD, show i + 1 < beh.length by omega]
    have hst := swL_snoc (z := z) (p := p) (beh := beh) pre ⟨(i, x), hi, hx⟩
    rw [hF] at hst
    simp only [Option.bind_some, swF] at hst
    rw [← g1] at c1
    rw [← g2] at c2
    obtain ⟨f1, e1⟩ : ∃ f1, F.getD (i + 1) 0 = f1 := ⟨_, rfl⟩
    obtain ⟨b1, e2⟩ : ∃ b1, beh.getD (i + 1) 0 = b1 := ⟨_, rfl⟩
    have HPw := Lib.hid (fun W => powerOf_c x hxz p hp W)
    obtain ⟨y, e3⟩ : ∃ y, x ^ p = y := ⟨_, rfl⟩
    rw [e1] at c1 hf1 hst
    rw [e2] at c2 hb1 hst
    rw [e3] at hy HPw hst
    have HAd := Lib.hid (fun W => addWithinLimit_c f1 y b1 hf1 hy hb1 W)
    have HI := Lib.hid hI
    have q0 := hI.p0
    have q1 := hI.b0
    have q2 := hI.f0
    have hszW := hI.sz
    have k1 : IntKind.i64.wrap ((i : Int) + 1) = (i : Int) + 1 := IntWalk.i64_in _ (by omega)
    have n0 : (0 : Int) ≤ (i : Int) + 1 := by omega
    have n1 : (i : Int) + 1 < (z.length : Int) + 1 := by omega
    have n2 : (i : Int) + 1 < (beh.length : Int) := by omega
    have n3 : (0 : Int) ≤ (i : Int) := by omega
    have n4 : (i : Int) < (z.length : Int) + 1 := by omega
    have n5 : ((i : Int) + 1).toNat = i + 1 := by omega
    have hmx : Try.prog.follows .mixedOrders = true := by kernel_rfl
    obtain ⟨v, cd, hv1, hv2⟩ : ∃ v cd : Int, sumP (addW f1 y b1) = .tuple #[.int .i64 v, .int .i64 cd] ∧ ((addW f1 y b1 = none ∧ cd = 3) ∨ (addW f1 y b1 = some v ∧ cd = 0)) := by
      cases addW f1 y b1 with
      | none => exact ⟨0, 3, rfl, .inl ⟨rfl, rfl⟩⟩
      | some v => exact ⟨v, 0, rfl, .inr ⟨rfl, rfl⟩⟩
    rw [hv1] at HAd
    have HSt := Lib.hid hst
    have HV2 := Lib.hid hv2
    have HLn := Lib.hid hlen
    clear hst hgF hlen hbl hf1 hb1 hy e1 e2 e3 g1 g2 hb22 hI hv1 hv2
    gi_wp2
    refine wpIn_region_round (S := SwS p b2 o2 cap2 (z.length + 1) beh.length w.heap.size i f1 b1) hmx (by kernel_rfl) (fun ⟨_, _, h⟩ => h) ⟨q0, q1, q2, c1, c2⟩ (fun hHeld => ?_)
    refine wpAnyH_take (i := 0) (v := ?_) rfl (by kernel_rfl) (by kernel_rfl) (by kernel_rfl) (fun _ _ _ h => h) (Or.inl ⟨by rfl, ?_⟩) (by assumption) ?_
    rotate_left
    · (intro w0 hSw; obtain ⟨s0, s1, s2, s3, s4⟩ := hSw; go_simp; (try with_reducible rfl))
    simp only [Act.put, List.setIfInBounds_toArray, List.set_cons_zero, List.set_cons_succ, List.getElem_toArray, List.getElem_cons_zero]
    refine wpAnyH_take (i := 1) (v := ?_) rfl (by kernel_rfl) (by kernel_rfl) (by kernel_rfl) (fun _ _ _ h => h) (Or.inl ⟨by rfl, ?_⟩) (by assumption) ?_
    rotate_left
    · (intro w0 hSw; obtain ⟨s0, s1, s2, s3, s4⟩ := hSw; go_simp; (try with_reducible rfl))
    simp only [Act.put, List.setIfInBounds_toArray, List.set_cons_zero, List.set_cons_succ, List.getElem_toArray, List.getElem_cons_zero, List.getElem_cons_succ]
    refine wpAnyH_take (i := 2) (v := ?_) rfl (by kernel_rfl) (by kernel_rfl) (by kernel_rfl) (fun _ _ _ h => h) (Or.inl ⟨by rfl, ?_⟩) (by assumption) ?_
    rotate_left
    · (intro w0 hSw; obtain ⟨s0, s1, s2, s3, s4⟩ := hSw; go_simp; (try with_reducible rfl))
    simp only [Act.put, List.setIfInBounds_toArray, List.set_cons_zero, List.set_cons_succ, List.getElem_toArray, List.getElem_cons_zero, List.getElem_cons_succ]
    refine wpAnyH_take (i := 3) (v := ?_) rfl (by kernel_rfl) (by kernel_rfl) (by kernel_rfl) (fun _ _ _ h => h) (Or.inl ⟨by rfl, ?_⟩) (by assumption) ?_
    rotate_left
    · (intro w0 hSw; obtain ⟨s0, s1, s2, s3, s4⟩ := hSw; go_simp; (try with_reducible rfl))
    simp only [Act.put, List.setIfInBounds_toArray, List.set_cons_zero, List.set_cons_succ, List.getElem_toArray, List.getElem_cons_zero, List.getElem_cons_succ]
    refine wpAnyH_take (i := 4) (v := ?_) rfl (by kernel_rfl) (by kernel_rfl) (by kernel_rfl) (fun _ _ _ h => h) (Or.inl ⟨by rfl, ?_⟩) (by assumption) ?_
    rotate_left
    · (intro w0 hSw; obtain ⟨s0, s1, s2, s3, s4⟩ := hSw; go_simp; (try with_reducible rfl))
    simp only [Act.put, List.setIfInBounds_toArray, List.set_cons_zero, List.set_cons_succ, List.getElem_toArray, List.getElem_cons_zero, List.getElem_cons_succ]
    refine wpAnyH_take (i := 5) (v := ?_) rfl (by kernel_rfl) (by kernel_rfl) (by kernel_rfl) (fun _ _ _ h => h) (Or.inl ⟨by rfl, ?_⟩) (by assumption) ?_
    rotate_left
    · (intro w0 hSw; obtain ⟨s0, s1, s2, s3, s4⟩ := hSw; go_simp; (try with_reducible rfl))
    simp only [Act.put, List.setIfInBounds_toArray, List.set_cons_zero, List.set_cons_succ, List.getElem_toArray, List.getElem_cons_zero, List.getElem_cons_succ]
    refine wpAnyH_take (i := 6) (v := ?_) rfl (by kernel_rfl) (by kernel_rfl) (by kernel_rfl) (fun _ _ _ h => h) (Or.inl ⟨by rfl, ?_⟩) (by assumption) ?_
    rotate_left
    · (intro w0 hSw; obtain ⟨s0, s1, s2, s3, s4⟩ := hSw; go_simp; (try with_reducible rfl))
    simp only [Act.put, List.setIfInBounds_toArray, List.set_cons_zero, List.set_cons_succ, List.getElem_toArray, List.getElem_cons_zero, List.getElem_cons_succ]
    refine wpAnyH_take (i := 7) (v := ?_) rfl (by kernel_rfl) (by kernel_rfl) (by kernel_rfl) (fun _ _ _ h => h) (Or.inl ⟨by rfl, ?_⟩) (by assumption) ?_
    rotate_left
    · (intro w0 hSw; obtain ⟨s0, s1, s2, s3, s4⟩ := hSw; go_simp; (try with_reducible rfl))
    simp only [Act.put, List.setIfInBounds_toArray, List.set_cons_zero, List.set_cons_succ, List.getElem_toArray, List.getElem_cons_zero, List.getElem_cons_succ]
    refine wpAnyH_take (i := 8) (v := ?_) rfl (by kernel_rfl) (by kernel_rfl) (by kernel_rfl) (fun _ _ _ h => h) (Or.inl ⟨by rfl, ?_⟩) (by assumption) ?_
    rotate_left
    · (intro w0 hSw; obtain ⟨s0, s1, s2, s3, s4⟩ := hSw; go_simp; (try with_reducible rfl))
    simp only [Act.put, List.setIfInBounds_toArray, List.set_cons_zero, List.set_cons_succ, List.getElem_toArray, List.getElem_cons_zero, List.getElem_cons_succ]
    refine wpAnyH_take (i := 10) (v := ?_) rfl (by kernel_rfl) (by kernel_rfl) (by kernel_rfl) (fun _ _ _ h => h) (Or.inl ⟨by rfl, ?_⟩) (by assumption) ?_
    rotate_left
    · (intro w0 hSw; obtain ⟨s0, s1, s2, s3, s4⟩ := hSw; go_simp; (try with_reducible rfl))
    simp only [Act.put, List.setIfInBounds_toArray, List.set_cons_zero, List.set_cons_succ, List.getElem_toArray, List.getElem_cons_zero, List.getElem_cons_succ]
    refine wpAnyH_take (i := 11) (v := ?_) rfl (by kernel_rfl) (by kernel_rfl) (by kernel_rfl) (fun _ _ _ h => h) (Or.inl ⟨by rfl, ?_⟩) (by assumption) ?_
    rotate_left
    · (intro w0 hSw; obtain ⟨s0, s1, s2, s3, s4⟩ := hSw; go_simp; (try with_reducible rfl))
    simp only [Act.put, List.setIfInBounds_toArray, List.set_cons_zero, List.set_cons_succ, List.getElem_toArray, List.getElem_cons_zero, List.getElem_cons_succ]
    refine wpAnyH_take (i := 12) (v := ?_) rfl (by kernel_rfl) (by kernel_rfl) (by kernel_rfl) (fun _ _ _ h => h) (Or.inl ⟨by rfl, ?_⟩) (by assumption) ?_
    rotate_left
    · (intro w0 hSw; obtain ⟨s0, s1, s2, s3, s4⟩ := hSw; go_simp; (try with_reducible rfl))
    simp only [Act.put, List.setIfInBounds_toArray, List.set_cons_zero, List.set_cons_succ, List.getElem_toArray, List.getElem_cons_zero, List.getElem_cons_succ]
    refine wpAnyH_take (i := 13) (v := ?_) rfl (by kernel_rfl) (by kernel_rfl) (by kernel_rfl) (fun _ _ _ h => h) (Or.inl ⟨by rfl, ?_⟩) (by assumption) ?_
    rotate_left
    · (intro w0 hSw; obtain ⟨s0, s1, s2, s3, s4⟩ := hSw; go_simp; (try with_reducible rfl))
    simp only [Act.put, List.setIfInBounds_toArray, List.set_cons_zero, List.set_cons_succ, List.getElem_toArray, List.getElem_cons_zero, List.getElem_cons_succ]
    refine wpAnyH_take (i := 14) (v := ?_) rfl (by kernel_rfl) (by kernel_rfl) (by kernel_rfl) (fun _ _ _ h => h) (Or.inl ⟨by rfl, ?_⟩) (by assumption) ?_
    rotate_left
    · (intro w0 hSw; obtain ⟨s0, s1, s2, s3, s4⟩ := hSw; go_simp; (try with_reducible rfl))
    simp only [Act.put, List.setIfInBounds_toArray, List.set_cons_zero, List.set_cons_succ, List.getElem_toArray, List.getElem_cons_zero, List.getElem_cons_succ]
    refine wpAnyH_ready (rs := [9]) (by kernel_rfl) (by simp) ?_
    refine AllReadyH.cons rfl (fun K hK => ?_) AllReadyH.nil
    go_simp
    go_at_call 67
    refine (HPw.out _).mono ?_
    rintro e w5 ⟨rfl, rfl⟩
    refine hK.out _ _ hHeld (fun _ => ?_)
    clear hK K
    (try simp only [Act.put, List.setIfInBounds_toArray, List.set_cons_zero, List.set_cons_succ, List.getElem_toArray, List.getElem_cons_zero, List.getElem_cons_succ])
    refine wpAnyH_ready (rs := [15]) (by kernel_rfl) (by simp) ?_
    refine AllReadyH.cons rfl (fun K hK => ?_) AllReadyH.nil
    go_simp
    go_at_call 66
    refine (HAd.out _).mono ?_
    rintro e w5 ⟨rfl, hb5⟩
    have hbW : Below W.heap.size W w5 := ⟨hb5.os, hb5.tape, hb5.output, hb5.size, hb5.block⟩
    have hI5 := HI.out.below hbW
    have hs5 : SwS p b2 o2 cap2 (z.length + 1) beh.length w.heap.size i f1 b1 w5 :=
      ⟨hI5.p0, hI5.b0, hI5.f0, (hbW.cell (p := ⟨w.heap.size + 1 + 1 + 1 + 1, i + 1, none⟩) (by show w.heap.size + 1 + 1 + 1 + 1 < _; omega)).trans c1, (hbW.cell (p := ⟨b2, o2 + (i + 1), none⟩) (by show b2 < _; omega)).trans c2⟩
    refine hK.out _ _ hs5 (fun _ => ?_)
    clear hK K
    (try simp only [Act.put, List.setIfInBounds_toArray, List.set_cons_zero, List.set_cons_succ, List.getElem_toArray, List.getElem_cons_zero, List.getElem_cons_succ])
    refine wpAnyH_take (i := 16) (v := ?_) rfl (by kernel_rfl) (by kernel_rfl) (by kernel_rfl) (fun _ _ _ h => h) (Or.inl ⟨by rfl, ?_⟩) (by assumption) ?_
    rotate_left
    · (intro w0 hSw; obtain ⟨s0, s1, s2, s3, s4⟩ := hSw; go_simp; (try with_reducible rfl))
    simp only [Act.put, List.setIfInBounds_toArray, List.set_cons_zero, List.set_cons_succ, List.getElem_toArray, List.getElem_cons_zero, List.getElem_cons_succ]
    refine wpAnyH_take (i := 17) (v := ?_) rfl (by kernel_rfl) (by kernel_rfl) (by kernel_rfl) (fun _ _ _ h => h) (Or.inl ⟨by rfl, ?_⟩) (by assumption) ?_
    rotate_left
    · (intro w0 hSw; obtain ⟨s0, s1, s2, s3, s4⟩ := hSw; go_simp; (try with_reducible rfl))
    simp only [Act.put, List.setIfInBounds_toArray, List.set_cons_zero, List.set_cons_succ, List.getElem_toArray, List.getElem_cons_zero, List.getElem_cons_succ]
    refine wpAnyH_take (i := 18) (v := ?_) rfl (by kernel_rfl) (by kernel_rfl) (by kernel_rfl) (fun _ _ _ h => h) (Or.inl ⟨by rfl, ?_⟩) (by assumption) ?_
    rotate_left
    · (intro w0 hSw; obtain ⟨s0, s1, s2, s3, s4⟩ := hSw; go_simp; (try with_reducible rfl))
    simp only [Act.put, List.setIfInBounds_toArray, List.set_cons_zero, List.set_cons_succ, List.getElem_toArray, List.getElem_cons_zero, List.getElem_cons_succ]
    refine wpAnyH_take (i := 19) (v := ?_) rfl (by kernel_rfl) (by kernel_rfl) (by kernel_rfl) (fun _ _ _ h => h) (Or.inl ⟨by rfl, ?_⟩) (by assumption) ?_
    rotate_left
    · (intro w0 hSw; obtain ⟨s0, s1, s2, s3, s4⟩ := hSw; go_simp; (try with_reducible rfl))
    simp only [Act.put, List.setIfInBounds_toArray, List.set_cons_zero, List.set_cons_succ, List.getElem_toArray, List.getElem_cons_zero, List.getElem_cons_succ]
    obtain ⟨⟨v0, m0⟩, z0⟩ := hI5.md.2 i (by omega)
    have u0 := hI5.c0
    have u1 := hI5.zc0
    refine wpAnyH_ready (rs := [20]) (by kernel_rfl) (by simp) ?_
    refine AllReadyH.cons rfl (fun K hK => ?_) AllReadyH.nil
    go_simp
    refine hK.out _ _ (hs5.put (by omega) _) (fun hs6 => ?_)
    clear hK K
    refine wpAnyH_ready (rs := [21]) (by kernel_rfl) (by simp) ?_
    refine AllReadyH.cons rfl (fun K hK => ?_) AllReadyH.nil
    go_simp
    refine hK.out _ _ (hs6.code (by omega) _) (fun hs7 => ?_)
    clear hK K
    refine wpAnyH_done (by kernel_rfl) ?_ _
    have hI7 := hI5.put HLn.out (show i < z.length + 1 by omega) v cd
    have hK7 : KeepsOthers W ((w5.setCell ⟨w.heap.size + 1 + 1 + 1 + 1, i, none⟩ (.int .i64 v)).setCell ⟨w.heap.size + 1 + 1 + 1 + 1 + 1 + 1, 0, none⟩ (.int .i64 cd)) := ((keeps_below hbW).trans (KeepsOthers.setCell _ _ _)).trans (KeepsOthers.setCell _ _ _)
    have hB7 : Below w.heap.size W ((w5.setCell ⟨w.heap.size + 1 + 1 + 1 + 1, i, none⟩ (.int .i64 v)).setCell ⟨w.heap.size + 1 + 1 + 1 + 1 + 1 + 1, 0, none⟩ (.int .i64 cd)) := ((hbW.mono (by omega)).setCell (p := ⟨w.heap.size + 1 + 1 + 1 + 1, i, none⟩) (by show _ ≤ w.heap.size + 1 + 1 + 1 + 1; omega) _).setCell (p := ⟨w.heap.size + 1 + 1 + 1 + 1 + 1 + 1, 0, none⟩) (by show _ ≤ w.heap.size + 1 + 1 + 1 + 1 + 1 + 1; omega) _
    have hX7 : ∀ u, W.cell? ⟨w.heap.size + 1 + 1 + 1 + 1 + 1 + 1 + 1, 0, none⟩ = some u → ((w5.setCell ⟨w.heap.size + 1 + 1 + 1 + 1, i, none⟩ (.int .i64 v)).setCell ⟨w.heap.size + 1 + 1 + 1 + 1 + 1 + 1, 0, none⟩ (.int .i64 cd)).cell? ⟨w.heap.size + 1 + 1 + 1 + 1 + 1 + 1 + 1, 0, none⟩ = some u := fun u hu => by
      rw [World.cell?_setCell_far _ _ _ _ (by show w.heap.size + 1 + 1 + 1 + 1 + 1 + 1 ≠ w.heap.size + 1 + 1 + 1 + 1 + 1 + 1 + 1; omega), World.cell?_setCell_far _ _ _ _ (by show w.heap.size + 1 + 1 + 1 + 1 ≠ w.heap.size + 1 + 1 + 1 + 1 + 1 + 1 + 1; omega)]
      exact (hbW.cell (p := ⟨w.heap.size + 1 + 1 + 1 + 1 + 1 + 1 + 1, 0, none⟩) (by show w.heap.size + 1 + 1 + 1 + 1 + 1 + 1 + 1 < _; omega)).trans hu
    obtain ⟨w7, hw7⟩ : ∃ w7, (w5.setCell ⟨w.heap.size + 1 + 1 + 1 + 1, i, none⟩ (.int .i64 v)).setCell ⟨w.heap.size + 1 + 1 + 1 + 1 + 1 + 1, 0, none⟩ (.int .i64 cd) = w7 := ⟨_, rfl⟩
    rw [hw7] at hI7 hK7 hB7 hX7 ⊢
    have HI7 := Lib.hid hI7
    have t0 := hI7.c0
    have t1 := hI7.r0
    have t2 := hI7.r1
    have y1 := hI7.zr0
    have y2 := hI7.zr1
    clear hw7 hI7 hI5 hs5 hs6 hs7 m0 z0 u0 u1 hHeld q0 q1 q2 c1 c2 hbW hb5
    rcases HV2.out with ⟨ha, rfl⟩ | ⟨ha, rfl⟩
    · have HN : Hid (swL z p beh (pre ++ [⟨(i, x), hi, hx⟩]) = none) := Lib.hid (by rw [HSt.out, ha]; rfl)
      clear ha
      gi_wp2
      gi_region_with_o fail
      all_goals gi_wp2
      all_goals
        refine ⟨((hK7.trans (KeepsOthers.setCell _ _ _)).trans (KeepsOthers.setCell _ _ _)).trans (KeepsOthers.drew _), ⟨rfl, HN.out, ?_, ?_⟩, Below.drew (((hBW.trans hB7).setCell (p := ⟨w.heap.size + 1 + 1, 0, none⟩) (by show _ ≤ w.heap.size + 1 + 1; omega) _).setCell (p := ⟨w.heap.size + 1 + 1 + 1, 0, none⟩) (by show _ ≤ w.heap.size + 1 + 1 + 1; omega) _)⟩
        · rw [cell_drew_own, World.cell?_setCell_far _ _ _ _ (by show w.heap.size + 1 + 1 + 1 ≠ w.heap.size + 1 + 1; omega)]
          exact World.cell?_setCell_same _ _ _ t1
        · rw [cell_drew_own]
          exact World.cell?_setCell_same _ _ _ ((World.cell?_setCell_far _ _ _ _ (by show w.heap.size + 1 + 1 ≠ w.heap.size + 1 + 1 + 1; omega)).trans t2)
    · have HN : Hid (swL z p beh (pre ++ [⟨(i, x), hi, hx⟩]) = some (F.set i v)) := Lib.hid (by rw [HSt.out, ha]; rfl)
      clear ha
      gi_wp2
      exact ⟨hK7, ⟨hB7, hX7⟩, ⟨_, HN.out, HI7.out⟩, hBW.trans hB7⟩
  case done =>
    rintro D ys W hD rfl ⟨⟨F, hF, hI⟩, hBW⟩ hK
    have HF := Lib.hid hF
    have HI := Lib.hid hI
    have HBW := Lib.hid hBW
    have t0 := hI.f0
    have t1 := hI.r0
    have t2 := hI.r1
    have y1 := hI.zr0
    have y2 := hI.zr1
    clear hF hI hBW
    gi_wp2
    have hsB : w.heap.size + 8 ≤ W.heap.size := HI.out.sz
    have hlF := (swL_good HF.out).1
    obtain ⟨W2, hW2⟩ : ∃ W2, (W.setCell ⟨w.heap.size + 1 + 1, 0, none⟩ (.slice (some ⟨w.heap.size + 1 + 1 + 1 + 1, 0, none⟩) (z.length + 1) (z.length + 1))).setCell ⟨w.heap.size + 1 + 1 + 1, 0, none⟩ (.int .i64 0) = W2 := ⟨_, rfl⟩
    have hK2 : W2.heap[D]? = some (.deferred (some [])) := by
      rw [← hW2]
      exact (KeepsOthers.setCell _ _ _).same D _ ((KeepsOthers.setCell _ _ _).same D _ hK rfl) rfl
    have d0 : W2.cell? ⟨w.heap.size + 1 + 1, 0, none⟩ = some (.slice (some ⟨w.heap.size + 1 + 1 + 1 + 1, 0, none⟩) (z.length + 1) (z.length + 1)) := by
      rw [← hW2, World.cell?_setCell_far _ _ _ _ (by show w.heap.size + 1 + 1 + 1 ≠ w.heap.size + 1 + 1; omega)]
      exact World.cell?_setCell_same _ _ _ t1
    have d1 : W2.cell? ⟨w.heap.size + 1 + 1 + 1, 0, none⟩ = some (.int .i64 0) := by
      rw [← hW2]
      exact World.cell?_setCell_same _ _ _ ((World.cell?_setCell_far _ _ _ _ (by show w.heap.size + 1 + 1 ≠ w.heap.size + 1 + 1 + 1; omega)).trans t2)
    have hB2 : Below w.heap.size w W2 := by
      rw [← hW2]
      exact (HBW.out.setCell (p := ⟨w.heap.size + 1 + 1, 0, none⟩) (by show _ ≤ w.heap.size + 1 + 1; omega) _).setCell (p := ⟨w.heap.size + 1 + 1 + 1, 0, none⟩) (by show _ ≤ w.heap.size + 1 + 1 + 1; omega) _
    have hM2 : Made W2 (w.heap.size + 1 + 1 + 1 + 1) (z.length + 1) := by
      rw [← hW2]
      exact (HI.out.md.set _ _).set _ _
    have hF2 : IntsIn W2 (w.heap.size + 1 + 1 + 1 + 1) 0 F := by
      rw [← hW2]
      exact (HI.out.fs.setCell (by show w.heap.size + 1 + 1 ≠ w.heap.size + 1 + 1 + 1 + 1; omega) _).setCell (by show w.heap.size + 1 + 1 + 1 ≠ w.heap.size + 1 + 1 + 1 + 1; omega) _
    rw [hW2]
    clear hW2
    have hrow : ∀ r, some D = some r → ∃ o : Obj, W2.heap[r]? = some o ∧ o.isCells = false := fun r e => by cases e; exact ⟨_, hK2, rfl⟩
    have c0 := cell_kept d0 (grownBy_putObj' W2 D (.deferred none)) hrow
    have c1 := cell_kept d1 (grownBy_putObj' W2 D (.deferred none)) hrow
    refine ⟨by simp, .inl ⟨_, _, rfl, run_takeDeferred hK2, ?_⟩⟩
    refine ⟨.tuple #[.slice (some ⟨w.heap.size + 1 + 1 + 1 + 1, 0, none⟩) (z.length + 1) (z.length + 1), .int .i64 0], by simp [results, Try.results46, go_sem, c0, c1], ?_⟩
    rw [HF.out, ← hlF]
    rw [← hlF] at hM2
    exact ⟨_, rfl, hB2.trans (belowK_b (w := w) (Nat.le_refl _) W2 D _ _ (by omega) hK2 rfl rfl), by omega, made_kept hM2 (grownBy_putObj' W2 D (.deferred none)) hrow, fun i hi => cell_kept (hF2 i hi) (grownBy_putObj' W2 D (.deferred none)) hrow⟩
  case stop =>
    rintro D c pre W hD ⟨k, hk, rfl⟩ ⟨⟨rfl, hn, h0, h1⟩, hBW⟩ hK
    have HN := Lib.hid (swL_stop hk hn)
    clear hn
    gi_wp2
    have hrow : ∀ r, some D = some r → ∃ o : Obj, W.heap[r]? = some o ∧ o.isCells = false := fun r e => by cases e; exact ⟨_, hK, rfl⟩
    have c0 := cell_kept h0 (grownBy_putObj' W D (.deferred none)) hrow
    have c1 := cell_kept h1 (grownBy_putObj' W D (.deferred none)) hrow
    refine ⟨by simp, .inl ⟨_, _, rfl, run_takeDeferred hK, ?_⟩⟩
    refine ⟨.tuple #[.slice none 0 0, .int .i64 3], by simp [results, Try.results46, go_sem, c0, c1], ?_⟩
    rw [HN.out]
    exact ⟨rfl, hBW.trans (belowK_b (w := w) (Nat.le_refl _) W D _ _ (by omega) hK rfl rfl)⟩
end Go.Proofs.Ytncodnjnndjjaaa
