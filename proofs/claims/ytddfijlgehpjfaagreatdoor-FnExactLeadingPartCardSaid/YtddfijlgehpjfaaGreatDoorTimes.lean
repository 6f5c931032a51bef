/-
  The model's product of two series: word by word, cut by cut; it is made, or a fraction does not fit.
-/
import Derived.Test.YtddfijlgehpjfaaGreatDoorPrM
import Derived.Test.YtddfijlgehpjfaaGreatDoorAddP
import Derived.Test.YtddfijlgehpjfaaGreatDoorUnitS
import Derived.Test.YtddfijlgehpjfaaGreatDoorProd
import Derived.Deep.RegionHeld3
namespace Go.Proofs.YtddfijlgehpjfaaGreatDoor
open Go.RowKit

theorem zero_named {p q : Int} {o : Bool} (h : (p == 0) = o) (w : World) : Calls Tryz.prog 67 #[.agg #[.int .i64 p, .int .i64 q]] w fun e w' => e = .returned (.bool o) ∧ Below w.heap.size w w' := by
  subst h; exact l01Zero_c p q w
theorem plus_named {a b c d x y : Int} {o : Bool} (hx : fN (a * d + c * b) (b * d) = x) (hy : fD (a * d + c * b) (b * d) = y) (ho : fOk (a * d + c * b) (b * d) = o) (ha : a.natAbs ≤ 1000000000) (hb : b.natAbs ≤ 1000000000) (hc : c.natAbs ≤ 1000000000) (hd : d.natAbs ≤ 1000000000) (w : World) :
    Calls Tryz.prog 66 #[.agg #[.int .i64 a, .int .i64 b], .agg #[.int .i64 c, .int .i64 d]] w fun e w' => e = .returned (.tuple #[.agg #[.int .i64 x, .int .i64 y], .bool o]) ∧ Below w.heap.size w w' := by
  subst hx hy ho; exact l01Plus_c a b c d ha hb hc hd w
/-- a variable that holds a fraction -/
def Bx (w : World) (g : Nat) (a b : Int) : Prop := g < w.heap.size ∧ w.cell? ⟨g, 0, none⟩ = some (.int .i64 a) ∧ w.cell? ⟨g, 1, none⟩ = some (.int .i64 b)
theorem Bx.below {w w' : World} {B g : Nat} {a b : Int} (h : Bx w g a b) (hb : Below B w w') (hg : g < B) : Bx w' g a b :=
  ⟨Nat.lt_of_lt_of_le h.1 hb.size, (hb.cell (p := ⟨g, 0, none⟩) hg).trans h.2.1, (hb.cell (p := ⟨g, 1, none⟩) hg).trans h.2.2⟩
def TwoCut (wr : World) (p q p' q' : Int) (v12 v13 : Value) (wy : World) : Prop :=
  ∃ gA gB : Nat, v12 = .pointer (some ⟨gA, 0, none⟩) ∧ v13 = .pointer (some ⟨gB, 0, none⟩) ∧ Below wr.heap.size wr wy ∧ Bx wy gA p q ∧ Bx wy gB p' q'
/-- what the product of two series' terms comes to -/
def prodL (f g : VF) (ws : List ByteArray) : Option (List Tm) := if prodOk f g ws = true then some (termsOf (prodF f g) ws) else none
theorem prodL_V (f g : VF) (ws : List ByteArray) : prodL f g ws = (prodV f g ws).map fun h => termsOf h ws := by
  cases hp : prodOk f g ws with
  | false => rw [prodV_none hp]; unfold prodL; rw [hp]; rfl
  | true =>
    rw [prodV_some hp]
    unfold prodL
    rw [hp, if_pos rfl]
    show _ = some (termsOf (onL ws (prodF f g)) ws)
    rw [termsOf_onL _ _ _ (fun s hs => hs)]
theorem termsOf_len (f : VF) (ws : List ByteArray) : (termsOf f ws).length ≤ ws.length := List.length_filterMap_le _ _
/-- where the product stands: these words are done -/
def TRel (f g : VF) (done : List ByteArray) (B n : Nat) (x y : Value) (W : World) (gw : Nat) (wr : World) : Prop :=
  prodOk f g done = true ∧ ∃ (a : Option Addr) (l c : Nat), l = (termsOf (prodF f g) done).length ∧ OwnT wr B (.slice a l c) (termsOf (prodF f g) done) ∧ (Value.slice a l c).ownBlock ≠ some n ∧ (Value.slice a l c).ownBlock ≠ some gw ∧ Blk wr n 25 #[x, y, .slice a l c] ∧ Below B W wr
theorem upto_snoc (D k i : Nat) (hi : i < (wordsL D k).length) : upto D k ++ (wordsL D k).take (i + 1) = (upto D k ++ (wordsL D k).take i) ++ [(wordsL D k)[i]] := by
  rw [List.take_succ_eq_append_getElem hi, List.append_assoc]
theorem prodOk_one {f g : VF} {ws : List ByteArray} {s : ByteArray} {p : Int × Int} (h : prodOk f g ws = true) (hp : prodAt f g s = some p) : prodOk f g (ws ++ [s]) = true := by
  rw [prodOk_append, h]
  simp [prodOk, hp]
theorem termsOf_one {f g : VF} {ws : List ByteArray} {s : ByteArray} {p : Int × Int} (hp : prodAt f g s = some p) : termsOf (prodF f g) (ws ++ [s]) = termsOf (prodF f g) ws ++ (match nzF p with | none => [] | some q => [⟨s, q.1, q.2⟩]) := by
  rw [termsOf_app]
  congr 1
  have h := termsOf_cons' (prodF f g) s []
  rw [h, prodF_some hp]
  cases nzF p <;> rfl
theorem TRel.step {f g : VF} {done done' : List ByteArray} {B n gw : Nat} {x y : Value} {W wr w2 : World} {lv cv gg cg : Nat} {av : Option Addr} (t : Tm) (hok : prodOk f g done' = true) (hF : termsOf (prodF f g) done' = termsOf (prodF f g) done ++ [t])
    (hl : lv = (termsOf (prodF f g) done).length) (hO : OwnT wr B (.slice av lv cv) (termsOf (prodF f g) done)) (hn : (Value.slice av lv cv).ownBlock ≠ some n) (hnw : (Value.slice av lv cv).ownBlock ≠ some gw) (hBl : Blk wr n 25 #[x, y, .slice av lv cv]) (hB : Below B W wr) (hnB : B ≤ n) (hBw : B ≤ wr.heap.size) (hgw : gw < wr.heap.size)
    (hown : w2.ownsRow B 49 3 (.slice (some ⟨gg, 0, none⟩) (lv + 1) cg) (lv + 1) (cellsT (termsOf (prodF f g) done) ++ [.string t.s, .int .i64 t.n, .int .i64 t.d]))
    (hgrow : ((wr.alloc (.cells #[.string t.s, .int .i64 t.n, .int .i64 t.d] 49)).drew).grownBy w2 (Value.slice av lv cv).ownBlock) (hat : (Value.slice av lv cv).ownBlock = some gg ∨ gg = wr.heap.size + 1) :
    TRel f g done' B n x y W gw (w2.setCell ⟨n, 2, none⟩ (.slice (some ⟨gg, 0, none⟩) (lv + 1) cg)) := by
  have hlt := hBl.lt
  have hne : gg ≠ n := by
    rcases hat with h | h
    · intro e; rw [h, e] at hn; exact hn rfl
    · omega
  have hnew : gg ≠ gw := by
    rcases hat with h | h
    · intro e; rw [h, e] at hnw; exact hnw rfl
    · omega
  have hl2 : lv + 1 = (termsOf (prodF f g) done').length := by rw [hF, hl]; simp
  refine ⟨hok, some ⟨gg, 0, none⟩, lv + 1, cg, hl2, ?_, ?_, ?_, ?_, ?_⟩
  · refine OwnT.far ?_ (fun e => hne (by simpa [Value.ownBlock] using e)) _
    unfold OwnT
    rw [← hl2, hF, cellsT_append]
    exact hown
  · intro e; exact hne (by simpa [Value.ownBlock] using e)
  · intro e; exact hnew (by simpa [Value.ownBlock] using e)
  · have h1 : Blk (wr.alloc (.cells #[.string t.s, .int .i64 t.n, .int .i64 t.d] 49)).drew n 25 #[x, y, .slice av lv cv] := hBl.alloc _
    exact (h1.grown hgrow (Ne.symm hn)).set_ 2 _
  · have h1 : Below B W (wr.alloc (.cells #[.string t.s, .int .i64 t.n, .int .i64 t.d] 49)).drew := by
      have h := hB.alloc hBw (.cells #[.string t.s, .int .i64 t.n, .int .i64 t.d] 49)
      exact ⟨h.os, h.tape, h.output, h.size, h.block⟩
    exact (h1.trans (below_of_grown hgrow (fun g h => (hO.lt g h).1) (by simp; omega))).setCell (p := ⟨n, 2, none⟩) hnB _
theorem strs_step {gw n : Nat} {ws : List ByteArray} {o : Obj} {v u : Value} {wr w2 : World} (h : StrsIn wr gw 0 ws) (hgw : gw < wr.heap.size) (hn : gw ≠ n) (hgrow : (wr.alloc o).drew.grownBy w2 v.ownBlock) (hv : v.ownBlock ≠ some gw) : StrsIn (w2.setCell ⟨n, 2, none⟩ u) gw 0 ws := fun i hi => by
  rw [World.cell?_setCell_far _ _ _ _ (by show n ≠ gw; omega)]
  refine (World.cell?_of_block (a := ⟨gw, 0 + i, none⟩) (hgrow.block gw (by show gw < (wr.alloc o).heap.size; simp; omega) (Ne.symm hv))).trans ?_
  exact ((below1 wr o).cell (p := ⟨gw, 0 + i, none⟩) hgw).trans (h i hi)
theorem upto_le {D k i N : Nat} (hD : D ≤ 3) (hk : k ≤ N) (hN : N ≤ 5) (f : VF) : (termsOf f (upto D k ++ (wordsL D k).take i)).length ≤ 2000 := by
  have h1 := upto_few hD (k := k) (by omega)
  have h2 := wordsL_few (d := D) (n := k) hD (by omega)
  have h3 : (termsOf f (upto D k ++ (wordsL D k).take i)).length ≤ (upto D k ++ (wordsL D k).take i).length := by
    unfold termsOf
    exact List.length_filterMap_le _ _
  rw [List.length_append, List.length_take] at h3
  have h4 : min i (wordsL D k).length ≤ (wordsL D k).length := Nat.min_le_right _ _
  have h5 : 243 * k ≤ 243 * 5 := Nat.mul_le_mul_left _ (by omega)
  omega

end Go.Proofs.YtddfijlgehpjfaaGreatDoor

