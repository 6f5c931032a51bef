/-
  The signature of a group word, of the model: all numbers. Contracts of l09Signature, l09Code, l09Depth, and of SignatureOfWord and DepthOfWord of the model.
  Maps from whole numbers to maps that a call makes itself: what they hold, as a function; the laws at the operations. (Besides MapV, whose keys are words.)
  The door again, with what its series' room is: the row that comes out is as long as its room.
  The signature of a group word that goes on, of the program: the closure over the signature so far and the map of the steps' signatures. Contracts of signatureThatGoesOn and of what it returns.
  The signature of a group word, of the program: the closure of SignatureOfWord, which works for every group word (all fractions fit). Contracts of SignatureOfWord.
-/
import Derived.Test.YtddfijlgehpjfaaGreatDoorGwM
import Derived.Test.YtddfijlgehpjfaaGreatDoorSer
import Derived.Test.YtddfijlgehpjfaaGreatDoorMapV
import Derived.Test.YtddfijlgehpjfaaGreatDoorGate
import Derived.Test.YtddfijlgehpjfaaGreatDoorGwS
import Derived.Maps.Keyed
import Derived.WalkArith
import Derived.BigQuiet
namespace Go.Proofs.YtddfijlgehpjfaaGreatDoor
open Go.RowKit

theorem made_oneG (w : World) (t : Tm) : Made (w.alloc (.cells #[.string t.s, .int .i64 t.n, .int .i64 t.d] 49)) w.heap.size 3 :=
  ⟨by simp, fun j hj => by
    have h : j = 0 ∨ j = 1 ∨ j = 2 := by omega
    rcases h with rfl | rfl | rfl <;> exact ⟨⟨_, by simp [go_sem]; rfl⟩, by simp⟩⟩

def letC (d n i : Int) : Bool := shapeB d n && inB i 0 (d - 1)

set_option maxHeartbeats 1000000 in
theorem l01OneG_c (d n : Int) (w : World) (s : ByteArray) : Calls Tryz.prog 26 #[.int .i64 d, .int .i64 n, .string s] w fun e w' => e = .returned (.agg #[.int .i64 d, .int .i64 n, .slice (some ⟨w.heap.size + 1, 0, none⟩) 1 1]) ∧ Below w.heap.size w w' ∧ NewRow (w.heap.size + 1) w'.heap.size w' (some ⟨w.heap.size + 1, 0, none⟩) [⟨s, 1, 1⟩] := by
  go_enter Tryz.func26, Tryz.ntmps26
  go_wp2
  have ht := terms_one (w.alloc (.cells #[.int .i64 d, .int .i64 n, .slice (some ⟨w.heap.size + 1, 0, none⟩) 1 1] 25)) ⟨s, 1, 1⟩
  have hm := made_oneG (w.alloc (.cells #[.int .i64 d, .int .i64 n, .slice (some ⟨w.heap.size + 1, 0, none⟩) 1 1] 25)) ⟨s, 1, 1⟩
  simp only [World.size_alloc] at ht hm
  refine bodyPost_ret (v := .agg #[.int .i64 d, .int .i64 n, .slice (some ⟨w.heap.size + 1, 0, none⟩) 1 1]) (by simp [results, Tryz.results26, go_sem]) rfl ⟨rfl, by go_grown, ?_⟩
  exact .of_to (Nat.le_refl _) hm ht

set_option maxRecDepth 100000 in
set_option maxHeartbeats 8000000 in
theorem l09Sig_c (D N : Nat) (hD : 1 ≤ D ∧ D ≤ 3) (hN : 1 ≤ N ∧ N ≤ 5) (lo hi : Nat) (a : Option Addr) (cap : Nat) (z : List Int) (hl : z.length ≤ 12) (hz : ∀ x ∈ z, Six x ∧ x.natAbs ≤ D) (w : World) (hr : IRow lo hi w a z) (hh : hi ≤ w.heap.size) :
    Calls Tryz.prog 13 #[.int .i64 D, .int .i64 N, .slice a z.length cap] w (StepG D N (gwG z z.length) w) := by
  have HT := Lib.hid hr
  have HUt := Lib.hid (unit_terms D N)
  have HUr := Lib.hid (unit_rep (D := D) hN)
  have HSt := Lib.hid (fun (k : Nat) (hk : k < z.length) (q : VF) (hq : RepV (allW D N) q (gwG z k)) aP cP W row => l09Step_c D N hD hN (z.getD k 0) (hz _ (by rw [getD_of hk]; exact List.getElem_mem hk)).1 (hz _ (by rw [getD_of hk]; exact List.getElem_mem hk)).2 (k := k) (by omega) (gwG_bd z (by omega)) hq aP cP W row)
  clear hr hz
  go_enter Tryz.func13, Tryz.ntmps13
  go_wp2_with fail
  refine (l01OneG_c (D : Int) (N : Int) _ ⟨#[]⟩).mono ?_
  rintro e w1 ⟨rfl, hb1, hN1⟩
  have hT1 := (T3.new w 0 0 none 0 0 25).next hb1
  have HT1 := Lib.hid hT1
  have hz1 := hT1.1
  have HB1 := Lib.hid ((below1 w (.cells #[.int .i64 0, .int .i64 0, .slice none 0 0] 25)).trans (hb1.mono (by simp)))
  have hN1' := hN1
  simp only [World.size_alloc] at hN1'
  have HR1 := Lib.hid (RowF.of (B := w.heap.size + 1) (p := w1.heap.size) (q := w1.heap.size) hN1' (by omega) (.inr (Nat.le_refl _)) (.inr (Nat.le_refl _)))
  clear hb1 hN1 hN1' hT1
  simp only [World.size_alloc]
  go_wp2_with fail
  have HTn := Lib.hid (T3.new w1 (D : Int) (N : Int) (some ⟨w.heap.size + 1 + 1, 0, none⟩) 1 1 25)
  go_loopw [8] (fun v8 wr => ∃ (k : Nat) (q : VF) (aP : Option Addr) (lP cP : Nat), k ≤ z.length ∧ v8 = .int .i64 k ∧ RepV (allW D N) q (gwG z k) ∧ lP = (termsOf q (allW D N)).length ∧ lP ≤ cP ∧ T3 wr w1.heap.size (.int .i64 D) (.int .i64 N) (.slice aP lP cP) ∧ RowF (w.heap.size + 1) w1.heap.size w1.heap.size wr aP (termsOf q (allW D N)) ∧ Below w1.heap.size w1 wr) (fun v8 _ => z.length - (intOf v8).toNat)
  case atStart => exact ⟨0, unitF, _, 1, 1, Nat.zero_le _, rfl, HUr.out, by rw [HUt.out]; rfl, Nat.le_refl _, HTn.out, by rw [HUt.out]; exact HR1.out.alloc _, below1 _ _⟩
  case round =>
    obtain ⟨k, q, aP, lP, cP, hk, rfl, hq, hlP, hlc, hTP, hRP, hB⟩ := hrel
    obtain ⟨wo, rfl⟩ : ∃ wo : World, wo = wr := ⟨_, rfl⟩
    subst hlP
    have HQ := Lib.hid hq
    have HTP := Lib.hid hTP
    have HRP := Lib.hid hRP
    have HB := Lib.hid hB
    have hzo := hB.size
    have hwP := hTP.1
    have HBw := Lib.hid (HB1.out.trans (hB.mono (by omega)))
    clear hq hB hRP
    by_cases hlt : k < z.length
    · rcases HT.out.below HBw.out hh with h0 | ⟨b', o', rfl, _, hb', hI'⟩
      · rw [h0] at hlt; simp at hlt
      have c1 := hI' k hlt
      have HS := Lib.hid (HSt.out k hlt q HQ.out aP cP wo.drew HRP.out.newRow.row)
      rw [getD_of hlt] at HS
      have HG := Lib.hid (show mulG (gwG z k) (eG (chL z[k]) (sgL z[k])) = gwG z (k + 1) from by rw [gwG, getD_of hlt])
      rw [HG.out] at HS
      obtain ⟨x, hx⟩ : ∃ x, z[k] = x := ⟨_, rfl⟩
      rw [hx] at c1 HS
      have e1 : (0 : Int) ≤ (k : Int) := by omega
      have e2 : (k : Int) < (z.length : Int) := by omega
      obtain ⟨-, t0, t1, t2, u0, u1, u2⟩ := hTP
      clear hx hI' HG
      go_wp2_with fail
      go_region_law (first
        | (go_simp; go_at_call 27; (with_reducible refine HS.out.mono ?_); rintro e w5 ⟨q5, a5, c5, hq5, rfl, hlc5, hb5', hN5⟩; have hb5 : Below wo.heap.size wo w5 := ⟨hb5'.os, hb5'.tape, hb5'.output, hb5'.size, hb5'.block⟩; obtain ⟨bc1, bc2⟩ := bcellB hb5)
        | fail)
      all_goals
        have HQ5 := Lib.hid hq5
        have HT5 := Lib.hid (HTP.out.next hb5)
        have HN5 := Lib.hid (RowF.of (B := w.heap.size + 1) (p := w1.heap.size) (q := w1.heap.size) hN5 (by have : wo.drew.heap.size = wo.heap.size := rfl; omega) (.inl hwP) (.inl hwP))
        have HB5 := Lib.hid (HB.out.trans (hb5.mono (by omega)))
        clear hq5 hb5 hb5' hN5 bc1 bc2
        go_wp2_with fail
        go_roundw
        case rel => exact ⟨k + 1, q5, a5, _, c5, hlt, by go_num, HQ5.out, rfl, hlc5, HT5.out.set3, ((HN5.out.set (.inl rfl)).set (.inl rfl)).set (.inl rfl), ((HB5.out.setCell (p := ⟨w1.heap.size, 0, none⟩) (Nat.le_refl _) _).setCell (p := ⟨w1.heap.size, 1, none⟩) (Nat.le_refl _) _).setCell (p := ⟨w1.heap.size, 2, none⟩) (Nat.le_refl _) _⟩
        case measure => simp [intOf]; omega
    · obtain rfl : k = z.length := by omega
      have hTR := HT1.out.below HB.out (by omega)
      obtain ⟨hr4, e0, e1, e2, d0, d1, d2⟩ := hTR
      obtain ⟨-, m0, m1, m2, -, -, -⟩ := HTP.out
      have HN := Lib.hid HRP.out.newRow
      go_wp2_with fail
      refine bodyPost_ret (v := .agg #[.int .i64 D, .int .i64 N, .slice aP (termsOf q (allW D N)).length cP]) (by simp [results, Tryz.results13, go_sem, e0, e1, e2]) rfl ?_
      refine ⟨q, aP, cP, HQ.out, rfl, hlc, ?_, ?_⟩
      · exact ((HBw.out.setCell (p := ⟨w.heap.size, 0, none⟩) (Nat.le_refl _) _).setCell (p := ⟨w.heap.size, 1, none⟩) (Nat.le_refl _) _).setCell (p := ⟨w.heap.size, 2, none⟩) (Nat.le_refl _) _
      · exact (((HN.out.far1s (by omega)).far1s (by omega)).far1s (by omega)).mono (by omega) (by simp)

def codeG (L V : Int) (z : List Int) : Int := if shapeB L V && grpB L z then 0 else 2
theorem l09Code_c (L V : Int) (lo hi : Nat) (a : Option Addr) (cap : Nat) (z : List Int) (hl : z.length ≤ 1048576) (w : World) (hr : IRow lo hi w a z) :
    Calls Tryz.prog 12 #[.int .i64 L, .int .i64 V, .slice a z.length cap] w fun e w' => e = .returned (.int .i64 (codeG L V z)) ∧ w = w' := by
  have HG := Lib.hid (l09Is_c lo hi L a cap z hl w hr)
  clear hr
  cases h1 : shapeB L V with
  | false =>
    have HC := Lib.hid (show codeG L V z = 2 from by simp [codeG, h1])
    have H1 := Lib.hid h1
    clear h1
    go_enter Tryz.func12, Tryz.ntmps12
    go_wp2_with (go_at_call 24; refine (l01Sizes_c _ _ _).mono ?_; rw [H1.out]; rintro e w' ⟨rfl, rfl⟩)
    go_ret
    exact ⟨by first | (rw [HC.out]; done) | (rw [HC.out]; rfl), rfl⟩
  | true =>
    cases h2 : grpB L z with
    | false =>
      have HC := Lib.hid (show codeG L V z = 2 from by simp [codeG, h2])
      have H1 := Lib.hid h1
      have H2 := Lib.hid h2
      clear h1 h2
      go_enter Tryz.func12, Tryz.ntmps12
      go_wp2_with (first | (go_at_call 24; refine (l01Sizes_c _ _ _).mono ?_; rw [H1.out]; rintro e w' ⟨rfl, rfl⟩) | (go_at_call 25; refine HG.out.mono ?_; rw [H2.out]; rintro e w' ⟨rfl, rfl⟩))
      go_ret
      exact ⟨by first | (rw [HC.out]; done) | (rw [HC.out]; rfl), rfl⟩
    | true =>
      have HC := Lib.hid (show codeG L V z = 0 from by simp [codeG, h1, h2])
      have H1 := Lib.hid h1
      have H2 := Lib.hid h2
      clear h1 h2
      go_enter Tryz.func12, Tryz.ntmps12
      go_wp2_with (first | (go_at_call 24; refine (l01Sizes_c _ _ _).mono ?_; rw [H1.out]; rintro e w' ⟨rfl, rfl⟩) | (go_at_call 25; refine HG.out.mono ?_; rw [H2.out]; rintro e w' ⟨rfl, rfl⟩))
      go_ret
      exact ⟨by first | (rw [HC.out]; done) | (rw [HC.out]; rfl), rfl⟩

end Go.Proofs.YtddfijlgehpjfaaGreatDoor

namespace Go.Proofs.YtddfijlgehpjfaaGreatDoor
open Go.RowKit
open Go.WideElems (Fit)
open Go.WideAt Go.WideMaps Go.ChangeMaps Go.Maps

/-- how a map that is an element reads: by its block -/
def refR (v : Value) : Option (DataW Unit × List MemPlace) :=
  match v with
  | .map (some g) => some (.agg [.lit (.int .i64 (g : Int))], [])
  | _ => none
theorem refR_mk (g : Nat) : refR (.map (some g)) = some (.agg [.lit (.int .i64 (g : Int))], []) := rfl
theorem refR_inv {v : Value} {y : DataW Unit × List MemPlace} (h : refR v = some y) : ∃ g : Nat, v = .map (some g) ∧ y = (.agg [.lit (.int .i64 (g : Int))], []) := by
  unfold refR at h
  split at h
  · rename_i g
    cases h
    exact ⟨g, rfl, rfl⟩
  · cases h
def encI (o : Option Nat) : DataW Unit := match o with | none => .nil | some g => .agg [.lit (.int .i64 (g : Int))]
theorem encI_none {o : Option Nat} (h : encI o = .nil) : o = none := by
  cases o with
  | none => rfl
  | some p => cases h
theorem encI_some {o : Option Nat} {g : Nat} (h : encI o = .agg [.lit (.int .i64 (g : Int))]) : o = some g := by
  cases o with
  | none => cases h
  | some p =>
    simp only [encI, DataW.agg.injEq, List.cons.injEq, DataW.lit.injEq, Lit.int.injEq, true_and, and_true] at h
    rw [Int.ofNat_inj.1 h]
theorem keyI : Maps.Keyed Tryz.prog 2 := Maps.int_keyed Tryz.underlying2
theorem zeroI (w : World) : (zeroValue 56).run Tryz.prog w = .ok (.map none) w := by kernel_rfl
def SmI (x : Int) : Prop := x.natAbs ≤ 1000000000
theorem keyI_mk {x : Int} (h : SmI x) : keyOf Tryz.prog 2 (.int .i64 x) = some (.int .i64 x) := Maps.keyOf_int_mk Tryz.underlying2 (WalkArith.wf_i64 (by unfold SmI at h; omega))

/-- block b is a map of at most n entries that holds f -/
def MapI (w : World) (b n : Nat) (f : Int → Option Nat) : Prop :=
  ∃ D : DataW Unit, w.ownsMap Tryz.prog 2 refR b n D ∧ ∀ x, SmI x → D.atKey (.int .i64 x) .nil = encI (f x)
theorem MapI.made (w : World) : MapI (w.alloc (.map #[] 0)) w.heap.size 0 (fun _ => none) := ⟨_, World.ownsMap_made w _ _ _, fun _ _ => rfl⟩
theorem MapI.lt {w : World} {b n : Nat} {f : Int → Option Nat} (h : MapI w b n f) : b < w.heap.size := by obtain ⟨D, h, _⟩ := h; exact h.lt
theorem MapI.grown {w w' : World} {b n : Nat} {f : Int → Option Nat} {r : Option Nat} (h : MapI w b n f) (hg : w.grownBy w' r) (hne : some b ≠ r) : MapI w' b n f := by
  obtain ⟨D, h, hf⟩ := h
  exact ⟨D, h.kept hg hne, hf⟩
theorem MapI.below {w w' : World} {B b n : Nat} {f : Int → Option Nat} (h : MapI w b n f) (hb : Below B w w') (hlt : b < B) : MapI w' b n f := by
  obtain ⟨D, ⟨es, clock, hh, rest⟩, hf⟩ := h
  exact ⟨D, ⟨es, clock, (hb.block b hlt).trans hh, rest⟩, hf⟩
theorem MapI.block {w w' : World} {b n : Nat} {f : Int → Option Nat} (h : MapI w b n f) (hb : w'.heap[b]? = w.heap[b]?) : MapI w' b n f := by
  obtain ⟨D, ⟨es, clock, hh, rest⟩, hf⟩ := h
  exact ⟨D, ⟨es, clock, hb.trans hh, rest⟩, hf⟩
theorem mapV_block {w w' : World} {b n : Nat} {f : ByteArray → Option (Int × Int)} (h : MapV w b n f) (hb : w'.heap[b]? = w.heap[b]?) : MapV w' b n f := by
  obtain ⟨D, ⟨es, clock, hh, rest⟩, hf⟩ := h
  exact ⟨D, ⟨es, clock, hb.trans hh, rest⟩, hf⟩
def putI (f : Int → Option Nat) (s : Int) (o : Option Nat) : Int → Option Nat := fun t => if t = s then o else f t
def lookI (o : Option Nat) : Value := match o with | none => .tuple #[.map none, .bool false] | some g => .tuple #[.map (some g), .bool true]

section
variable {w : World} {b n : Nat} {f : Int → Option Nat}
theorem MapI.run_look (h : MapI w b n f) (s : Int) (hs : SmI s) : (Instr.lookup 78 (.map (some b)) (.int .i64 s) true).run Tryz.prog w = .ok (lookI (f s)) w := by
  obtain ⟨D, ⟨es, clock, hb, F, _, rfl⟩, hf⟩ := h
  rcases Maps.fit_look true keyI Tryz.underlying78 (zeroI w) hb F (keyI_mk hs) with ⟨hrun, _, hat⟩ | ⟨e0, y, _, _, hrun, hRv, hat, _⟩
  · have e := encI_none ((hf s hs).symm.trans (hat .nil))
    rw [e]
    exact hrun
  · obtain ⟨g, hv, rfl⟩ := refR_inv hRv
    have e := encI_some ((hf s hs).symm.trans (hat .nil))
    rw [e]
    rw [hv] at hrun
    exact hrun
theorem MapI.run_put (h : MapI w b n f) (hn : n < maxLen) (s : Int) (hs : SmI s) (g : Nat) :
    ∃ w', (Instr.mapUpdate 78 (.map (some b)) (.int .i64 s) (.map (some g))).run Tryz.prog w = .ok () w' ∧ MapI w' b (n + 1) (putI f s (some g)) ∧ w.grownBy w' (some b) := by
  obtain ⟨D, h, hf⟩ := h
  obtain ⟨w', hrun, h2, hg⟩ := h.update keyI Tryz.underlying78 hn (keyI_mk hs) (refR_mk g)
  refine ⟨w', hrun, ⟨_, h2, fun t ht => ?_⟩, hg⟩
  have hD : Maps.IsMap D := by obtain ⟨es, clock, _, _, _, e⟩ := h; exact ⟨_, e⟩
  unfold putI
  by_cases e : t = s
  · subst e
    rw [if_pos rfl, Maps.atKey_put_same hD (by trivial)]
    rfl
  · rw [if_neg e, Maps.atKey_put_other (fun h => e (by injection h))]
    exact hf t ht
end

section
variable {ops : Array Oper} {rest : List Oper} {o : Oper} {a : Act} {w : World} {Q : Exit → Act → World → Prop} {b n : Nat} {f : Int → Option Nat}
theorem wpList_lookI (hg : o.guard = none) (m x : Operand) (hop : o.op = Op.lookup 78 m x true) (hm : a.eval m = .map (some b)) (h : MapI w b n f) (s : Int) (hx : a.eval x = .int .i64 s) (hs : SmI s)
    (hK : wpList Tryz.prog ops Q rest (a.put o.dst (lookI (f s))) w) : wpList Tryz.prog ops Q (o :: rest) a w := by
  have hrun := h.run_look s hs
  refine wpList_plain hg fun K' hK' => ?_
  unfold Oper.wp
  simp [execOp, hop, hm, hx, hrun, Result.andThen]
  exact hK' _ _ hK
theorem wpList_putI (hg : o.guard = none) (m x v : Operand) (hop : o.op = Op.mapUpdate 78 m x v) (hm : a.eval m = .map (some b)) (h : MapI w b n f) (hn : n < maxLen) (s : Int) (hx : a.eval x = .int .i64 s) (hs : SmI s) (g : Nat) (hv : a.eval v = .map (some g))
    (hK : ∀ w', MapI w' b (n + 1) (putI f s (some g)) → w.grownBy w' (some b) → wpList Tryz.prog ops Q rest (a.put o.dst undef) w') : wpList Tryz.prog ops Q (o :: rest) a w := by
  obtain ⟨w', hrun, r1, r2⟩ := h.run_put hn s hs g
  refine wpList_plain hg fun K' hK' => ?_
  unfold Oper.wp
  simp [execOp, hop, hm, hx, hv, hrun, Result.andThen]
  exact hK' _ _ (hK w' r1 r2)
end
end Go.Proofs.YtddfijlgehpjfaaGreatDoor

namespace Go.Proofs.YtddfijlgehpjfaaGreatDoor
open Go.RowKit

/-- a series and a code come out, and the row's room is its length -/
def SerFull (L V : Int) (ts : List Tm) (c : Int) (W : World) (e : Ending) (w' : World) : Prop :=
  ∃ (a : Option Addr), e = .returned (.tuple #[.agg #[.int .i64 L, .int .i64 V, .slice a ts.length ts.length], .int .i64 c]) ∧ Below W.heap.size W w' ∧ NewRow W.heap.size w'.heap.size w' a ts
theorem SerFull.post {L V : Int} {ts : List Tm} {c : Int} {W w' : World} {e : Ending} (h : SerFull L V ts c W e w') : SerPost L V ts c W e w' := by
  obtain ⟨a, h1, h2, h3⟩ := h
  exact ⟨a, _, h1, h2, h3⟩
set_option maxRecDepth 100000 in
set_option maxHeartbeats 4000000 in
theorem door_full (L V : Int) (a : Option Addr) (cap : Nat) (ws : List ByteArray) (hl : ws.length ≤ 1048576) (hs : ∀ s ∈ ws, s.size ≤ 1048576) (h : VF) (k : FuncId) (caps : Array Value) (hk : ∀ W : World, (callFunc k caps).run Tryz.prog W = .ok (.enter k caps) W) (w : World) (hW : ∀ W, Below w.heap.size w W → Calls Tryz.prog k caps W (WorkPost (some h) W)) (hr : SRow w a ws) :
    Calls Tryz.prog 31 #[.agg #[.int .i64 L, .int .i64 V, .slice a ws.length cap], .func (.func k) #[] caps] w (SerFull L V (termsOf h ws) 0 w) := by
  have hmf : ∀ (fn : Fn) (first cap : Array Value) (w : World), (Instr.makeFunc fn first cap).run Tryz.prog w = .ok (.func fn first cap) w := fun _ _ _ _ => rfl
  have HW := Lib.hid hW
  have HK := Lib.hid hk
  have HR := Lib.hid hr
  have HSz := Lib.hid hs
  clear hW hk hr hs
  go_enter_defers Tryz.func31, Tryz.ntmps31
  go_upto_region 2 with fail
  have HB0 := Lib.hid (below3 w (.cells #[.int .i64 L, .int .i64 V, .slice a ws.length cap] 52) (.cells #[.int .i64 0, .int .i64 0, .slice none 0 0] 25) (.cells #[.int .i64 0] 2))
  have HZ := Lib.hid (show Z3 (((w.alloc (.cells #[.int .i64 L, .int .i64 V, .slice a ws.length cap] 52)).alloc (.cells #[.int .i64 0, .int .i64 0, .slice none 0 0] 25)).alloc (.cells #[.int .i64 0] 2)) (w.heap.size + 1) from ⟨by simp, by go_simp, by go_simp, by go_simp, by go_simp, by go_simp, by go_simp⟩)
  have HC := Lib.hid (show (((w.alloc (.cells #[.int .i64 L, .int .i64 V, .slice a ws.length cap] 52)).alloc (.cells #[.int .i64 0, .int .i64 0, .slice none 0 0] 25)).alloc (.cells #[.int .i64 0] 2)).cell? ⟨w.heap.size + 1 + 1, 0, none⟩ = some (.int .i64 0) ∧ (((w.alloc (.cells #[.int .i64 L, .int .i64 V, .slice a ws.length cap] 52)).alloc (.cells #[.int .i64 0, .int .i64 0, .slice none 0 0] 25)).alloc (.cells #[.int .i64 0] 2)).frozen? ⟨w.heap.size + 1 + 1, 0, none⟩ = false from ⟨by go_simp, by go_simp⟩)
  have HS := Lib.hid (show (((w.alloc (.cells #[.int .i64 L, .int .i64 V, .slice a ws.length cap] 52)).alloc (.cells #[.int .i64 0, .int .i64 0, .slice none 0 0] 25)).alloc (.cells #[.int .i64 0] 2)).heap.size = w.heap.size + 1 + 1 + 1 from by simp)
  have s0 : (((w.alloc (.cells #[.int .i64 L, .int .i64 V, .slice a ws.length cap] 52)).alloc (.cells #[.int .i64 0, .int .i64 0, .slice none 0 0] 25)).alloc (.cells #[.int .i64 0] 2)).cell? ⟨w.heap.size, 0, none⟩ = some (.int .i64 L) := by go_simp
  have s1 : (((w.alloc (.cells #[.int .i64 L, .int .i64 V, .slice a ws.length cap] 52)).alloc (.cells #[.int .i64 0, .int .i64 0, .slice none 0 0] 25)).alloc (.cells #[.int .i64 0] 2)).cell? ⟨w.heap.size, 1, none⟩ = some (.int .i64 V) := by go_simp
  have s2 : (((w.alloc (.cells #[.int .i64 L, .int .i64 V, .slice a ws.length cap] 52)).alloc (.cells #[.int .i64 0, .int .i64 0, .slice none 0 0] 25)).alloc (.cells #[.int .i64 0] 2)).cell? ⟨w.heap.size, 2, none⟩ = some (.slice a ws.length cap) := by go_simp
  generalize (((w.alloc (.cells #[.int .i64 L, .int .i64 V, .slice a ws.length cap] 52)).alloc (.cells #[.int .i64 0, .int .i64 0, .slice none 0 0] 25)).alloc (.cells #[.int .i64 0] 2)) = wz at *
  have hs := HS.out
  have b0 : w.heap.size < wz.heap.size := by omega
  have n1 : w.heap.size + 1 ≠ w.heap.size := by omega
  have n2 : w.heap.size + 1 + 1 ≠ w.heap.size := by omega
  have hke : ∀ W : World, (callFunc k caps).run Tryz.prog W = .ok (.enter k caps) W := HK.out
  go_region_held3 (fun w' => w'.cell? ⟨w.heap.size, 0, none⟩ = some (.int .i64 L) ∧ w'.cell? ⟨w.heap.size, 1, none⟩ = some (.int .i64 V) ∧ w'.cell? ⟨w.heap.size, 2, none⟩ = some (.slice a ws.length cap))
    (first | with_reducible exact ⟨z0, z1, z2⟩ | with_reducible exact ⟨s0, s1, s2⟩ | (rw [far_ser n1, far_ser n1, far_ser n1]; exact ⟨z0, z1, z2⟩) | (rw [far_ser4 n1 n2, far_ser4 n1 n2, far_ser4 n1 n2]; exact ⟨z0, z1, z2⟩) | go_keep)
    (first
      | (go_at_call 50; have hR1 : SRow w1 a ws := HR.out.below (HB0.out.trans (hb1.mono (by omega))) (Nat.le_refl _); refine (seriesOf_c L V a cap ws hl HSz.out bm nm h _ hR1 hM).mono ?_; rintro e w2 ⟨g, rfl, hb2, hg2, hM2, hT2⟩; have hz1 := hb1.size; have hz2 := hb2.size; have HB2 := hb1.trans (hb2.mono hb1.size); have z0 := (HB2.cell (p := ⟨w.heap.size, 0, none⟩) (by show w.heap.size < _; omega)).trans s0; have z1 := (HB2.cell (p := ⟨w.heap.size, 1, none⟩) (by show w.heap.size < _; omega)).trans s1; have z2 := (HB2.cell (p := ⟨w.heap.size, 2, none⟩) (by show w.heap.size < _; omega)).trans s2; have ZB := HZ.out.below HB2 (by omega); have r0 := ZB.2.1; have r1 := ZB.2.2.1; have r2 := ZB.2.2.2.1; have f0 := ZB.2.2.2.2.1; have f1 := ZB.2.2.2.2.2.1; have f2 := ZB.2.2.2.2.2.2; have r3 := (HB2.cell (p := ⟨w.heap.size + 1 + 1, 0, none⟩) (by show w.heap.size + 1 + 1 < _; omega)).trans HC.out.1; have f3 := (HB2.frozen (p := ⟨w.heap.size + 1 + 1, 0, none⟩) (by show w.heap.size + 1 + 1 < _; omega)).trans HC.out.2)
      | (refine (HW.out _ (Below.drew HB0.out)).mono ?_; rintro e w1 ⟨bm, nm, rfl, hbl, hb1', hnm, hM⟩; have hb1 : Below wz.heap.size wz w1 := ⟨hb1'.os, hb1'.tape, hb1'.output, hb1'.size, hb1'.block⟩; have z0 := (hb1.cell (p := ⟨w.heap.size, 0, none⟩) (by show w.heap.size < _; omega)).trans s0; have z1 := (hb1.cell (p := ⟨w.heap.size, 1, none⟩) (by show w.heap.size < _; omega)).trans s1; have z2 := (hb1.cell (p := ⟨w.heap.size, 2, none⟩) (by show w.heap.size < _; omega)).trans s2)
      | fail)
  all_goals
    have HB3 := Lib.hid (HB0.out.trans (HB2.mono (by omega)))
    have HN2 := Lib.hid (NewRow.of_to (lo := w.heap.size + 1 + 1 + 1) (by omega) hM2 hT2)
    have hc1 : ((((w2.setCell ⟨w.heap.size + 1, 0, none⟩ (.int .i64 L)).setCell ⟨w.heap.size + 1, 1, none⟩ (.int .i64 V)).setCell ⟨w.heap.size + 1, 2, none⟩ (.slice (some ⟨g, 0, none⟩) (termsOf h ws).length (termsOf h ws).length)).setCell ⟨w.heap.size + 1 + 1, 0, none⟩ (.int .i64 0)).cell? ⟨w.heap.size + 1, 0, none⟩ = some (.int .i64 L) := by go_simp
    have hc2 : ((((w2.setCell ⟨w.heap.size + 1, 0, none⟩ (.int .i64 L)).setCell ⟨w.heap.size + 1, 1, none⟩ (.int .i64 V)).setCell ⟨w.heap.size + 1, 2, none⟩ (.slice (some ⟨g, 0, none⟩) (termsOf h ws).length (termsOf h ws).length)).setCell ⟨w.heap.size + 1 + 1, 0, none⟩ (.int .i64 0)).cell? ⟨w.heap.size + 1, 1, none⟩ = some (.int .i64 V) := by go_simp
    have hc3 : ((((w2.setCell ⟨w.heap.size + 1, 0, none⟩ (.int .i64 L)).setCell ⟨w.heap.size + 1, 1, none⟩ (.int .i64 V)).setCell ⟨w.heap.size + 1, 2, none⟩ (.slice (some ⟨g, 0, none⟩) (termsOf h ws).length (termsOf h ws).length)).setCell ⟨w.heap.size + 1 + 1, 0, none⟩ (.int .i64 0)).cell? ⟨w.heap.size + 1, 2, none⟩ = some (.slice (some ⟨g, 0, none⟩) (termsOf h ws).length (termsOf h ws).length) := by go_simp
    have hc4 : ((((w2.setCell ⟨w.heap.size + 1, 0, none⟩ (.int .i64 L)).setCell ⟨w.heap.size + 1, 1, none⟩ (.int .i64 V)).setCell ⟨w.heap.size + 1, 2, none⟩ (.slice (some ⟨g, 0, none⟩) (termsOf h ws).length (termsOf h ws).length)).setCell ⟨w.heap.size + 1 + 1, 0, none⟩ (.int .i64 0)).cell? ⟨w.heap.size + 1 + 1, 0, none⟩ = some (.int .i64 0) := by go_simp
    clear r0 r1 r2 r3 f0 f1 f2 f3 z0 z1 z2 s0 s1 s2
    go_wp2
    refine leaves_yes _ _ _ _ _ _ _ _ _ _ _ _ _ (w.heap.size + 1) _ ⟨some ⟨g, 0, none⟩, rfl, ?_, ?_⟩ hc1 hc2 hc3 hc4
    · exact (((HB3.out.setCell (p := ⟨w.heap.size + 1, 0, none⟩) (by show _ ≤ w.heap.size + 1; omega) _).setCell (p := ⟨w.heap.size + 1, 1, none⟩) (by show _ ≤ w.heap.size + 1; omega) _).setCell (p := ⟨w.heap.size + 1, 2, none⟩) (by show _ ≤ w.heap.size + 1; omega) _).setCell (p := ⟨w.heap.size + 1 + 1, 0, none⟩) (by show _ ≤ w.heap.size + 1 + 1; omega) _
    · exact ((((HN2.out.far1s (by omega)).far1s (by omega)).far1s (by omega)).far1s (by omega)).mono (by omega) (by simp)
end Go.Proofs.YtddfijlgehpjfaaGreatDoor

namespace Go.Proofs.YtddfijlgehpjfaaGreatDoor
open Go.RowKit

def stF (x : Int) : VF := stepF (uG x 0) (uG x 1) (uG x 2)
theorem uG_bd9 (x : Int) (i : Nat) : -1000000000 ≤ uG x i ∧ uG x i ≤ 1000000000 := by unfold uG; split <;> (try split) <;> omega
theorem stepV_stF {D : Nat} (hD : 1 ≤ D ∧ D ≤ 3) {x : Int} (hx : Six x) (hxD : x.natAbs ≤ D) : stepV (stG D x) = stF x := by
  have h : ∀ i, (stG D x).getD i 0 = uG x i := fun i => by
    by_cases hi : i < D
    · have hl : i < (stG D x).length := by rw [stG_length hD.2]; exact hi
      rw [List.getD_eq_getElem?_getD, List.getElem?_eq_getElem hl]
      exact stG_get hD.2 ..
    · rw [List.getD_eq_getElem?_getD, List.getElem?_eq_none (by rw [stG_length hD.2]; omega)]
      have h6 := hx
      unfold Six at h6
      unfold uG
      rw [if_neg (by omega), if_neg (by omega)]; rfl
  unfold stepV stF
  rw [h, h, h]
theorem stF_good {D N : Nat} (hD : 1 ≤ D ∧ D ≤ 3) (hN : 1 ≤ N) {x : Int} (hx : Six x) (hxD : x.natAbs ≤ D) : GoodV (allW D N) (stF x) := by
  rw [← stepV_stF hD hx hxD]
  refine stepV_good hD hN (stepB_good (by rw [stG_length hD.2]) fun j hj => ?_)
  rw [stG_get hD.2]
  have := uG_bd x j
  unfold inB
  simp
  omega

/-- what stands in memory while the signature goes on: the boxes of the steps' map, of the space and of the signature; the maps that are known -/
structure GoS (D N : Nat) (w0 : World) (pM pB pG bm : Nat) (aS : Option Addr) (cS : Nat) (s : VF) (bs : Nat) (known : Int → Option Nat) (j : Nat) (w : World) : Prop where
  below : Below w0.heap.size w0 w
  leG : w0.heap.size ≤ pG
  leb : w0.heap.size ≤ bm
  les : w0.heap.size ≤ bs
  ltM : pM < w.heap.size
  ltB : pB < w.heap.size
  ltG : pG < w.heap.size
  nMG : pM ≠ pG
  nBG : pB ≠ pG
  nMb : pM ≠ bm
  nBb : pB ≠ bm
  nGb : pG ≠ bm
  m0 : w.cell? ⟨pM, 0, none⟩ = some (.map (some bm))
  b0 : w.cell? ⟨pB, 0, none⟩ = some (.int .i64 D)
  b1 : w.cell? ⟨pB, 1, none⟩ = some (.int .i64 N)
  b2 : w.cell? ⟨pB, 2, none⟩ = some (.slice aS (allW D N).length cS)
  f0 : w.frozen? ⟨pG, 0, none⟩ = false
  g0 : w.cell? ⟨pG, 0, none⟩ = some (.map (some bs))
  sig : ∃ n, n ≤ 1048576 ∧ MapV w bs n s
  nsb : bs ≠ bm
  nsG : bs ≠ pG
  map : MapI w bm j known
  steps : ∀ y g, known y = some g → g ≠ bm ∧ g ≠ pG ∧ ∃ ny ey, MapV w g ny ey ∧ expV (stF y) (allW D N) N = some ey

section
variable {D N : Nat} {w0 : World} {pM pB pG bm : Nat} {aS : Option Addr} {cS : Nat} {s : VF} {bs : Nat} {known : Int → Option Nat} {j : Nat} {w w' : World}
theorem GoS.step (h : GoS D N w0 pM pB pG bm aS cS s bs known j w) (hb : Below w.heap.size w w') : GoS D N w0 pM pB pG bm aS cS s bs known j w' := by
  obtain ⟨n, hn, hs⟩ := h.sig
  have hz := hb.size
  exact ⟨h.below.trans (hb.mono h.below.size), h.leG, h.leb, h.les, by have := h.ltM; omega, by have := h.ltB; omega, by have := h.ltG; omega, h.nMG, h.nBG, h.nMb, h.nBb, h.nGb,
    (hb.cell (p := ⟨pM, 0, none⟩) h.ltM).trans h.m0, (hb.cell (p := ⟨pB, 0, none⟩) h.ltB).trans h.b0, (hb.cell (p := ⟨pB, 1, none⟩) h.ltB).trans h.b1, (hb.cell (p := ⟨pB, 2, none⟩) h.ltB).trans h.b2,
    (hb.frozen (p := ⟨pG, 0, none⟩) h.ltG).trans h.f0, (hb.cell (p := ⟨pG, 0, none⟩) h.ltG).trans h.g0, ⟨n, hn, hs.below hb hs.lt⟩, h.nsb, h.nsG, h.map.below hb h.map.lt,
    fun y g e => by obtain ⟨k1, k2, ny, ey, k3, k4⟩ := h.steps y g e; exact ⟨k1, k2, ny, ey, k3.below hb k3.lt, k4⟩⟩
theorem GoS.put (h : GoS D N w0 pM pB pG bm aS cS s bs known j w) {x : Int} {g ng : Nat} {e0 : VF} (hg : w.grownBy w' (some bm)) (hm : MapI w' bm (j + 1) (putI known x (some g))) (hv : MapV w g ng e0) (he : expV (stF x) (allW D N) N = some e0) (ngb : g ≠ bm) (ngG : g ≠ pG) :
    GoS D N w0 pM pB pG bm aS cS s bs (putI known x (some g)) (j + 1) w' := by
  obtain ⟨n, hn, hs⟩ := h.sig
  have hz := hg.size
  have fc : ∀ p : Nat, p < w.heap.size → p ≠ bm → ∀ o, w'.cell? ⟨p, o, none⟩ = w.cell? ⟨p, o, none⟩ := fun p hp hne o => World.cell?_of_block (a := ⟨p, o, none⟩) (hg.block p hp (fun e => hne (Option.some.inj e)))
  have ff : ∀ p : Nat, p < w.heap.size → p ≠ bm → ∀ o, w'.frozen? ⟨p, o, none⟩ = w.frozen? ⟨p, o, none⟩ := fun p hp hne o => World.frozen?_of_block (a := ⟨p, o, none⟩) (hg.block p hp (fun e => hne (Option.some.inj e)))
  refine ⟨h.below.trans (below_of_grown hg (fun q e => by cases e; exact h.leb) h.below.size), h.leG, h.leb, h.les, by have := h.ltM; omega, by have := h.ltB; omega, by have := h.ltG; omega, h.nMG, h.nBG, h.nMb, h.nBb, h.nGb,
    (fc pM h.ltM h.nMb 0).trans h.m0, (fc pB h.ltB h.nBb 0).trans h.b0, (fc pB h.ltB h.nBb 1).trans h.b1, (fc pB h.ltB h.nBb 2).trans h.b2, (ff pG h.ltG h.nGb 0).trans h.f0, (fc pG h.ltG h.nGb 0).trans h.g0,
    ⟨n, hn, hs.grown hg (fun e => h.nsb (Option.some.inj e))⟩, h.nsb, h.nsG, hm, fun y g' e => ?_⟩
  unfold putI at e
  split at e
  · rename_i hy
    injection e with e
    subst hy e
    exact ⟨ngb, ngG, ng, e0, hv.grown hg (fun e => ngb (Option.some.inj e)), he⟩
  · obtain ⟨k1, k2, ny, ey, k3, k4⟩ := h.steps y g' e
    exact ⟨k1, k2, ny, ey, k3.grown hg (fun e => k1 (Option.some.inj e)), k4⟩
theorem GoS.turn (h : GoS D N w0 pM pB pG bm aS cS s bs known j w) {b4 n4 : Nat} {s' : VF} (hv : MapV w b4 n4 s') (hn : n4 ≤ 1048576) (hb : b4 ≠ bm) (hG : b4 ≠ pG) (hle : w0.heap.size ≤ b4) :
    GoS D N w0 pM pB pG bm aS cS s' b4 known j (w.setCell ⟨pG, 0, none⟩ (.map (some b4))) := by
  have hz : (w.setCell ⟨pG, 0, none⟩ (.map (some b4))).heap.size = w.heap.size := by simp
  have fc : ∀ p : Nat, p ≠ pG → (w.setCell ⟨pG, 0, none⟩ (.map (some b4))).heap[p]? = w.heap[p]? := fun p hne => Below.heap_setCell w ⟨pG, 0, none⟩ _ p hne
  have fcc : ∀ p : Nat, p ≠ pG → ∀ o, (w.setCell ⟨pG, 0, none⟩ (.map (some b4))).cell? ⟨p, o, none⟩ = w.cell? ⟨p, o, none⟩ := fun p hne o => World.cell?_of_block (a := ⟨p, o, none⟩) (fc p hne)
  exact ⟨h.below.setCell (p := ⟨pG, 0, none⟩) h.leG _, h.leG, h.leb, hle, by rw [hz]; exact h.ltM, by rw [hz]; exact h.ltB, by rw [hz]; exact h.ltG, h.nMG, h.nBG, h.nMb, h.nBb, h.nGb,
    (fcc pM h.nMG 0).trans h.m0, (fcc pB h.nBG 0).trans h.b0, (fcc pB h.nBG 1).trans h.b1, (fcc pB h.nBG 2).trans h.b2, by simpa using h.f0, World.cell?_setCell_same _ _ _ h.g0,
    ⟨n4, hn, mapV_block hv (fc b4 hG)⟩, hb, hG, h.map.block (fc bm (fun e => h.nGb e.symm)),
    fun y g e => by obtain ⟨k1, k2, ny, ey, k3, k4⟩ := h.steps y g e; exact ⟨k1, k2, ny, ey, mapV_block k3 (fc g k2), k4⟩⟩
end

/-- what one number more comes to, in the program -/
def GoPost (D N : Nat) (w0 : World) (pM pB pG bm : Nat) (aS : Option Addr) (cS : Nat) (s : VF) (j : Nat) (e : Ending) (w' : World) : Prop :=
  ∃ bs known, e = .returned (.map (some bs)) ∧ GoS D N w0 pM pB pG bm aS cS s bs known (j + 1) w'
theorem MapI.mono {w : World} {b n n' : Nat} {f : Int → Option Nat} (h : MapI w b n f) (hn : n ≤ n') : MapI w b n' f := by
  obtain ⟨D, h, hf⟩ := h
  exact ⟨D, h.mono hn, hf⟩
theorem GoS.count {D N : Nat} {w0 : World} {pM pB pG bm : Nat} {aS : Option Addr} {cS : Nat} {s : VF} {bs : Nat} {known : Int → Option Nat} {j : Nat} {w : World} (h : GoS D N w0 pM pB pG bm aS cS s bs known j w) : GoS D N w0 pM pB pG bm aS cS s bs known (j + 1) w :=
  { h with map := h.map.mono (Nat.le_succ _) }

set_option maxRecDepth 100000 in
set_option maxHeartbeats 8000000 in
theorem goOn_c (D N : Nat) (hD : 1 ≤ D ∧ D ≤ 3) (hN : 1 ≤ N ∧ N ≤ 5) (w0 : World) (pM pB pG bm : Nat) (aS : Option Addr) (cS : Nat) (s : VF) (bs : Nat) (known : Int → Option Nat) (j : Nat) (hj : j ≤ 100) (x : Int) (hx : Six x) (hxD : x.natAbs ≤ D) (e0 h' : VF)
    (he : expV (stF x) (allW D N) N = some e0) (hv : prodV s e0 (allW D N) = some h') (hgs : ∀ t q, s t = some q → isF q.1 q.2 = true) (w : World) (hS : GoS D N w0 pM pB pG bm aS cS s bs known j w) (hrs : SRow w0 aS (allW D N)) (hA : ∀ p, aS = some p → p.block < w0.heap.size) :
    Calls Tryz.prog 52 #[.int .i64 x, .pointer (some ⟨pM, 0, none⟩), .pointer (some ⟨pB, 0, none⟩), .pointer (some ⟨pG, 0, none⟩)] w (GoPost D N w0 pM pB pG bm aS cS h' j) := by
  have hfew := allW_few (D := D) hD.2 (n := N) hN.2
  have HWl := Lib.hid (show (allW D N).length ≤ 100000 by omega)
  have HWs := Lib.hid (show ∀ s ∈ allW D N, s.size ≤ 1000 from fun s hs => by have := allW_size D N s hs; omega)
  have HU := Lib.hid (good_unit D N)
  have HGx := Lib.hid (stF_good hD hN.1 hx hxD)
  have HGe := Lib.hid (show ∀ t q, e0 t = some q → isF q.1 q.2 = true from fun t q e => (sumK_good (show sumK (stF x) (allW D N) expF (N + 1) = some e0 from he) t q e).2.1)
  have HGs := Lib.hid hgs
  have HS := Lib.hid hS
  have HRS := Lib.hid hrs
  have HA := Lib.hid hA
  have HE := Lib.hid he
  have HV := Lib.hid hv
  have HX := Lib.hid hx
  have hsm : SmI x := by unfold SmI; omega
  have hj9 : j < maxLen := by unfold maxLen; omega
  have m0 := hS.m0
  have HMI := Lib.hid hS.map
  clear hfew hgs hS hrs hA he hv hx
  cases hkx : known x with
  | some g =>
    have hlk : lookI (known x) = .tuple #[.map (some g), .bool true] := by rw [hkx]; rfl
    obtain ⟨k1, k2, ny, ey, k3, k4⟩ := HS.out.steps x g hkx
    have hee : ey = e0 := Option.some.inj (k4.symm.trans HE.out)
    subst hee
    obtain ⟨n, hn, hs⟩ := HS.out.sig
    have HP := Lib.hid (product_c D N aS cS (allW D N) (by have := HWl.out; omega) HWs.out s ey HGs.out HGe.out bs n g ny w (HRS.out.below HS.out.below (Nat.le_refl _)) hs k3)
    rw [HV.out] at HP
    have b0 := HS.out.b0
    have b1 := HS.out.b1
    have b2 := HS.out.b2
    have g0 := HS.out.g0
    clear hkx k1 k2 k3 k4 hs
    go_enter Tryz.func52, Tryz.ntmps52
    go_wp2_with (refine wpList_lookI rfl _ _ rfl rfl HMI.out x rfl hsm ?_)
    refine HP.out.mono ?_
    rintro e w4 ⟨b4, n4, rfl, hb4l, hb4, hn4, hM4⟩
    have HS4 := Lib.hid (HS.out.step hb4)
    have g4 := HS4.out.g0
    have f4 := HS4.out.f0
    have l4 := HS4.out.ltG
    have HF := Lib.hid ((HS4.out.turn hM4 hn4 (by have := HS.out.map.lt; omega) (by have := HS.out.ltG; omega) (by have := HS.out.below.size; omega)).count)
    clear hb4 hM4 m0 b0 b1 b2 g0
    go_wp2
    go_ret
    exact ⟨b4, known, rfl, HF.out⟩
  | none =>
    have hlk : lookI (known x) = .tuple #[.map none, .bool false] := by rw [hkx]; rfl
    have b0 := HS.out.b0
    have b1 := HS.out.b1
    have b2 := HS.out.b2
    have u0 := uG_bd9 x 0
    have u1 := uG_bd9 x 1
    have u2 := uG_bd9 x 2
    have HK := Lib.hid (show ∀ w', Below w.heap.size w w' → (w'.cell? ⟨pB, 0, none⟩ = some (.int .i64 D) ∧ w'.cell? ⟨pB, 1, none⟩ = some (.int .i64 N) ∧ w'.cell? ⟨pB, 2, none⟩ = some (.slice aS (allW D N).length cS)) from fun w' hb => by
      have h := HS.out.step hb
      exact ⟨h.b0, h.b1, h.b2⟩)
    clear hkx
    go_enter Tryz.func52, Tryz.ntmps52
    go_wp2_with (refine wpList_lookI rfl _ _ rfl rfl HMI.out x rfl hsm ?_)
    go_region_held3 (fun w' => w'.cell? ⟨pB, 0, none⟩ = some (.int .i64 D) ∧ w'.cell? ⟨pB, 1, none⟩ = some (.int .i64 N) ∧ w'.cell? ⟨pB, 2, none⟩ = some (.slice aS (allW D N).length cS))
      (first | (exact HK.out _ (Below.drew (Below.refl _ _))) | (exact HK.out _ hb2) | (exact HK.out _ hb3) | fail)
      (first
        | (go_at_call 54; (with_reducible refine (moveAlong_c x HX.out _).mono ?_); rintro e w2 ⟨rfl, hb2'⟩; have hb2 : Below w.heap.size w w2 := ⟨hb2'.os, hb2'.tape, hb2'.output, hb2'.size, hb2'.block⟩)
        | (go_at_call 53; have hSt := stepSignature_c D N hN.2 aS cS (allW D N) HWl.out HWs.out HU.out (uG x 0) (uG x 1) (uG x 2) u0 u1 u2 HGx.out w2 (HRS.out.below (B := w0.heap.size) (HS.out.step hb2).below (Nat.le_refl _)) (fun q e => Nat.lt_of_lt_of_le (HA.out q e) (HS.out.step hb2).below.size); rw [show expV (stepF (uG x 0) (uG x 1) (uG x 2)) (allW D N) N = some e0 from HE.out] at hSt; (with_reducible refine hSt.mono ?_); rintro e w3 ⟨me, ne, rfl, hme, hb3', hne, hM3⟩; have hb3 : Below w.heap.size w w3 := hb2.trans (hb3'.mono hb2.size))
        | fail)
    have hm3 : w.heap.size ≤ me := by have := hb2.size; omega
    have HM3 := Lib.hid hM3
    have HS3 := Lib.hid (HS.out.step hb3)
    have HMI3 := Lib.hid HS3.out.map
    have m3 := HS3.out.m0
    have ngb : me ≠ bm := by have := HS.out.map.lt; omega
    have ngG : me ≠ pG := by have := HS.out.ltG; omega
    have hle : w0.heap.size ≤ me := by have := HS.out.below.size; omega
    clear hb2 hb2' hb3 hb3' hM3 m0 b0 b1 b2
    go_wp2_with (refine wpList_putI rfl _ _ _ rfl rfl HMI3.out hj9 x rfl hsm me rfl ?_)
    intro w5 hM5 hg5
    have HS5 := Lib.hid (HS3.out.put hg5 hM5 HM3.out HE.out ngb ngG)
    have HM5 := Lib.hid (HM3.out.grown hg5 (fun e => ngb (Option.some.inj e)))
    obtain ⟨n, hn, hs⟩ := HS5.out.sig
    have HP := Lib.hid (product_c D N aS cS (allW D N) (by have := HWl.out; omega) HWs.out s e0 HGs.out HGe.out bs n me ne w5 (HRS.out.below HS5.out.below (Nat.le_refl _)) hs HM5.out)
    rw [HV.out] at HP
    have b0 := HS5.out.b0
    have b1 := HS5.out.b1
    have b2 := HS5.out.b2
    have g0 := HS5.out.g0
    clear hM5 hg5 hs m3
    go_wp2_with fail
    refine HP.out.mono ?_
    rintro e w4 ⟨b4, n4, rfl, hb4l, hb4, hn4, hM4⟩
    have HS4 := Lib.hid (HS5.out.step hb4)
    have g4 := HS4.out.g0
    have f4 := HS4.out.f0
    have l4 := HS4.out.ltG
    have HF := Lib.hid (HS4.out.turn hM4 hn4 (by have := HS5.out.map.lt; omega) (by have := HS5.out.ltG; omega) (by have := HS5.out.below.size; omega))
    clear hb4 hM4 b0 b1 b2 g0
    go_wp2
    go_ret
    exact ⟨b4, _, rfl, HF.out⟩

/-- the function that goes on, and what it stands over -/
def StartPost (D N : Nat) (W : World) (aS : Option Addr) (cS : Nat) (e : Ending) (w' : World) : Prop :=
  ∃ pM pB pG bm bs, e = .returned (.func (.func 52) #[] #[.pointer (some ⟨pM, 0, none⟩), .pointer (some ⟨pB, 0, none⟩), .pointer (some ⟨pG, 0, none⟩)]) ∧
    GoS D N W pM pB pG bm aS cS unitF bs (fun _ => none) 0 w'
set_option maxRecDepth 100000 in
set_option maxHeartbeats 4000000 in
theorem goesOn_c (D N : Nat) (aS : Option Addr) (cS : Nat) (w : World) :
    Calls Tryz.prog 34 #[.agg #[.int .i64 D, .int .i64 N, .slice aS (allW D N).length cS]] w (StartPost D N w aS cS) := by
  have hmm := @run_makeMap Tryz.prog
  have hmf : ∀ (fn : Fn) (first cap : Array Value) (w : World), (Instr.makeFunc fn first cap).run Tryz.prog w = .ok (.func fn first cap) w := fun _ _ _ _ => rfl
  go_enter Tryz.func34, Tryz.ntmps34
  go_wp2_with fail
  refine (unitValues_c _).mono ?_
  rintro e w1 ⟨m1, rfl, hm1, hb1, hM1⟩
  have HM1 := Lib.hid hM1
  have HB1 := Lib.hid hb1
  clear hM1 hb1
  go_wp2_with fail
  go_ret
  have hz1 : w.heap.size + 1 ≤ w1.heap.size := by have := HB1.out.size; simpa using this
  have hm2 : w.heap.size + 1 ≤ m1 := by simpa using hm1
  have hml := HM1.out.lt
  have hb3 := below3 w1 (.map #[] 0) (.cells #[.map (some m1)] 56) (.cells #[.map (some w1.heap.size)] 78)
  have hbf := HB1.out.trans (hb3.mono HB1.out.size)
  have HBf := Lib.hid hbf
  have HMf := Lib.hid (HM1.out.below hb3 hml)
  have HMI := Lib.hid ((MapI.made w1).below (below2 (w1.alloc (.map #[] 0)) (.cells #[.map (some m1)] 56) (.cells #[.map (some w1.heap.size)] 78)) (by simp))
  clear hbf hb3 hmm hmf hm1
  exact ⟨w1.heap.size + 1 + 1, w.heap.size, w1.heap.size + 1, w1.heap.size, m1, rfl,
    { below := (below1 w _).trans (HBf.out.mono (by simp))
      leG := by omega
      leb := by omega
      les := by omega
      ltM := by first | (simp; done) | (simp; omega)
      ltB := by first | (simp; done) | (simp; omega)
      ltG := by first | (simp; done) | (simp; omega)
      nMG := by omega
      nBG := by omega
      nMb := by omega
      nBb := by omega
      nGb := by omega
      m0 := by go_simp
      b0 := (HBf.out.cell (p := ⟨w.heap.size, 0, none⟩) (by simp)).trans (by go_simp)
      b1 := (HBf.out.cell (p := ⟨w.heap.size, 1, none⟩) (by simp)).trans (by go_simp)
      b2 := (HBf.out.cell (p := ⟨w.heap.size, 2, none⟩) (by simp)).trans (by go_simp)
      f0 := by go_simp
      g0 := by go_simp
      sig := ⟨1, by omega, HMf.out⟩
      nsb := by omega
      nsG := by omega
      map := HMI.out
      steps := fun y g e => by cases e }⟩
end Go.Proofs.YtddfijlgehpjfaaGreatDoor

namespace Go.Proofs.YtddfijlgehpjfaaGreatDoor
open Go.RowKit

theorem GoS.rebase {D N : Nat} {w0 w1 : World} {pM pB pG bm : Nat} {aS : Option Addr} {cS : Nat} {s : VF} {bs : Nat} {known : Int → Option Nat} {j : Nat} {w : World} (h : GoS D N w1 pM pB pG bm aS cS s bs known j w) (hb : Below w0.heap.size w0 w1) : GoS D N w0 pM pB pG bm aS cS s bs known j w :=
  { h with below := hb.trans (h.below.mono hb.size), leG := Nat.le_trans hb.size h.leG, leb := Nat.le_trans hb.size h.leb, les := Nat.le_trans hb.size h.les }
/-- what stands when the closure begins to go through the word -/
def GoCut (D N : Nat) (w : World) (aS : Option Addr) (cS : Nat) (v3 v4 : Value) (wy : World) : Prop :=
  ∃ b pM pB pG bm bs, v3 = .map (some b) ∧ v4 = .func (.func 52) #[] #[.pointer (some ⟨pM, 0, none⟩), .pointer (some ⟨pB, 0, none⟩), .pointer (some ⟨pG, 0, none⟩)] ∧ w.heap.size ≤ b ∧ MapV wy b 1 unitF ∧
    GoS D N w pM pB pG bm aS cS unitF bs (fun _ => none) 0 wy
theorem go_step_of {D N : Nat} (hD : 1 ≤ D ∧ D ≤ 3) (hN : 1 ≤ N ∧ N ≤ 5) {z : List Int} (hl : z.length ≤ 12) (hz : ∀ x ∈ z, Six x ∧ x.natAbs ≤ D) {k : Nat} (hk : k < z.length) {s : VF} (hs : sigV (pthG D z) (allW D N) N k = some s) :
    ∃ e0 h', expV (stF z[k]) (allW D N) N = some e0 ∧ prodV s e0 (allW D N) = some h' ∧ sigV (pthG D z) (allW D N) N (k + 1) = some h' := by
  obtain ⟨x6, xD⟩ := hz z[k] (List.getElem_mem hk)
  obtain ⟨e, h1, h2⟩ := exp_rep hD hN x6 xD
  obtain ⟨q, h3, _⟩ := sig_rep hD hN hl hz (k + 1) hk
  have hg : (pthG D z).getD k [] = stG D z[k] := by
    rw [List.getD_eq_getElem?_getD, List.getElem?_eq_getElem (by rw [pthG_length]; exact hk)]
    simp [pthG]
  have h4 := sigV_2 (ps := pthG D z) (ws := allW D N) (N := N) (k := k) (e := e) hs (by rw [hg]; exact h1)
  rw [stepV_stF hD x6 xD] at h1
  exact ⟨e, q, h1, h4.symm.trans h3, h3⟩

set_option maxRecDepth 100000 in
set_option maxHeartbeats 8000000 in
theorem gowWork (D N : Nat) (hD : 1 ≤ D ∧ D ≤ 3) (hN : 1 ≤ N ∧ N ≤ 5) (p pp : Nat) (aS a1 : Option Addr) (cS c1 lo hi : Nat) (z : List Int) (hl : z.length ≤ 12) (hz : ∀ x ∈ z, Six x ∧ x.natAbs ≤ D) (h : VF) (hq : sigV (pthG D z) (allW D N) N z.length = some h) (w : World) (hpw : p < w.heap.size) (hpp : pp < w.heap.size)
    (s0 : w.cell? ⟨p, 0, none⟩ = some (.int .i64 D)) (s1 : w.cell? ⟨p, 1, none⟩ = some (.int .i64 N)) (s2 : w.cell? ⟨p, 2, none⟩ = some (.slice aS (allW D N).length cS)) (x0 : w.cell? ⟨pp, 0, none⟩ = some (.slice a1 z.length c1)) (hrs : SRow w aS (allW D N)) (hr1 : IRow lo hi w a1 z) (hh : hi ≤ w.heap.size) :
    Calls Tryz.prog 32 #[.pointer (some ⟨p, 0, none⟩), .pointer (some ⟨pp, 0, none⟩)] w (WorkPost (some h) w) := by
  have HA := Lib.hid (show ∀ p, aS = some p → p.block < w.heap.size from fun p e => by
    rcases hrs with h | ⟨b, o, e2, h3, _⟩
    · obtain ⟨r, hr, _⟩ := allW_head D N
      rw [hr] at h
      cases h
    · rw [e2] at e
      injection e with e
      rw [← e]
      exact h3)
  have HRS := Lib.hid hrs
  have HR := Lib.hid hr1
  have HQ := Lib.hid hq
  have HZ := Lib.hid hz
  have HSt := Lib.hid (fun k hk s hs => go_step_of hD hN hl hz (k := k) hk (s := s) hs)
  have KS := Lib.hid (show ∀ w', Below w.heap.size w w' → (w'.cell? ⟨p, 0, none⟩ = some (.int .i64 D) ∧ w'.cell? ⟨p, 1, none⟩ = some (.int .i64 N) ∧ w'.cell? ⟨p, 2, none⟩ = some (.slice aS (allW D N).length cS)) from fun w' hb => ⟨(hb.cell (p := ⟨p, 0, none⟩) hpw).trans s0, (hb.cell (p := ⟨p, 1, none⟩) hpw).trans s1, (hb.cell (p := ⟨p, 2, none⟩) hpw).trans s2⟩)
  have KX := Lib.hid (show ∀ w', Below w.heap.size w w' → w'.cell? ⟨pp, 0, none⟩ = some (.slice a1 z.length c1) from fun w' hb => (hb.cell (p := ⟨pp, 0, none⟩) hpp).trans x0)
  clear hrs hr1 hq hz x0
  go_enter Tryz.func32, Tryz.ntmps32
  go_upto_region 1 with fail
  go_cut [3, 4] (GoCut D N w aS cS)
  case first =>
    go_region_held3 (fun w' => w'.cell? ⟨p, 0, none⟩ = some (.int .i64 D) ∧ w'.cell? ⟨p, 1, none⟩ = some (.int .i64 N) ∧ w'.cell? ⟨p, 2, none⟩ = some (.slice aS (allW D N).length cS))
      (first | (exact KS.out _ (Below.drew (Below.refl _ _))) | (exact KS.out _ hbu) | (exact KS.out _ hbg) | fail)
      (first
        | (go_at_call 33; (with_reducible refine (unitValues_c _).mono ?_); rintro e wu ⟨mu, rfl, hmu, hbu', hMu⟩; have hbu : Below w.heap.size w wu := (by first | exact hbg.trans (hbu'.mono hbg.size) | exact ⟨hbu'.os, hbu'.tape, hbu'.output, hbu'.size, hbu'.block⟩))
        | (go_at_call 34; (with_reducible refine (goesOn_c D N aS cS _).mono ?_); rintro e wg ⟨pM, pB, pG, bm, bs, rfl, hGS'⟩; have hGS := hGS'.rebase (w0 := w) (by first | exact hbu | exact (Below.refl _ _).drew); have hbg := hGS.below)
        | fail)
    all_goals (go_wp2_with fail; go_meet)
    · exact ⟨mu, pM, pB, pG, bm, bs, rfl, rfl, by have : w.drew.heap.size = w.heap.size := rfl; omega, hMu.below hGS'.below hMu.lt, hGS⟩
  case rest =>
    obtain ⟨b, pM, pB, pG, bm, bs, rfl, rfl, hwb, hM, hG⟩ := hcut
    obtain ⟨w1, rfl⟩ : ∃ w1 : World, w1 = wc := ⟨_, rfl⟩
    have HM1 := Lib.hid hM
    have HG1 := Lib.hid hG
    have x1 := KX.out w1 hG.below
    clear hM hG s0 s1 s2
    go_wp2_with fail
    go_loopw [3, 12] (fun vs vi wr => ∃ (k : Nat) (s : VF) (b n bs : Nat) (known : Int → Option Nat), k ≤ z.length ∧ vi = .int .i64 k ∧ vs = .map (some b) ∧ sigV (pthG D z) (allW D N) N k = some s ∧ w.heap.size ≤ b ∧ n ≤ 1048576 ∧ MapV wr b n s ∧ GoS D N w pM pB pG bm aS cS s bs known k wr) (fun _ vi _ => z.length - (intOf vi).toNat)
    case atStart => exact ⟨0, unitF, b, 1, bs, _, Nat.zero_le _, rfl, rfl, rfl, hwb, by omega, HM1.out, HG1.out⟩
    case round =>
      obtain ⟨k, s, b, n, bs, known, hk, rfl, rfl, hsk, hwb, hn, hM, hG⟩ := hrel
      have HSk := Lib.hid hsk
      have HM := Lib.hid hM
      have HG := Lib.hid hG
      clear hsk hM hG
      by_cases hlt : k < z.length
      · rcases HR.out.below HG.out.below hh with h0 | ⟨b', o', rfl, _, hb', hI'⟩
        · rw [h0] at hlt; simp at hlt
        have c1 := hI' k hlt
        obtain ⟨e0, h', he, hv, hnx⟩ := HSt.out k hlt s HSk.out
        obtain ⟨x6, xD⟩ := HZ.out z[k] (List.getElem_mem hlt)
        have HGo := Lib.hid (goOn_c D N hD hN w pM pB pG bm aS cS s bs known k (by omega) z[k] x6 xD e0 h' he hv (fun t q e => (sigV_good HSk.out t q e).2.1) wr HG.out HRS.out HA.out)
        have HNx := Lib.hid hnx
        obtain ⟨x, hx⟩ : ∃ x, z[k] = x := ⟨_, rfl⟩
        rw [hx] at c1 HGo
        have e1 : (0 : Int) ≤ (k : Int) := by omega
        have e2 : (k : Int) < (z.length : Int) := by omega
        clear hx hI' he hv hnx x6 xD
        go_wp2_with fail
        refine HGo.out.mono ?_
        rintro e w2 ⟨b2, known2, rfl, hG2⟩
        obtain ⟨n2, hn2, hM2⟩ := hG2.sig
        have HM2 := Lib.hid hM2
        have HG2 := Lib.hid hG2
        have hb2 := hG2.les
        clear hM2 hG2 c1
        go_wp2
        go_roundw
        case rel => exact ⟨k + 1, h', b2, n2, b2, known2, hlt, by go_num, rfl, HNx.out, hb2, hn2, HM2.out, HG2.out⟩
        case measure => simp [intOf]; omega
      · obtain rfl : k = z.length := by omega
        have HF := Lib.hid (Option.some.inj (HQ.out.symm.trans HSk.out))
        go_wp2
        go_ret
        rw [HF.out]
        exact ⟨b, n, rfl, hwb, HG.out.below, hn, HM.out⟩

set_option maxRecDepth 100000 in
set_option maxHeartbeats 4000000 in
theorem iGow_1 (L V : Int) (lo hi : Nat) (a : Option Addr) (cap : Nat) (z : List Int) (hl : z.length ≤ 1048576) (hn : shapeB L V = false ∨ (shapeB L V = true ∧ grpB L z = false)) (w : World) (hr : IRow lo hi w a z) (hh : hi ≤ w.heap.size) :
    Calls Tryz.prog 17 #[.int .i64 L, .int .i64 V, .slice a z.length cap] w (SerPost 0 0 [] 2 w) := by
  have HR := Lib.hid hr
  have hT := (T3.new (w.alloc (.cells #[.slice a z.length cap] 22)) 0 0 none 0 0 25)
  simp only [World.size_alloc] at hT
  have HT := Lib.hid hT
  clear hr hT
  rcases hn with h1 | ⟨h1, h2⟩
  · have H1 := Lib.hid h1
    clear h1
    go_enter Tryz.func17, Tryz.ntmps17
    go_wp2_with (first | (go_at_call 28; refine (isShape_c _ _ _).mono ?_; rw [H1.out]; rintro e w' ⟨rfl, rfl⟩))
    refine bodyPost_ret (v := .tuple #[.agg #[.int .i64 0, .int .i64 0, .slice none 0 0], .int .i64 2]) (by simp [results, Tryz.results17, go_sem]) rfl (SerPost.err 2 rfl ?_)
    go_grown
  · have H1 := Lib.hid h1
    have H2 := Lib.hid h2
    have HG := Lib.hid (fun W (hb : Below w.heap.size w W) => iIsGroupWord_c lo hi L a cap z hl W (HR.out.below hb hh))
    clear h1 h2
    go_enter Tryz.func17, Tryz.ntmps17
    go_wp2_with (first | (go_at_call 28; refine (isShape_c _ _ _).mono ?_; rw [H1.out]; rintro e w' ⟨rfl, rfl⟩) | (go_at_call 29; refine (HG.out _ (below2 _ _ _)).mono ?_; rw [H2.out]; rintro e w' ⟨rfl, rfl⟩))
    refine bodyPost_ret (v := .tuple #[.agg #[.int .i64 0, .int .i64 0, .slice none 0 0], .int .i64 2]) (by simp [results, Tryz.results17, go_sem]) rfl (SerPost.err 2 rfl ?_)
    go_grown

set_option maxRecDepth 100000 in
set_option maxHeartbeats 4000000 in
theorem iGow_full (D N : Nat) (hsh : shapeB (D : Int) (N : Int) = true) (lo hi : Nat) (a : Option Addr) (cap : Nat) (z : List Int) (hl : z.length ≤ 1048576) (hg : grpB (D : Int) z = true) (h : VF) (hq : sigV (pthG D z) (allW D N) N z.length = some h) (w : World) (hr : IRow lo hi w a z) (hh : hi ≤ w.heap.size) :
    Calls Tryz.prog 17 #[.int .i64 D, .int .i64 N, .slice a z.length cap] w (SerFull D N (termsOf h (allW D N)) 0 w) := by
  have hsz := shape_out hsh
  have hD : 1 ≤ D ∧ D ≤ 3 := by omega
  have hN : 1 ≤ N ∧ N ≤ 5 := by omega
  have hG := grpB_true hg
  have hz : ∀ x ∈ z, Six x ∧ x.natAbs ≤ D := fun x hx => ⟨six_of hG x hx, by have := hG.lo x hx; have := hG.hi x hx; omega⟩
  have h12 := hG.len
  have HR := Lib.hid hr
  have HQ := Lib.hid hq
  have HZ := Lib.hid hz
  have H1 := Lib.hid hsh
  have H2 := Lib.hid hg
  have HGr := Lib.hid (fun W (hb : Below w.heap.size w W) => iIsGroupWord_c lo hi (D : Int) a cap z hl W (HR.out.below hb hh))
  have hmf : ∀ (fn : Fn) (first cap : Array Value) (w : World), (Instr.makeFunc fn first cap).run Tryz.prog w = .ok (.func fn first cap) w := fun _ _ _ _ => rfl
  have hfew := allW_few (D := D) (by omega) (n := N) (by omega)
  have HWl := Lib.hid (show (allW D N).length ≤ 1048576 by omega)
  have HWs := Lib.hid (show ∀ s ∈ allW D N, s.size ≤ 1048576 from fun s hs => by have := allW_size D N s hs; omega)
  clear hr hq hz hsh hg hfew hsz hG
  go_enter Tryz.func17, Tryz.ntmps17
  go_wp2_with (first | (go_at_call 28; refine (isShape_c _ _ _).mono ?_; rw [H1.out]; rintro e w' ⟨rfl, rfl⟩) | (go_at_call 29; refine (HGr.out _ (below2 _ _ _)).mono ?_; rw [H2.out]; rintro e w' ⟨rfl, rfl⟩) | fail)
  obtain ⟨w1, hw1⟩ : ∃ w1 : World, (w.alloc (.cells #[.slice a z.length cap] 22)).alloc (.cells #[.int .i64 0, .int .i64 0, .slice none 0 0] 25) = w1 := ⟨_, rfl⟩
  have HW1 := Lib.hid (show Below w.heap.size w w1 from by subst hw1; exact below2 _ _ _)
  have HT := Lib.hid (show T3 w1 (w.heap.size + 1) (.int .i64 0) (.int .i64 0) (.slice none 0 0) from by subst hw1; exact T3.newAt (by simp))
  have x0 : w1.cell? ⟨w.heap.size, 0, none⟩ = some (.slice a z.length cap) := by subst hw1; go_simp
  have hz1 : w.heap.size + 1 < w1.heap.size := by subst hw1; simp
  rw [hw1]
  clear hw1
  refine (spaceOf_c D N (by omega) (by omega) _).mono ?_
  rintro e w4 ⟨aS, cS, rfl, hb4, hN4⟩
  have HW4 := Lib.hid (HW1.out.trans (hb4.mono HW1.out.size))
  have HT4 := Lib.hid (HT.out.next hb4)
  have hz4 := hb4.size
  have v0 := (hb4.cell (p := ⟨w.heap.size, 0, none⟩) (by show w.heap.size < _; omega)).trans x0
  have hba := below1 w4 (.cells #[.int .i64 D, .int .i64 N, .slice aS (allW D N).length cS] 52)
  have HW5 := Lib.hid (HW4.out.trans (hba.mono HW4.out.size))
  have HT5 := Lib.hid (HT4.out.next hba)
  have Kx0 := (hba.cell (p := ⟨w.heap.size, 0, none⟩) (by show w.heap.size < _; omega)).trans v0
  have Ks0 : (w4.alloc (.cells #[.int .i64 D, .int .i64 N, .slice aS (allW D N).length cS] 52)).cell? ⟨w4.heap.size, 0, none⟩ = some (.int .i64 D) := by go_simp
  have Ks1 : (w4.alloc (.cells #[.int .i64 D, .int .i64 N, .slice aS (allW D N).length cS] 52)).cell? ⟨w4.heap.size, 1, none⟩ = some (.int .i64 N) := by go_simp
  have Ks2 : (w4.alloc (.cells #[.int .i64 D, .int .i64 N, .slice aS (allW D N).length cS] 52)).cell? ⟨w4.heap.size, 2, none⟩ = some (.slice aS (allW D N).length cS) := by go_simp
  have HNs := Lib.hid (hN4.row.below hba (Nat.le_refl _))
  have hzz : (w4.alloc (.cells #[.int .i64 D, .int .i64 N, .slice aS (allW D N).length cS] 52)).heap.size = w4.heap.size + 1 := by simp
  have HWork := Lib.hid (fun W (hW : Below (w4.alloc (.cells #[.int .i64 D, .int .i64 N, .slice aS (allW D N).length cS] 52)).heap.size (w4.alloc (.cells #[.int .i64 D, .int .i64 N, .slice aS (allW D N).length cS] 52)) W) => gowWork D N hD hN w4.heap.size w.heap.size aS a cS cap lo hi z h12 HZ.out h HQ.out W (by have := hW.size; omega) (by have := hW.size; omega) ((hW.cell (p := ⟨w4.heap.size, 0, none⟩) (by show w4.heap.size < _; omega)).trans Ks0) ((hW.cell (p := ⟨w4.heap.size, 1, none⟩) (by show w4.heap.size < _; omega)).trans Ks1) ((hW.cell (p := ⟨w4.heap.size, 2, none⟩) (by show w4.heap.size < _; omega)).trans Ks2) ((hW.cell (p := ⟨w.heap.size, 0, none⟩) (by show w.heap.size < _; omega)).trans Kx0) (HNs.out.below hW (Nat.le_refl _)) (HR.out.below (HW5.out.trans (hW.mono (by omega))) hh) (by have := hW.size; omega))
  have HDoor := Lib.hid (door_full D N aS cS (allW D N) HWl.out HWs.out h 32 #[.pointer (some ⟨w4.heap.size, 0, none⟩), .pointer (some ⟨w.heap.size, 0, none⟩)] (fun _ => by kernel_rfl) (w4.alloc (.cells #[.int .i64 D, .int .i64 N, .slice aS (allW D N).length cS] 52)) HWork.out HNs.out)
  clear hb4 hN4 x0 v0 Kx0 Ks0 Ks1 Ks2 hba
  go_wp2_with fail
  refine HDoor.out.mono ?_
  rintro e w6 ⟨a4, rfl, hb6, hN6⟩
  have hT6 := HT5.out.next hb6
  have HW6 := Lib.hid (HW5.out.trans (hb6.mono HW5.out.size))
  have HN4 := Lib.hid hN6
  have hz6 := hb6.size
  obtain ⟨hzr, r0, r1, r2, z0, z1, z2⟩ := id hT6
  clear hb6 hT6 hN6
  go_wp2
  refine bodyPost_ret (v := .tuple #[.agg #[.int .i64 D, .int .i64 N, .slice a4 (termsOf h (allW D N)).length (termsOf h (allW D N)).length], .int .i64 0]) (by simp [results, Tryz.results17, go_sem, r0, r1, r2]) rfl ⟨a4, rfl, ?_, ?_⟩
  · have hW := HW6.out
    go_grown
  · exact (((HN4.out.far1s (by omega)).far1s (by omega)).far1s (by omega)).mono (by omega) (by simp)
theorem iGow_2 (D N : Nat) (hsh : shapeB (D : Int) (N : Int) = true) (lo hi : Nat) (a : Option Addr) (cap : Nat) (z : List Int) (hl : z.length ≤ 1048576) (hg : grpB (D : Int) z = true) (h : VF) (hq : sigV (pthG D z) (allW D N) N z.length = some h) (w : World) (hr : IRow lo hi w a z) (hh : hi ≤ w.heap.size) :
    Calls Tryz.prog 17 #[.int .i64 D, .int .i64 N, .slice a z.length cap] w (SerPost D N (termsOf h (allW D N)) 0 w) :=
  (iGow_full D N hsh lo hi a cap z hl hg h hq w hr hh).mono fun _ _ h => h.post
end Go.Proofs.YtddfijlgehpjfaaGreatDoor
