/-
  The model's product of two series: word by word, cut by cut; it is made, or a fraction does not fit.
-/
import Derived.Test.YteljpgoaaelbfaaGreatDoorPrM
import Derived.Test.YteljpgoaaelbfaaGreatDoorAddP
import Derived.Test.YteljpgoaaelbfaaGreatDoorUnitS
import Derived.Test.YteljpgoaaelbfaaGreatDoorGate
import Derived.Deep.RegionHeld3
namespace Go.Proofs.YteljpgoaaelbfaaGreatDoor
open Go.RowKit

theorem l01Value_row (L V : Int) (a : Option Addr) (cap : Nat) (ts : List Tm) (hl : ts.length ≤ 1048576) (w0 : ByteArray) (w : World) (hr : Row w a ts) :
    Calls Tryz.prog 46 #[.agg #[.int .i64 L, .int .i64 V, .slice a ts.length cap], .string w0] w fun e w' => e = .returned (.agg #[.int .i64 (valL w0.data.toList ts).1, .int .i64 (valL w0.data.toList ts).2]) ∧ Below w.heap.size w w' := by
  by_cases h0 : ts = []
  · subst h0
    clear hr
    go_enter Tryz.func46, Tryz.ntmps46
    go_wp2
    go_loop [5] (fun vi => vi = .int .i64 0) (fun _ => 0)
    case atStart => rfl
    case round =>
    subst hrel
    go_wp2
    exact bodyPost_ret (v := .agg #[.int .i64 0, .int .i64 1]) (by simp [results, Tryz.results46, go_sem]) rfl ⟨rfl, by go_grown⟩
  · rcases hr with h | ⟨b, off, rfl, hb, ht⟩
    · exact absurd h h0
    · exact l01Value_c L V b off cap ts hl w0 w hb ht
theorem zero_named {p q : Int} {o : Bool} (h : (p == 0) = o) (w : World) : Calls Tryz.prog 47 #[.agg #[.int .i64 p, .int .i64 q]] w fun e w' => e = .returned (.bool o) ∧ Below w.heap.size w w' := by
  subst h; exact l01Zero_c p q w
theorem times_named {a b c d x y : Int} {o : Bool} (hx : fN (a * c) (b * d) = x) (hy : fD (a * c) (b * d) = y) (ho : fOk (a * c) (b * d) = o) (ha : a.natAbs ≤ 1000000000) (hb : b.natAbs ≤ 1000000000) (hc : c.natAbs ≤ 1000000000) (hd : d.natAbs ≤ 1000000000) (w : World) :
    Calls Tryz.prog 43 #[.agg #[.int .i64 a, .int .i64 b], .agg #[.int .i64 c, .int .i64 d]] w fun e w' => e = .returned (.tuple #[.agg #[.int .i64 x, .int .i64 y], .bool o]) ∧ Below w.heap.size w w' := by
  subst hx hy ho; exact l01TimesFrac_c a b c d ha hb hc hd w
theorem plus_named {a b c d x y : Int} {o : Bool} (hx : fN (a * d + c * b) (b * d) = x) (hy : fD (a * d + c * b) (b * d) = y) (ho : fOk (a * d + c * b) (b * d) = o) (ha : a.natAbs ≤ 1000000000) (hb : b.natAbs ≤ 1000000000) (hc : c.natAbs ≤ 1000000000) (hd : d.natAbs ≤ 1000000000) (w : World) :
    Calls Tryz.prog 48 #[.agg #[.int .i64 a, .int .i64 b], .agg #[.int .i64 c, .int .i64 d]] w fun e w' => e = .returned (.tuple #[.agg #[.int .i64 x, .int .i64 y], .bool o]) ∧ Below w.heap.size w w' := by
  subst hx hy ho; exact l01Plus_c a b c d ha hb hc hd w
/-- a variable that holds a fraction -/
def Bx (w : World) (g : Nat) (a b : Int) : Prop := g < w.heap.size ∧ w.cell? ⟨g, 0, none⟩ = some (.int .i64 a) ∧ w.cell? ⟨g, 1, none⟩ = some (.int .i64 b)
theorem Bx.below {w w' : World} {B g : Nat} {a b : Int} (h : Bx w g a b) (hb : Below B w w') (hg : g < B) : Bx w' g a b :=
  ⟨Nat.lt_of_lt_of_le h.1 hb.size, (hb.cell (p := ⟨g, 0, none⟩) hg).trans h.2.1, (hb.cell (p := ⟨g, 1, none⟩) hg).trans h.2.2⟩
def TwoCut (wr : World) (p q p' q' : Int) (v12 v13 : Value) (wy : World) : Prop :=
  ∃ gA gB : Nat, v12 = .pointer (some ⟨gA, 0, none⟩) ∧ v13 = .pointer (some ⟨gB, 0, none⟩) ∧ Below wr.heap.size wr wy ∧ Bx wy gA p q ∧ Bx wy gB p' q'
/-- what the product of two series' terms comes to -/
def prodL (f g : VF) (ws : List ByteArray) : Option (List Tm) := if prodOk f g ws = true then some (termsOf (prodF f g) ws) else none
theorem prodL_V (f g : VF) (ws : List ByteArray) : prodL f g ws = (prodV f g ws).map fun h => termsOf h ws := by
  cases hp : prodOk f g ws with
  | false => rw [prodV_none hp]; unfold prodL; rw [hp]; rfl
  | true =>
    rw [prodV_some hp]
    unfold prodL
    rw [hp, if_pos rfl]
    show _ = some (termsOf (onL ws (prodF f g)) ws)
    rw [termsOf_onL _ _ _ (fun s hs => hs)]
theorem termsOf_len (f : VF) (ws : List ByteArray) : (termsOf f ws).length ≤ ws.length := List.length_filterMap_le _ _
/-- where the product stands: these words are done -/
def TRel (f g : VF) (done : List ByteArray) (B n : Nat) (x y : Value) (W : World) (gw : Nat) (wr : World) : Prop :=
  prodOk f g done = true ∧ ∃ (a : Option Addr) (l c : Nat), l = (termsOf (prodF f g) done).length ∧ OwnT wr B (.slice a l c) (termsOf (prodF f g) done) ∧ (Value.slice a l c).ownBlock ≠ some n ∧ (Value.slice a l c).ownBlock ≠ some gw ∧ Blk wr n 26 #[x, y, .slice a l c] ∧ Below B W wr
theorem upto_snoc (D k i : Nat) (hi : i < (wordsL D k).length) : upto D k ++ (wordsL D k).take (i + 1) = (upto D k ++ (wordsL D k).take i) ++ [(wordsL D k)[i]] := by
  rw [List.take_succ_eq_append_getElem hi, List.append_assoc]
theorem prodOk_one {f g : VF} {ws : List ByteArray} {s : ByteArray} {p : Int × Int} (h : prodOk f g ws = true) (hp : prodAt f g s = some p) : prodOk f g (ws ++ [s]) = true := by
  rw [prodOk_append, h]
  simp [prodOk, hp]
theorem termsOf_one {f g : VF} {ws : List ByteArray} {s : ByteArray} {p : Int × Int} (hp : prodAt f g s = some p) : termsOf (prodF f g) (ws ++ [s]) = termsOf (prodF f g) ws ++ (match nzF p with | none => [] | some q => [⟨s, q.1, q.2⟩]) := by
  rw [termsOf_app]
  congr 1
  have h := termsOf_cons' (prodF f g) s []
  rw [h, prodF_some hp]
  cases nzF p <;> rfl
theorem TRel.step {f g : VF} {done done' : List ByteArray} {B n gw : Nat} {x y : Value} {W wr w2 : World} {lv cv gg cg : Nat} {av : Option Addr} (t : Tm) (hok : prodOk f g done' = true) (hF : termsOf (prodF f g) done' = termsOf (prodF f g) done ++ [t])
    (hl : lv = (termsOf (prodF f g) done).length) (hO : OwnT wr B (.slice av lv cv) (termsOf (prodF f g) done)) (hn : (Value.slice av lv cv).ownBlock ≠ some n) (hnw : (Value.slice av lv cv).ownBlock ≠ some gw) (hBl : Blk wr n 26 #[x, y, .slice av lv cv]) (hB : Below B W wr) (hnB : B ≤ n) (hBw : B ≤ wr.heap.size) (hgw : gw < wr.heap.size)
    (hown : w2.ownsRow B 74 3 (.slice (some ⟨gg, 0, none⟩) (lv + 1) cg) (lv + 1) (cellsT (termsOf (prodF f g) done) ++ [.string t.s, .int .i64 t.n, .int .i64 t.d]))
    (hgrow : ((wr.alloc (.cells #[.string t.s, .int .i64 t.n, .int .i64 t.d] 74)).drew).grownBy w2 (Value.slice av lv cv).ownBlock) (hat : (Value.slice av lv cv).ownBlock = some gg ∨ gg = wr.heap.size + 1) :
    TRel f g done' B n x y W gw (w2.setCell ⟨n, 2, none⟩ (.slice (some ⟨gg, 0, none⟩) (lv + 1) cg)) := by
  have hlt := hBl.lt
  have hne : gg ≠ n := by
    rcases hat with h | h
    · intro e; rw [h, e] at hn; exact hn rfl
    · omega
  have hnew : gg ≠ gw := by
    rcases hat with h | h
    · intro e; rw [h, e] at hnw; exact hnw rfl
    · omega
  have hl2 : lv + 1 = (termsOf (prodF f g) done').length := by rw [hF, hl]; simp
  refine ⟨hok, some ⟨gg, 0, none⟩, lv + 1, cg, hl2, ?_, ?_, ?_, ?_, ?_⟩
  · refine OwnT.far ?_ (fun e => hne (by simpa [Value.ownBlock] using e)) _
    unfold OwnT
    rw [← hl2, hF, cellsT_append]
    exact hown
  · intro e; exact hne (by simpa [Value.ownBlock] using e)
  · intro e; exact hnew (by simpa [Value.ownBlock] using e)
  · have h1 : Blk (wr.alloc (.cells #[.string t.s, .int .i64 t.n, .int .i64 t.d] 74)).drew n 26 #[x, y, .slice av lv cv] := hBl.alloc _
    exact (h1.grown hgrow (Ne.symm hn)).set_ 2 _
  · have h1 : Below B W (wr.alloc (.cells #[.string t.s, .int .i64 t.n, .int .i64 t.d] 74)).drew := by
      have h := hB.alloc hBw (.cells #[.string t.s, .int .i64 t.n, .int .i64 t.d] 74)
      exact ⟨h.os, h.tape, h.output, h.size, h.block⟩
    exact (h1.trans (below_of_grown hgrow (fun g h => (hO.lt g h).1) (by simp; omega))).setCell (p := ⟨n, 2, none⟩) hnB _
theorem strs_step {gw n : Nat} {ws : List ByteArray} {o : Obj} {v u : Value} {wr w2 : World} (h : StrsIn wr gw 0 ws) (hgw : gw < wr.heap.size) (hn : gw ≠ n) (hgrow : (wr.alloc o).drew.grownBy w2 v.ownBlock) (hv : v.ownBlock ≠ some gw) : StrsIn (w2.setCell ⟨n, 2, none⟩ u) gw 0 ws := fun i hi => by
  rw [World.cell?_setCell_far _ _ _ _ (by show n ≠ gw; omega)]
  refine (World.cell?_of_block (a := ⟨gw, 0 + i, none⟩) (hgrow.block gw (by show gw < (wr.alloc o).heap.size; simp; omega) (Ne.symm hv))).trans ?_
  exact ((below1 wr o).cell (p := ⟨gw, 0 + i, none⟩) hgw).trans (h i hi)
theorem upto_le {D k i N : Nat} (hD : D ≤ 3) (hk : k ≤ N) (hN : N ≤ 5) (f : VF) : (termsOf f (upto D k ++ (wordsL D k).take i)).length ≤ 2000 := by
  have h1 := upto_few hD (k := k) (by omega)
  have h2 := wordsL_few (d := D) (n := k) hD (by omega)
  have h3 : (termsOf f (upto D k ++ (wordsL D k).take i)).length ≤ (upto D k ++ (wordsL D k).take i).length := by
    unfold termsOf
    exact List.length_filterMap_le _ _
  rw [List.length_append, List.length_take] at h3
  have h4 : min i (wordsL D k).length ≤ (wordsL D k).length := Nat.min_le_right _ _
  have h5 : 243 * k ≤ 243 * 5 := Nat.mul_le_mul_left _ (by omega)
  omega

set_option maxRecDepth 100000 in
set_option maxHeartbeats 16000000 in
theorem l02Times_c (D N : Nat) (hD : 1 ≤ D ∧ D ≤ 3) (hN : N ≤ 5) (a1 a2 : Option Addr) (cap1 cap2 : Nat) (f g : VF) (hf : GoodV (allW D N) f) (hg : GoodV (allW D N) g) (xs ys : List Tm) (hx : termsOf f (allW D N) = xs) (hy : termsOf g (allW D N) = ys) (hl1 : xs.length ≤ 1048576) (hl2 : ys.length ≤ 1048576) (hW : (allW D N).Pairwise lessW) (w : World) (hr1 : Row w a1 xs) (hr2 : Row w a2 ys) :
    Calls Tryz.prog 22 #[.agg #[.int .i64 D, .int .i64 N, .slice a1 xs.length cap1], .agg #[.int .i64 D, .int .i64 N, .slice a2 ys.length cap2]] w (SumPost D N (prodL f g (allW D N)) w) := by
  obtain ⟨i0, hi0, hi1, hi2, hi3⟩ := info_parts info_term
  have HR1 := Lib.hid hr1
  have HR2 := Lib.hid hr2
  have HF := Lib.hid hf
  have HG := Lib.hid hg
  have HVf := Lib.hid (fun s => (show valL s.data.toList xs = valF f s from by rw [← hx]; exact valL_termsOf hW hf s))
  have HVg := Lib.hid (fun s => (show valL s.data.toList ys = valF g s from by rw [← hy]; exact valL_termsOf hW hg s))
  clear hr1 hr2 hf hg hx hy hW
  go_enter Tryz.func22, Tryz.ntmps22
  go_wp2_with fail
  refine (l01Empty_c D N _ rfl _).mono ?_
  rintro e w1 ⟨g1, rfl, hO, hb1⟩
  have hz1 : w.heap.size + 1 + 1 + 1 ≤ w1.heap.size := by have := hb1.size; simp at this; omega
  have HO := Lib.hid (show OwnT w1 (w.heap.size + 1 + 1 + 1) (.slice (some ⟨g1, 0, none⟩) 0 0) [] from by simpa using hO)
  have HB := Lib.hid (show Below (w.heap.size + 1 + 1 + 1) (((w.alloc (.cells #[.int .i64 D, .int .i64 N, .slice a1 xs.length cap1] 26)).alloc (.cells #[.int .i64 D, .int .i64 N, .slice a2 ys.length cap2] 26)).alloc (.cells #[.int .i64 0, .int .i64 0, .slice none 0 0] 26)) w1 from by simpa using hb1)
  clear hb1 hO
  go_wp2_with fail
  go_loopw [7] (fun v7 wr => ∃ j : Nat, j ≤ N + 1 ∧ v7 = .int .i64 j ∧ TRel f g (upto D j) (w.heap.size + 1 + 1 + 1) w1.heap.size (.int .i64 D) (.int .i64 N) (((w.alloc (.cells #[.int .i64 D, .int .i64 N, .slice a1 xs.length cap1] 26)).alloc (.cells #[.int .i64 D, .int .i64 N, .slice a2 ys.length cap2] 26)).alloc (.cells #[.int .i64 0, .int .i64 0, .slice none 0 0] 26)) w1.heap.size wr) (fun v7 _ => N + 1 - (intOf v7).toNat)
  case atStart =>
    have hne : (Value.slice (some ⟨g1, 0, none⟩) 0 0).ownBlock ≠ some w1.heap.size := fun e => by have := (HO.out.lt _ e).2; omega
    exact ⟨0, Nat.zero_le _, rfl, rfl, _, 0, 0, rfl, HO.out.alloc _, hne, hne, Blk.new _ _ _, HB.out.alloc (by omega) _⟩
  case round =>
    obtain ⟨j, hj, rfl, hok, av, lv, cv, hlv, hOv, hnv, _, hBl, hB⟩ := hrel
    have HOK := Lib.hid hok
    have HLv := Lib.hid hlv
    have HOv := Lib.hid hOv
    have HNv := Lib.hid hnv
    have HBl := Lib.hid hBl
    have HBk := Lib.hid hB
    have hzn := hBl.lt
    have hzr := hB.size
    simp only [World.size_alloc] at hzr
    have bc := bcellB hB
    have x0 : wr.cell? ⟨w.heap.size, 0, none⟩ = some (.int .i64 D) := (bc.1 _ _ (by omega)).trans (by go_simp)
    have x1 : wr.cell? ⟨w.heap.size, 1, none⟩ = some (.int .i64 N) := (bc.1 _ _ (by omega)).trans (by go_simp)
    have hh0 : w.heap.size < wr.heap.size := by omega
    clear hok hlv hOv hnv hBl hB bc
    obtain ⟨wo, rfl⟩ : ∃ wo : World, wo = wr := ⟨_, rfl⟩
    by_cases hjN : j ≤ N
    · have hjI : (j : Int) ≤ (N : Int) := by omega
      go_wp2_with fail
      refine (l01Words_c D j hD (by omega) _).mono ?_
      rintro e w2 ⟨aw, cw, rfl, hb2, hN2⟩
      have hpos : 0 < (wordsL D j).length := by rw [wordsL_length]; exact Nat.pow_pos (by omega)
      obtain ⟨gw, rfl, hgw1, hgw2, hsW⟩ : ∃ gw, aw = some ⟨gw, 0, none⟩ ∧ wo.heap.size ≤ gw ∧ gw < w2.heap.size ∧ StrsIn w2 gw 0 (wordsL D j) := by
        rcases hN2 with h | ⟨b, e, h1, h2, _, h4⟩
        · rw [h] at hpos; simp at hpos
        · exact ⟨b, e, h1, h2, h4⟩
      have hfew := wordsL_few (d := D) (n := j) hD.2 (by omega)
      have HSz := Lib.hid (wordsL_size D j)
      have HUp := Lib.hid (fun i hi => upto_snoc D j i hi)
      have HUl := Lib.hid (fun i => upto_le (D := D) (k := j) (i := i) (N := N) hD.2 hjN hN (prodF f g))
      have HUp1 := Lib.hid (show upto D j ++ (wordsL D j).take (wordsL D j).length = upto D (j + 1) from by rw [List.take_length, upto])
      have HIn := Lib.hid (show ∀ s ∈ wordsL D j, s ∈ allW D N from fun s hs => word_in (by omega) hs)
      generalize wordsL D j = ws at *
      have hSW := Lib.hid hsW
      have hO2 := Lib.hid (HOv.out.below hb2 (fun g h => (HOv.out.lt g h).2))
      have hBl2 := Lib.hid (HBl.out.below hb2 hzn)
      have hB2 := Lib.hid (HBk.out.trans (hb2.mono hzr))
      have hgn : gw ≠ w1.heap.size := by omega
      clear hb2 hN2 hsW x0 x1
      go_wp2_with fail
      go_loopw [9] (fun v9 wr => ∃ i : Nat, i ≤ ws.length ∧ v9 = .int .i64 i ∧ gw < wr.heap.size ∧ StrsIn wr gw 0 ws ∧ TRel f g (upto D j ++ ws.take i) (w.heap.size + 1 + 1 + 1) w1.heap.size (.int .i64 D) (.int .i64 N) (((w.alloc (.cells #[.int .i64 D, .int .i64 N, .slice a1 xs.length cap1] 26)).alloc (.cells #[.int .i64 D, .int .i64 N, .slice a2 ys.length cap2] 26)).alloc (.cells #[.int .i64 0, .int .i64 0, .slice none 0 0] 26)) gw wr) (fun v9 _ => ws.length - (intOf v9).toNat)
      case atStart =>
        refine ⟨0, Nat.zero_le _, rfl, hgw2, hSW.out, by simpa using HOK.out, av, lv, cv, by simpa using HLv.out, by simpa using hO2.out, HNv.out, fun e => ?_, hBl2.out, hB2.out⟩
        have := (HOv.out.lt _ e).2
        omega
      case round =>
        obtain ⟨i, hi, rfl, hgw3, hsW, hok, av2, lv2, cv2, hlv, hOv, hnv, hnw, hBl, hB⟩ := hrel
        have HOK2 := Lib.hid hok
        have HLv2 := Lib.hid hlv
        have HOv2 := Lib.hid hOv
        have HNv2 := Lib.hid hnv
        have HNw2 := Lib.hid hnw
        have HBl2 := Lib.hid hBl
        have HBk2 := Lib.hid hB
        have HSW2 := Lib.hid hsW
        have hzn2 := hBl.lt
        have hzr2 := hB.size
        simp only [World.size_alloc] at hzr2
        have HLe := Lib.hid (HUl.out i)
        clear hok hlv hOv hnv hnw hBl hB hsW
        obtain ⟨wi, rfl⟩ : ∃ wi : World, wi = wr := ⟨_, rfl⟩
        by_cases hlt : i < ws.length
        · have hsz : (ws[i]).size ≤ 5 := by have := HSz.out _ (List.getElem_mem hlt); omega
          have HInS := Lib.hid (HIn.out _ (List.getElem_mem hlt))
          have HUpS := Lib.hid (HUp.out i hlt)
          have cS := HSW2.out i hlt
          rw [Nat.zero_add] at cS
          obtain ⟨s, hse⟩ : ∃ s, ws[i] = s := ⟨_, rfl⟩
          rw [hse] at hsz HInS HUpS cS
          have HCS := Lib.hid cS
          have hil : (i : Int) < (ws.length : Int) := by omega
          have hiI : (0 : Int) ≤ (i : Int) := by omega
          clear hse cS
          go_wp2_with fail
          refine (l02One_c _ _).mono ?_
          rintro e w3 ⟨rfl, hb3⟩
          have hz3 := hb3.size
          have HB3 := Lib.hid hb3
          clear hb3
          go_wp2_with fail
          go_loopw [11] (fun v11 wr => ∃ (k : Nat) (a b : Int), k ≤ s.size + 1 ∧ v11 = .int .i64 k ∧ cutsUp f g s k = some (a, b) ∧ Below w3.heap.size w3 wr ∧ Box2 wr w3.heap.size a b) (fun v11 _ => s.size + 1 - (intOf v11).toNat)
          case atStart => exact ⟨0, 0, 1, Nat.zero_le _, rfl, rfl, below1 _ _, Box2.new _ _ _ _⟩
          case round =>
            obtain ⟨k, a, b, hk, rfl, hP, hB, hS⟩ := hrel
            have HP := Lib.hid hP
            have HBq := Lib.hid hB
            have HSq := Lib.hid hS
            have hzq := hS.1
            have HWq := Lib.hid (HB3.out.trans (hB.mono hz3))
            have HWB := Lib.hid (HBk2.out.trans (HWq.out.mono hzr2))
            have c0 : wr.cell? ⟨gw, i, none⟩ = some (.string s) := (HWq.out.cell (p := ⟨gw, i, none⟩) hgw3).trans HCS.out
            have hgwr : gw < wr.heap.size := by have := HWq.out.size; omega
            have hzwr := HWB.out.size
            simp only [World.size_alloc] at hzwr
            have bc := bcellB HWB.out
            have x0 : wr.cell? ⟨w.heap.size, 0, none⟩ = some (.int .i64 D) := (bc.1 _ _ (by omega)).trans (by go_simp)
            have x1 : wr.cell? ⟨w.heap.size, 1, none⟩ = some (.int .i64 N) := (bc.1 _ _ (by omega)).trans (by go_simp)
            have x2 : wr.cell? ⟨w.heap.size, 2, none⟩ = some (.slice a1 xs.length cap1) := (bc.1 _ _ (by omega)).trans (by go_simp)
            have y0 : wr.cell? ⟨w.heap.size + 1, 0, none⟩ = some (.int .i64 D) := (bc.1 _ _ (by omega)).trans (by go_simp)
            have y1 : wr.cell? ⟨w.heap.size + 1, 1, none⟩ = some (.int .i64 N) := (bc.1 _ _ (by omega)).trans (by go_simp)
            have y2 : wr.cell? ⟨w.heap.size + 1, 2, none⟩ = some (.slice a2 ys.length cap2) := (bc.1 _ _ (by omega)).trans (by go_simp)
            have HR1q := Lib.hid (HR1.out.below ((below3 w _ _ _).trans (HWB.out.mono (by omega))))
            have HR2q := Lib.hid (HR2.out.below ((below3 w _ _ _).trans (HWB.out.mono (by omega))))
            clear hP hB hS bc
            by_cases hkl : k < s.size + 1
            · have c1 : (0 : Int) ≤ (k : Int) := by omega
              have c2 : (k : Int) ≤ (s.size : Int) := by omega
              have c3 : (k : Int) < (s.size : Int) + 1 := by omega
              have HN := Lib.hid (cutsUp_next HP.out)
              have HFa := Lib.hid (cutsUp_isF HP.out)
              obtain ⟨p, q, hpq⟩ : ∃ p q, valF f (s.extract 0 k) = (p, q) := ⟨_, _, rfl⟩
              obtain ⟨p', q', hpq'⟩ : ∃ p' q', valF g (s.extract k s.size) = (p', q') := ⟨_, _, rfl⟩
              have HV1 := Lib.hid ((HVf.out (s.extract 0 k)).trans hpq)
              have HV2 := Lib.hid ((HVg.out (s.extract k s.size)).trans hpq')
              have HFp := Lib.hid (valF_isF HF.out (s.extract 0 k))
              have HFp' := Lib.hid (valF_isF HG.out (s.extract k s.size))
              have HZ1 := Lib.hid (valF_zero HF.out (s.extract 0 k))
              have HZ2 := Lib.hid (valF_zero HG.out (s.extract k s.size))
              have HE1 := Lib.hid (valF_nz (f := f) (s := s.extract 0 k))
              have HE2 := Lib.hid (valF_nz (f := g) (s := s.extract k s.size))
              rw [hpq] at HFp HZ1 HE1
              rw [hpq'] at HFp' HZ2 HE2
              clear hpq hpq'
              have hw0r : w.heap.size < wr.heap.size := by omega
              have hw1r : w.heap.size + 1 < wr.heap.size := by omega
              have KS := Lib.hid (show ∀ w', Below wr.heap.size wr w' → (w'.cell? ⟨w.heap.size, 0, none⟩ = some (.int .i64 D) ∧ w'.cell? ⟨w.heap.size, 1, none⟩ = some (.int .i64 N) ∧ w'.cell? ⟨w.heap.size, 2, none⟩ = some (.slice a1 xs.length cap1) ∧ w'.cell? ⟨w.heap.size + 1, 0, none⟩ = some (.int .i64 D) ∧ w'.cell? ⟨w.heap.size + 1, 1, none⟩ = some (.int .i64 N) ∧ w'.cell? ⟨w.heap.size + 1, 2, none⟩ = some (.slice a2 ys.length cap2) ∧ w'.cell? ⟨gw, i, none⟩ = some (.string s)) from fun w' hb => ⟨(hb.cell (p := ⟨w.heap.size, 0, none⟩) (by show w.heap.size < _; omega)).trans x0, (hb.cell (p := ⟨w.heap.size, 1, none⟩) (by show w.heap.size < _; omega)).trans x1, (hb.cell (p := ⟨w.heap.size, 2, none⟩) (by show w.heap.size < _; omega)).trans x2, (hb.cell (p := ⟨w.heap.size + 1, 0, none⟩) (by show w.heap.size + 1 < _; omega)).trans y0, (hb.cell (p := ⟨w.heap.size + 1, 1, none⟩) (by show w.heap.size + 1 < _; omega)).trans y1, (hb.cell (p := ⟨w.heap.size + 1, 2, none⟩) (by show w.heap.size + 1 < _; omega)).trans y2, (hb.cell (p := ⟨gw, i, none⟩) (by show gw < _; omega)).trans c0⟩)
              go_upto_region 13 with fail
              go_cut [12, 13] (TwoCut wr p q p' q')
              case first =>
                go_region_held3 (fun w' => w'.cell? ⟨w.heap.size, 0, none⟩ = some (.int .i64 D) ∧ w'.cell? ⟨w.heap.size, 1, none⟩ = some (.int .i64 N) ∧ w'.cell? ⟨w.heap.size, 2, none⟩ = some (.slice a1 xs.length cap1) ∧ w'.cell? ⟨w.heap.size + 1, 0, none⟩ = some (.int .i64 D) ∧ w'.cell? ⟨w.heap.size + 1, 1, none⟩ = some (.int .i64 N) ∧ w'.cell? ⟨w.heap.size + 1, 2, none⟩ = some (.slice a2 ys.length cap2) ∧ w'.cell? ⟨gw, i, none⟩ = some (.string s))
                  ((refine KS.out _ ?_; repeat' (first | with_reducible exact hb3 | with_reducible exact hb2 | with_reducible exact Below.refl _ _ | (with_reducible refine Below.drew ?_) | (with_reducible refine Below.setCell ?_ (by (try dsimp only); omega) _) | (with_reducible refine Below.alloc ?_ (by (try simp only [World.size_alloc, World.size_setCell]); omega) _))))
                  (first
            | (go_at_call 46; have hRa : Row wr.drew a1 xs := HR1q.out.below (Below.drew (Below.refl _ _)); (with_reducible refine (l01Value_row D N a1 cap1 xs hl1 (s.extract 0 k) wr.drew hRa).mono ?_); rw [HV1.out]; rintro e w2 ⟨rfl, hb0⟩; have hb2 : Below wr.heap.size wr w2 := (Below.refl _ _).trans ⟨hb0.os, hb0.tape, hb0.output, hb0.size, fun j hj => hb0.block j (by show j < wr.heap.size; (try simp only [World.size_alloc]); omega)⟩; have hz2 := hb2.size)
            | (go_at_call 46; have hRa : Row (wr.alloc (.cells #[.int .i64 0, .int .i64 0] 44)).drew a1 xs := HR1q.out.below (Below.drew (below1 wr (.cells #[.int .i64 0, .int .i64 0] 44))); (with_reducible refine (l01Value_row D N a1 cap1 xs hl1 (s.extract 0 k) (wr.alloc (.cells #[.int .i64 0, .int .i64 0] 44)).drew hRa).mono ?_); rw [HV1.out]; rintro e w2 ⟨rfl, hb0⟩; have hb2 : Below wr.heap.size wr w2 := (below1 wr (.cells #[.int .i64 0, .int .i64 0] 44)).trans ⟨hb0.os, hb0.tape, hb0.output, hb0.size, fun j hj => hb0.block j (by show j < (wr.alloc (.cells #[.int .i64 0, .int .i64 0] 44)).heap.size; (try simp only [World.size_alloc]); omega)⟩; have hz2 := hb2.size; have p0 : Box2 w2 wr.heap.size 0 0 := (show Box2 (wr.alloc (.cells #[.int .i64 0, .int .i64 0] 44)).drew wr.heap.size 0 0 from Box2.new _ 0 0 _).below hb0 (by show wr.heap.size < (wr.alloc (.cells #[.int .i64 0, .int .i64 0] 44)).heap.size; (try simp only [World.size_alloc]); omega); have n01 : ¬ wr.heap.size = w2.heap.size := (by have := p0.1; omega); have n10 : ¬ w2.heap.size = wr.heap.size := (by have := p0.1; omega))
            | (go_at_call 46; have hRa : Row ((wr.alloc (.cells #[.int .i64 0, .int .i64 0] 44)).alloc (.cells #[.int .i64 0, .int .i64 0] 44)).drew a1 xs := HR1q.out.below (Below.drew (below2 wr (.cells #[.int .i64 0, .int .i64 0] 44) (.cells #[.int .i64 0, .int .i64 0] 44))); (with_reducible refine (l01Value_row D N a1 cap1 xs hl1 (s.extract 0 k) ((wr.alloc (.cells #[.int .i64 0, .int .i64 0] 44)).alloc (.cells #[.int .i64 0, .int .i64 0] 44)).drew hRa).mono ?_); rw [HV1.out]; rintro e w2 ⟨rfl, hb0⟩; have hb2 : Below wr.heap.size wr w2 := (below2 wr (.cells #[.int .i64 0, .int .i64 0] 44) (.cells #[.int .i64 0, .int .i64 0] 44)).trans ⟨hb0.os, hb0.tape, hb0.output, hb0.size, fun j hj => hb0.block j (by show j < ((wr.alloc (.cells #[.int .i64 0, .int .i64 0] 44)).alloc (.cells #[.int .i64 0, .int .i64 0] 44)).heap.size; (try simp only [World.size_alloc]); omega)⟩; have hz2 := hb2.size; have p0 : Box2 w2 wr.heap.size 0 0 := (show Box2 ((wr.alloc (.cells #[.int .i64 0, .int .i64 0] 44)).alloc (.cells #[.int .i64 0, .int .i64 0] 44)).drew wr.heap.size 0 0 from (show Box2 ((wr.alloc (.cells #[.int .i64 0, .int .i64 0] 44)).alloc (.cells #[.int .i64 0, .int .i64 0] 44)) wr.heap.size 0 0 from (Box2.new wr 0 0 _).below (below1 _ _) (by simp))).below hb0 (by show wr.heap.size < ((wr.alloc (.cells #[.int .i64 0, .int .i64 0] 44)).alloc (.cells #[.int .i64 0, .int .i64 0] 44)).heap.size; (try simp only [World.size_alloc]); omega); have n01 : ¬ wr.heap.size = w2.heap.size := (by have := p0.1; omega); have n10 : ¬ w2.heap.size = wr.heap.size := (by have := p0.1; omega); have p1 : Box2 w2 (wr.heap.size + 1) 0 0 := (show Box2 ((wr.alloc (.cells #[.int .i64 0, .int .i64 0] 44)).alloc (.cells #[.int .i64 0, .int .i64 0] 44)).drew (wr.heap.size + 1) 0 0 from (by have h := Box2.new (wr.alloc (.cells #[.int .i64 0, .int .i64 0] 44)) 0 0 44; rw [World.size_alloc] at h; exact h)).below hb0 (by show wr.heap.size + 1 < ((wr.alloc (.cells #[.int .i64 0, .int .i64 0] 44)).alloc (.cells #[.int .i64 0, .int .i64 0] 44)).heap.size; (try simp only [World.size_alloc]); omega))
            | (go_at_call 46; have hRb : Row w2 a2 ys := HR2q.out.below (hb2.trans ((Below.refl _ _).mono hz2)); (with_reducible refine (l01Value_row D N a2 cap2 ys hl2 (s.extract k s.size) w2 hRb).mono ?_); rw [HV2.out]; rintro e w3 ⟨rfl, hb0⟩; have hb3 : Below wr.heap.size wr w3 := (hb2.trans ((Below.refl _ _).mono hz2)).trans (hb0.mono (by (try simp only [World.size_alloc]); omega)); have hz3 : w2.heap.size ≤ w3.heap.size := (by have h := hb0.size; (try simp only [World.size_alloc] at h); omega); have hz4 := hb3.size; (try have p0 := (p0.below (Below.refl _ _) p0.1).below hb0 (by have h := p0.1; (try simp only [World.size_alloc]); omega)); (try have p1 := (p1.below (Below.refl _ _) p1.1).below hb0 (by have h := p1.1; (try simp only [World.size_alloc]); omega)); (try (have p0a := p0.2.1; have p0b := p0.2.2.1; have p0c := p0.2.2.2.1; have p0d := p0.2.2.2.2; have p0e := p0.1)); (try (have p1a := p1.2.1; have p1b := p1.2.2.1; have p1c := p1.2.2.2.1; have p1d := p1.2.2.2.2; have p1e := p1.1)); (try (have r0a := r0.2.1; have r0b := r0.2.2.1; have r0c := r0.2.2.2.1; have r0d := r0.2.2.2.2; have r0e := r0.1)); (try (have r1a := r1.2.1; have r1b := r1.2.2.1; have r1c := r1.2.2.2.1; have r1d := r1.2.2.2.2; have r1e := r1.1)))
            | (go_at_call 46; have hRb : Row (w2.alloc (.cells #[.int .i64 0, .int .i64 0] 44)) a2 ys := HR2q.out.below (hb2.trans ((below1 w2 (.cells #[.int .i64 0, .int .i64 0] 44)).mono hz2)); (with_reducible refine (l01Value_row D N a2 cap2 ys hl2 (s.extract k s.size) (w2.alloc (.cells #[.int .i64 0, .int .i64 0] 44)) hRb).mono ?_); rw [HV2.out]; rintro e w3 ⟨rfl, hb0⟩; have hb3 : Below wr.heap.size wr w3 := (hb2.trans ((below1 w2 (.cells #[.int .i64 0, .int .i64 0] 44)).mono hz2)).trans (hb0.mono (by (try simp only [World.size_alloc]); omega)); have hz3 : w2.heap.size ≤ w3.heap.size := (by have h := hb0.size; (try simp only [World.size_alloc] at h); omega); have hz4 := hb3.size; (try have p0 := (p0.below (below1 w2 (.cells #[.int .i64 0, .int .i64 0] 44)) p0.1).below hb0 (by have h := p0.1; (try simp only [World.size_alloc]); omega)); (try have p1 := (p1.below (below1 w2 (.cells #[.int .i64 0, .int .i64 0] 44)) p1.1).below hb0 (by have h := p1.1; (try simp only [World.size_alloc]); omega)); have r0 : Box2 w3 w2.heap.size 0 0 := (show Box2 (w2.alloc (.cells #[.int .i64 0, .int .i64 0] 44)) w2.heap.size 0 0 from Box2.new _ 0 0 _).below hb0 (by (try simp only [World.size_alloc]); omega); (try (have p0a := p0.2.1; have p0b := p0.2.2.1; have p0c := p0.2.2.2.1; have p0d := p0.2.2.2.2; have p0e := p0.1)); (try (have p1a := p1.2.1; have p1b := p1.2.2.1; have p1c := p1.2.2.2.1; have p1d := p1.2.2.2.2; have p1e := p1.1)); (try (have r0a := r0.2.1; have r0b := r0.2.2.1; have r0c := r0.2.2.2.1; have r0d := r0.2.2.2.2; have r0e := r0.1)); (try (have r1a := r1.2.1; have r1b := r1.2.2.1; have r1c := r1.2.2.2.1; have r1d := r1.2.2.2.2; have r1e := r1.1)))
            | (go_at_call 46; have hRb : Row ((w2.alloc (.cells #[.int .i64 0, .int .i64 0] 44)).alloc (.cells #[.int .i64 0, .int .i64 0] 44)) a2 ys := HR2q.out.below (hb2.trans ((below2 w2 (.cells #[.int .i64 0, .int .i64 0] 44) (.cells #[.int .i64 0, .int .i64 0] 44)).mono hz2)); (with_reducible refine (l01Value_row D N a2 cap2 ys hl2 (s.extract k s.size) ((w2.alloc (.cells #[.int .i64 0, .int .i64 0] 44)).alloc (.cells #[.int .i64 0, .int .i64 0] 44)) hRb).mono ?_); rw [HV2.out]; rintro e w3 ⟨rfl, hb0⟩; have hb3 : Below wr.heap.size wr w3 := (hb2.trans ((below2 w2 (.cells #[.int .i64 0, .int .i64 0] 44) (.cells #[.int .i64 0, .int .i64 0] 44)).mono hz2)).trans (hb0.mono (by (try simp only [World.size_alloc]); omega)); have hz3 : w2.heap.size ≤ w3.heap.size := (by have h := hb0.size; (try simp only [World.size_alloc] at h); omega); have hz4 := hb3.size; (try have p0 := (p0.below (below2 w2 (.cells #[.int .i64 0, .int .i64 0] 44) (.cells #[.int .i64 0, .int .i64 0] 44)) p0.1).below hb0 (by have h := p0.1; (try simp only [World.size_alloc]); omega)); (try have p1 := (p1.below (below2 w2 (.cells #[.int .i64 0, .int .i64 0] 44) (.cells #[.int .i64 0, .int .i64 0] 44)) p1.1).below hb0 (by have h := p1.1; (try simp only [World.size_alloc]); omega)); have r0 : Box2 w3 w2.heap.size 0 0 := (show Box2 ((w2.alloc (.cells #[.int .i64 0, .int .i64 0] 44)).alloc (.cells #[.int .i64 0, .int .i64 0] 44)) w2.heap.size 0 0 from (Box2.new w2 0 0 _).below (below1 _ _) (by simp)).below hb0 (by (try simp only [World.size_alloc]); omega); have r1 : Box2 w3 (w2.heap.size + 1) 0 0 := (show Box2 ((w2.alloc (.cells #[.int .i64 0, .int .i64 0] 44)).alloc (.cells #[.int .i64 0, .int .i64 0] 44)) (w2.heap.size + 1) 0 0 from (by have h := Box2.new (w2.alloc (.cells #[.int .i64 0, .int .i64 0] 44)) 0 0 44; rw [World.size_alloc] at h; exact h)).below hb0 (by (try simp only [World.size_alloc]); omega); (try (have p0a := p0.2.1; have p0b := p0.2.2.1; have p0c := p0.2.2.2.1; have p0d := p0.2.2.2.2; have p0e := p0.1)); (try (have p1a := p1.2.1; have p1b := p1.2.2.1; have p1c := p1.2.2.2.1; have p1d := p1.2.2.2.2; have p1e := p1.1)); (try (have r0a := r0.2.1; have r0b := r0.2.2.1; have r0c := r0.2.2.2.1; have r0d := r0.2.2.2.2; have r0e := r0.1)); (try (have r1a := r1.2.1; have r1b := r1.2.2.1; have r1c := r1.2.2.2.1; have r1d := r1.2.2.2.2; have r1e := r1.1)))
            | fail)
                all_goals (go_wp2_with fail; go_meet)
                all_goals (refine ⟨_, _, rfl, rfl, ?_, ⟨?_, ?_, ?_⟩, ⟨?_, ?_, ?_⟩⟩)
                all_goals (first | (with_reducible assumption) | ((repeat' (first | with_reducible exact hb3 | with_reducible exact hb2 | with_reducible exact Below.refl _ _ | (with_reducible refine Below.drew ?_) | (with_reducible refine Below.setCell ?_ (by (try dsimp only); omega) _) | (with_reducible refine Below.alloc ?_ (by (try simp only [World.size_alloc, World.size_setCell]); omega) _))); done) | (go_simp; done) | ((try simp only [World.size_alloc, World.size_setCell]); omega))
              case rest =>
                obtain ⟨gA, gB, rfl, rfl, hBy, hA, hA'⟩ := hcut
                obtain ⟨wy, rfl⟩ : ∃ wy : World, wy = wc := ⟨_, rfl⟩
                have hzy := hBy.size
                have p0 := hA.2.1
                have p1 := hA.2.2
                have HA := Lib.hid hA
                have HA' := Lib.hid hA'
                have HBy := Lib.hid hBy
                clear hBy hA hA' x0 x1 x2 y0 y1 y2 c0
                by_cases hp0 : p = 0
                · have HA5 := Lib.hid (show cutsUp f g s (k + 1) = some (a, b) from HN.out.trans (cutStep_1 (HZ1.out hp0)))
                  have hpb : (p == 0) = true := by simpa using hp0
                  have HZn := Lib.hid (fun W => zero_named (q := q) hpb W)
                  clear hpb hp0
                  go_wp2_with fail
                  refine (HZn.out _).mono ?_
                  rintro e w4 ⟨rfl, hb4⟩
                  have HB4 := Lib.hid (HBy.out.trans (hb4.mono hzy))
                  have hz4 := HB4.out.size
                  clear hb4 p0 p1
                  go_wp2
                  go_roundw
                  case rel => exact ⟨k + 1, a, b, by omega, by go_num, HA5.out, HBq.out.trans (HB4.out.mono (by omega)), HSq.out.below HB4.out hzq⟩
                  case measure => simp [intOf]; omega
                · have hpb : (p == 0) = false := by simpa using hp0
                  have HZn := Lib.hid (fun W => zero_named (q := q) hpb W)
                  have HP0 := Lib.hid hp0
                  clear hpb hp0
                  go_wp2_with fail
                  refine (HZn.out _).mono ?_
                  rintro e w4 ⟨rfl, hb4⟩
                  have HB4 := Lib.hid (HBy.out.trans (hb4.mono hzy))
                  have HA4 := Lib.hid (HA.out.below hb4 HA.out.1)
                  have HA4' := Lib.hid (HA'.out.below hb4 HA'.out.1)
                  have hz4 := HB4.out.size
                  clear hb4 p0 p1
                  have p0 := HA4'.out.2.1
                  have p1 := HA4'.out.2.2
                  by_cases hp0' : p' = 0
                  · have HA6 := Lib.hid (show cutsUp f g s (k + 1) = some (a, b) from HN.out.trans (cutStep_2 (HZ2.out hp0')))
                    have hpb : (p' == 0) = true := by simpa using hp0'
                    have HZn := Lib.hid (fun W => zero_named (q := q') hpb W)
                    clear hpb hp0'
                    go_wp2_with fail
                    refine (HZn.out _).mono ?_
                    rintro e w5 ⟨rfl, hb5⟩
                    have HB5 := Lib.hid (HB4.out.trans (hb5.mono hz4))
                    have hz5 := HB5.out.size
                    clear hb5 p0 p1
                    go_wp2
                    go_roundw
                    case rel => exact ⟨k + 1, a, b, by omega, by go_num, HA6.out, HBq.out.trans (HB5.out.mono (by omega)), HSq.out.below HB5.out hzq⟩
                    case measure => simp [intOf]; omega
                  · have hpb : (p' == 0) = false := by simpa using hp0'
                    have HZn := Lib.hid (fun W => zero_named (q := q') hpb W)
                    have HN2 := Lib.hid (HN.out.trans (cutStep_3 (HE1.out HP0.out) (HE2.out hp0')))
                    clear hpb hp0'
                    go_wp2_with fail
                    refine (HZn.out _).mono ?_
                    rintro e w5 ⟨rfl, hb5⟩
                    have HB5 := Lib.hid (HB4.out.trans (hb5.mono hz4))
                    have HA5 := Lib.hid (HA4.out.below hb5 HA4.out.1)
                    have HA5' := Lib.hid (HA4'.out.below hb5 HA4'.out.1)
                    have hz5 := HB5.out.size
                    clear hb5 p0 p1
                    have hpf := isF_abs HFp.out
                    have hpf' := isF_abs HFp'.out
                    have hab := isF_abs HFa.out
                    obtain ⟨X, hX⟩ : ∃ X, fN (p * p') (q * q') = X := ⟨_, rfl⟩
                    obtain ⟨Y, hY⟩ : ∃ Y, fD (p * p') (q * q') = Y := ⟨_, rfl⟩
                    obtain ⟨o1, ho1⟩ : ∃ o, fOk (p * p') (q * q') = o := ⟨_, rfl⟩
                    obtain ⟨X2, hX2⟩ : ∃ X2, fN (a * Y + X * b) (b * Y) = X2 := ⟨_, rfl⟩
                    obtain ⟨Y2, hY2⟩ : ∃ Y2, fD (a * Y + X * b) (b * Y) = Y2 := ⟨_, rfl⟩
                    obtain ⟨o2, ho2⟩ : ∃ o, fOk (a * Y + X * b) (b * Y) = o := ⟨_, rfl⟩
                    have hbd := f_bd (p * p') (q * q')
                    rw [hX, hY] at hbd
                    have HTf := Lib.hid (fun W => times_named hX hY ho1 hpf.1 hpf.2.1 hpf'.1 hpf'.2.1 W)
                    have HPl := Lib.hid (fun W => plus_named hX2 hY2 ho2 hab.1 hab.2.1 hbd.1 hbd.2 W)
                    have HBad := Lib.hid (show (o1 && o2) = false → prodL f g (allW D N) = none from fun h => by
                      unfold prodL
                      rw [prodOk_no HInS.out (cutsUp_dead (k := k + 1) (by
                        rw [HN2.out]
                        cases h1 : fOk (p * p') (q * q') with
                        | false => exact apS_bad1 h1
                        | true =>
                          rw [h1] at ho1
                          rw [← ho1, Bool.true_and] at h
                          exact apS_bad2 h1 hX hY (ho2.trans h)) (by omega))]
                      rfl)
                    have HGood := Lib.hid (show o1 = true → o2 = true → cutsUp f g s (k + 1) = some (X2, Y2) from fun h1 h2 => by
                      rw [HN2.out, ← hX2, ← hY2]
                      exact apS_good (ho1.trans h1) hX hY (ho2.trans h2))
                    have p0 := HA5.out.2.1
                    have p1 := HA5.out.2.2
                    have p2 := HA5'.out.2.1
                    have p3 := HA5'.out.2.2
                    clear hpf hpf' hab hbd hX hY ho1 hX2 hY2 ho2
                    go_wp2_with fail
                    refine (HTf.out _).mono ?_
                    rintro e w6 ⟨rfl, hb6⟩
                    have HB6 := Lib.hid (HB5.out.trans (hb6.mono hz5))
                    have HS6 := Lib.hid (HSq.out.below HB6.out hzq)
                    have hz6 := HB6.out.size
                    have s0 := HS6.out.2.1
                    have s1 := HS6.out.2.2.1
                    have hs6 := HS6.out.1
                    clear hb6 p0 p1 p2 p3
                    go_wp2_with fail
                    refine (HPl.out _).mono ?_
                    rintro e w7 ⟨rfl, hb7⟩
                    have HB67 := Lib.hid ((below1 w6 (.cells #[.int .i64 X, .int .i64 Y] 44)).trans (hb7.mono (by simp)))
                    have HB7 := Lib.hid (HB6.out.trans (HB67.out.mono hz6))
                    have HS7 := Lib.hid (HSq.out.below HB7.out hzq)
                    have hz7 := HB7.out.size
                    have HWB7 := Lib.hid (HWB.out.trans (HB7.out.mono hzwr))
                    have hzw7 : w.heap.size + 1 + 1 < w7.heap.size := by omega
                    clear hb7 s0 s1
                    have bc := bcellB HWB7.out
                    have r0 : w7.cell? ⟨w.heap.size + 1 + 1, 0, none⟩ = some (.int .i64 0) := (bc.1 _ _ (by omega)).trans (by go_simp)
                    have r1 : w7.cell? ⟨w.heap.size + 1 + 1, 1, none⟩ = some (.int .i64 0) := (bc.1 _ _ (by omega)).trans (by go_simp)
                    have r2 : w7.cell? ⟨w.heap.size + 1 + 1, 2, none⟩ = some (.slice none 0 0) := (bc.1 _ _ (by omega)).trans (by go_simp)
                    have z0 : w7.frozen? ⟨w.heap.size + 1 + 1, 0, none⟩ = false := (bc.2 _ _ (by omega)).trans (by go_simp)
                    have z1 : w7.frozen? ⟨w.heap.size + 1 + 1, 1, none⟩ = false := (bc.2 _ _ (by omega)).trans (by go_simp)
                    have z2 : w7.frozen? ⟨w.heap.size + 1 + 1, 2, none⟩ = false := (bc.2 _ _ (by omega)).trans (by go_simp)
                    have HW7 := Lib.hid ((below3 w (.cells #[.int .i64 D, .int .i64 N, .slice a1 xs.length cap1] 26) (.cells #[.int .i64 D, .int .i64 N, .slice a2 ys.length cap2] 26) (.cells #[.int .i64 0, .int .i64 0, .slice none 0 0] 26)).trans (HWB7.out.mono (by omega)))
                    clear bc
                    cases o1 with
                    | false =>
                      go_wp2_with fail
                      rw [HBad.out rfl]
                      refine bodyPost_ret (v := .tuple #[.agg #[.int .i64 0, .int .i64 0, .slice none 0 0], .bool false]) (by simp [results, Tryz.results22, go_sem, r0, r1, r2, hzw7]) rfl ⟨rfl, ?_⟩
                      have hW := HW7.out
                      go_grown
                    | true =>
                      cases o2 with
                      | false =>
                        go_wp2_with fail
                        rw [HBad.out rfl]
                        refine bodyPost_ret (v := .tuple #[.agg #[.int .i64 0, .int .i64 0, .slice none 0 0], .bool false]) (by simp [results, Tryz.results22, go_sem, r0, r1, r2, hzw7]) rfl ⟨rfl, ?_⟩
                        have hW := HW7.out
                        go_grown
                      | true =>
                        have HA7 := Lib.hid (HGood.out rfl rfl)
                        have u0 := HS7.out.2.1
                        have u1 := HS7.out.2.2.1
                        have v0 := HS7.out.2.2.2.1
                        have v1 := HS7.out.2.2.2.2
                        have hu := HS7.out.1
                        clear r0 r1 r2 z0 z1 z2
                        go_wp2
                        go_roundw
                        case rel =>
                          refine ⟨k + 1, X2, Y2, by omega, by go_num, HA7.out, ?_, ?_⟩
                          · exact (((HBq.out.trans (HB7.out.mono (by omega))).setCell (p := ⟨w3.heap.size, 0, none⟩) (Nat.le_refl _) _).setCell (p := ⟨w3.heap.size, 1, none⟩) (Nat.le_refl _) _).alloc (by simp; omega) _
                          · exact (HS7.out.store X2 Y2).below (below1 _ _) (by simpa using hu)
                        case measure => simp [intOf]; omega
            · obtain rfl : k = s.size + 1 := by omega
              have HD := Lib.hid (show prodAt f g s = some (a, b) from HP.out)
              have HFa := Lib.hid (cutsUp_isF HP.out)
              have ck : ¬ ((s.size : Int) + 1) ≤ (s.size : Int) := by omega
              have s0 := HSq.out.2.1
              have s1 := HSq.out.2.2.1
              clear x0 x1 x2 y0 y1 y2
              go_wp2_with fail
              obtain ⟨oz, hoz⟩ : ∃ o, (a == 0) = o := ⟨_, rfl⟩
              refine (zero_named hoz _).mono ?_
              rintro e wz ⟨rfl, hbz⟩
              have HZW := Lib.hid (HWq.out.trans (hbz.mono HWq.out.size))
              have HSz2 := Lib.hid (HSq.out.below hbz hzq)
              have hzz := HZW.out.size
              have HBl3 := Lib.hid (HBl2.out.below HZW.out hzn2)
              have HO3 := Lib.hid (HOv2.out.below HZW.out (fun g h => (HOv2.out.lt g h).2))
              have HB3z := Lib.hid (HBk2.out.trans (HZW.out.mono hzr2))
              have HSW3 := Lib.hid (HSW2.out.below HZW.out hgw3)
              have hgwz : gw < wz.heap.size := by omega
              have HOK3 := Lib.hid (prodOk_one HOK2.out HD.out)
              have HT1 := Lib.hid (termsOf_one (f := f) (g := g) (ws := upto D j ++ ws.take i) HD.out)
              clear hbz s0 s1 c0
              cases oz with
              | true =>
                have ha0 : a = 0 := by simpa using hoz
                have HT2 := Lib.hid (show termsOf (prodF f g) (upto D j ++ ws.take (i + 1)) = termsOf (prodF f g) (upto D j ++ ws.take i) from by rw [HUpS.out, HT1.out, nzF_0 ha0]; simp)
                clear hoz ha0
                go_wp2
                go_roundw
                case rel => exact ⟨i + 1, by omega, by go_num, hgwz, HSW3.out, by rw [HUpS.out]; exact HOK3.out, av2, lv2, cv2, by rw [HT2.out]; exact HLv2.out, by rw [HT2.out]; exact HO3.out, HNv2.out, HNw2.out, HBl3.out, HB3z.out⟩
                case measure => simp [intOf]; omega
              | false =>
                have ha0 : a ≠ 0 := by simpa using hoz
                have HT2 := Lib.hid (show termsOf (prodF f g) (upto D j ++ ws.take (i + 1)) = termsOf (prodF f g) (upto D j ++ ws.take i) ++ [⟨s, a, b⟩] from by rw [HUpS.out, HT1.out, nzF_1 ha0])
                clear hoz ha0
                have t0 := HSz2.out.2.1
                have t1 := HSz2.out.2.2.1
                have cw0 : wz.cell? ⟨gw, i, none⟩ = some (.string s) := (HZW.out.cell (p := ⟨gw, i, none⟩) hgw3).trans HCS.out
                have n2 : wz.cell? ⟨w1.heap.size, 2, none⟩ = some (.slice av2 lv2 cv2) := HBl3.out.cell 2
                have nf : wz.frozen? ⟨w1.heap.size, 2, none⟩ = false := HBl3.out.frozen 2
                have hz4 := HBl3.out.lt
                have e1 := Ne.symm HNw2.out
                have e2 := Ne.symm HNv2.out
                have e3 : some w3.heap.size ≠ (Value.slice av2 lv2 cv2).ownBlock := fun e => by have := (HOv2.out.lt _ e.symm).2; omega
                have nf2 : (wz.alloc (.cells #[.string s, .int .i64 a, .int .i64 b] 74)).drew.frozen? ⟨w1.heap.size, 2, none⟩ = false := (frozen_alloc_lt _ hz4).trans nf
                have nc2 : (wz.alloc (.cells #[.string s, .int .i64 a, .int .i64 b] 74)).drew.cell? ⟨w1.heap.size, 2, none⟩ = some (.slice av2 lv2 cv2) := ((below1 wz _).cell (p := ⟨w1.heap.size, 2, none⟩) hz4).trans n2
                go_wp2_with fail
                go_region_law
                  ((refine step_append_lies _ (by rfl) _ _ _ (by rfl) (w.heap.size + 1 + 1 + 1) 74 i0 _ 3 32 Tryz.underlying24 hi0 hi1 hi2 hi3 rfl (by omega) (.slice av2 lv2 cv2) lv2 (cellsT (termsOf (prodF f g) (upto D j ++ ws.take i))) (by rfl) (by have h := HO3.out; unfold OwnT at h; rw [← HLv2.out] at h; exact (h.alloc _).drew)
                      ⟨wz.heap.size, 0, none⟩ 1 1 [.string s, .int .i64 a, .int .i64 b] (by rfl) (by rfl) (World.news_of_block (cs := #[.string s, .int .i64 a, .int .i64 b]) (t := 74) (fr := (0, 0)) (heap_alloc_new wz _)) (by simp [Value.oneCell'])
                      (by omega) (by have := HLe.out; rw [← HLv2.out] at this; unfold maxLen; omega) (by have := HLe.out; rw [← HLv2.out] at this; omega) (by simp; omega) (wz.heap.size + 1) (by simp) ?_; intro gg cg w5 hown1 hgrow hat hlt2; have q0 := (hgrow.cell_far ⟨w1.heap.size, 2, none⟩ (by simp; omega) e2).trans nc2; have q1 := (hgrow.frozen_far ⟨w1.heap.size, 2, none⟩ (by simp; omega) e2).trans nf2))
                all_goals
                  have hT := Lib.hid (TRel.step (x := .int .i64 D) (y := .int .i64 N) ⟨s, a, b⟩ (by rw [HUpS.out]; exact HOK3.out) HT2.out HLv2.out HO3.out HNv2.out HNw2.out HBl3.out HB3z.out (by omega) (by omega) hgwz hown1 hgrow hat)
                  have hS3 := Lib.hid (strs_step (n := w1.heap.size) (u := .slice (some ⟨gg, 0, none⟩) (lv2 + 1) cg) HSW3.out hgwz hgn hgrow HNw2.out)
                  have hg5 : gw < w5.heap.size := by have := hgrow.size; simp at this; omega
                  clear hown1 hgrow hat
                  go_wp2
                  go_roundw
                  case rel => exact ⟨i + 1, by omega, by go_num, by simpa using hg5, hS3.out, hT.out⟩
                  case measure => simp [intOf]; omega
        · obtain rfl : i = ws.length := by omega
          have hge : ¬ (ws.length : Int) < (ws.length : Int) := by omega
          have HT := Lib.hid (show TRel f g (upto D (j + 1)) (w.heap.size + 1 + 1 + 1) w1.heap.size (.int .i64 D) (.int .i64 N) (((w.alloc (.cells #[.int .i64 D, .int .i64 N, .slice a1 xs.length cap1] 26)).alloc (.cells #[.int .i64 D, .int .i64 N, .slice a2 ys.length cap2] 26)).alloc (.cells #[.int .i64 0, .int .i64 0, .slice none 0 0] 26)) w1.heap.size wi from by
            rw [← HUp1.out]
            exact ⟨HOK2.out, av2, lv2, cv2, HLv2.out, HOv2.out, HNv2.out, HNv2.out, HBl2.out, HBk2.out⟩)
          go_wp2
          go_roundw
          case rel => exact ⟨j + 1, by omega, by go_num, HT.out⟩
          case measure => simp [intOf]; omega
    · obtain rfl : j = N + 1 := by omega
      have hge : ¬ ((N : Int) + 1) ≤ (N : Int) := by omega
      have n0 : wo.cell? ⟨w1.heap.size, 0, none⟩ = some (.int .i64 D) := HBl.out.cell 0
      have n1 : wo.cell? ⟨w1.heap.size, 1, none⟩ = some (.int .i64 N) := HBl.out.cell 1
      have n2 : wo.cell? ⟨w1.heap.size, 2, none⟩ = some (.slice av lv cv) := HBl.out.cell 2
      have bc := bcellB HBk.out
      have r0 : wo.cell? ⟨w.heap.size + 1 + 1, 0, none⟩ = some (.int .i64 0) := (bc.1 _ _ (by omega)).trans (by go_simp)
      have r1 : wo.cell? ⟨w.heap.size + 1 + 1, 1, none⟩ = some (.int .i64 0) := (bc.1 _ _ (by omega)).trans (by go_simp)
      have r2 : wo.cell? ⟨w.heap.size + 1 + 1, 2, none⟩ = some (.slice none 0 0) := (bc.1 _ _ (by omega)).trans (by go_simp)
      have z0 : wo.frozen? ⟨w.heap.size + 1 + 1, 0, none⟩ = false := (bc.2 _ _ (by omega)).trans (by go_simp)
      have z1 : wo.frozen? ⟨w.heap.size + 1 + 1, 1, none⟩ = false := (bc.2 _ _ (by omega)).trans (by go_simp)
      have z2 : wo.frozen? ⟨w.heap.size + 1 + 1, 2, none⟩ = false := (bc.2 _ _ (by omega)).trans (by go_simp)
      have HL := Lib.hid (show prodL f g (allW D N) = some (termsOf (prodF f g) (allW D N)) from by
        have h := HOK.out
        rw [upto_all] at h
        unfold prodL
        rw [h, if_pos rfl])
      have HO2 := Lib.hid (show OwnT wo (w.heap.size + 1 + 1 + 1) (.slice av lv cv) (termsOf (prodF f g) (allW D N)) from by rw [← upto_all]; exact HOv.out)
      have HL2 := Lib.hid (show lv = (termsOf (prodF f g) (allW D N)).length from by rw [← upto_all]; exact HLv.out)
      have HWo := Lib.hid ((below3 w (.cells #[.int .i64 D, .int .i64 N, .slice a1 xs.length cap1] 26) (.cells #[.int .i64 D, .int .i64 N, .slice a2 ys.length cap2] 26) (.cells #[.int .i64 0, .int .i64 0, .slice none 0 0] 26)).trans (HBk.out.mono (by omega)))
      clear bc
      go_wp2
      have hO3 := ((HO2.out.far (p := ⟨w.heap.size + 1 + 1, 0, none⟩) (own_far HO2.out (n := w.heap.size + 1 + 1) (by omega)) (.int .i64 D)).far (p := ⟨w.heap.size + 1 + 1, 1, none⟩) (own_far HO2.out (n := w.heap.size + 1 + 1) (by omega)) (.int .i64 N)).far (p := ⟨w.heap.size + 1 + 1, 2, none⟩) (own_far HO2.out (n := w.heap.size + 1 + 1) (by omega)) (.slice av lv cv)
      obtain ⟨a', c', he, hle, hNr⟩ := hO3.newRow
      injection he with e1 e2 e3
      subst e1 e3
      rw [HL.out]
      refine bodyPost_ret (v := .tuple #[.agg #[.int .i64 D, .int .i64 N, .slice av (termsOf (prodF f g) (allW D N)).length cv], .bool true]) (by rw [← HL2.out]; simp [results, Tryz.results22, go_sem, r0, r1, r2]) rfl ⟨av, cv, rfl, ?_, hNr.mono (by omega) (Nat.le_refl _)⟩
      have hW := HWo.out
      go_grown
end Go.Proofs.YteljpgoaaelbfaaGreatDoor

