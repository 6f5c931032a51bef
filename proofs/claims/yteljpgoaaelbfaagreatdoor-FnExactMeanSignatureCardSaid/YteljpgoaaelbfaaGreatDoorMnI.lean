/-
  The mean of the steps' signatures: its values; the closure of the program's MeanSignature.
-/
import Derived.Test.YteljpgoaaelbfaaGreatDoorSigS
import Derived.Test.YteljpgoaaelbfaaGreatDoorSopF
import Derived.Deep.RegionHeld2
import Derived.Deep.RegionHeld3
namespace Go.Proofs.YteljpgoaaelbfaaGreatDoor
open Go.RowKit
set_option linter.unusedVariables false

/-- the sum of the signatures of the first k steps -/
def mnV (ps : List (List Int)) (ws : List ByteArray) (N : Nat) : Nat → Option VF
  | 0 => some noneF
  | k + 1 => (mnV ps ws N k).bind fun s => (expV (stepV (ps.getD k [])) ws N).bind fun e => addK e 1 1 ws s
theorem mnV_1 {ps : List (List Int)} {ws : List ByteArray} {N k : Nat} (h : expV (stepV (ps.getD k [])) ws N = none) : mnV ps ws N (k + 1) = none := by
  rw [mnV, h]
  cases mnV ps ws N k <;> rfl
theorem mnV_2 {ps : List (List Int)} {ws : List ByteArray} {N k : Nat} {s e : VF} (h : mnV ps ws N k = some s) (h2 : expV (stepV (ps.getD k [])) ws N = some e) : mnV ps ws N (k + 1) = addK e 1 1 ws s := by rw [mnV, h, h2]; rfl
theorem mnV_dead {ps : List (List Int)} {ws : List ByteArray} {N k : Nat} (h : mnV ps ws N k = none) : ∀ {m : Nat}, k ≤ m → mnV ps ws N m = none
  | 0, hm => by obtain rfl : k = 0 := by omega
                exact h
  | m + 1, hm => by
    by_cases e : k = m + 1
    · subst e; exact h
    · rw [mnV, mnV_dead h (show k ≤ m by omega)]; rfl
theorem mnV_good {ps : List (List Int)} {D N : Nat} : ∀ {k : Nat} {s : VF}, mnV ps (allW D N) N k = some s → GoodV (allW D N) s
  | 0, s, h => by rw [mnV] at h; injection h with h; rw [← h]; exact good_none _
  | k + 1, s, h => by
    rw [mnV] at h
    obtain ⟨q, h1, h2⟩ := Option.bind_eq_some_iff.1 h
    obtain ⟨e, _, h3⟩ := Option.bind_eq_some_iff.1 h2
    exact GoodV.addK (mnV_good h1) (fun _ h => h) h3
/-- the mean -/
def meanV (ps : List (List Int)) (ws : List ByteArray) (N : Nat) : Option VF := (mnV ps ws N ps.length).bind fun s => addK s 1 (ps.length : Int) ws noneF
theorem meanV_1 {ps : List (List Int)} {ws : List ByteArray} {N : Nat} (h : mnV ps ws N ps.length = none) : meanV ps ws N = none := by unfold meanV; rw [h]; rfl
theorem meanV_2 {ps : List (List Int)} {ws : List ByteArray} {N : Nat} {s : VF} (h : mnV ps ws N ps.length = some s) : meanV ps ws N = addK s 1 (ps.length : Int) ws noneF := by unfold meanV; rw [h]; rfl
theorem meanV_good {ps : List (List Int)} {D N : Nat} {s : VF} (h : meanV ps (allW D N) N = some s) : GoodV (allW D N) s := by
  unfold meanV at h
  obtain ⟨q, _, h2⟩ := Option.bind_eq_some_iff.1 h
  exact GoodV.addK (good_none _) (fun _ h => h) h2
theorem isF_over {m : Nat} (h1 : 1 ≤ m) (h2 : m ≤ 12) : isF 1 (m : Int) = true := by
  simp only [isF, decide_eq_true_eq]
  refine ⟨by omega, by omega, by omega, by omega, ?_⟩
  unfold gi
  simp
theorem few_or {f : FuncId} {args : Array Value} {w : World} {m : Nat} {R : Ending → World → Prop} {r : Option VF} (h : Calls Tryz.prog f args w (FewPost r m w)) (hp : r = none → ∀ w', Below w.heap.size w w' → R (.panicked [misP 3]) w')
    (hy : ∀ (b n : Nat) (h' : VF) (w' : World), r = some h' → w.heap.size ≤ b → Below w.heap.size w w' → n ≤ m → MapV w' b n h' → R (.returned (.map (some b))) w') : Calls Tryz.prog f args w R := by
  refine h.mono ?_
  cases r with
  | none => rintro e w' ⟨rfl, hb⟩; exact hp rfl w' hb
  | some h' => rintro e w' ⟨b, n, rfl, h1, h2, h3, h4⟩; exact hy b n h' w' rfl h1 h2 h3 h4
theorem add_or2 {f : FuncId} {args : Array Value} {w : World} {b n : Nat} {R : Ending → World → Prop} {r : Option VF} (h : Calls Tryz.prog f args w (AddPost r b n w)) (hp : r = none → ∀ w', w.grownBy w' (some b) → R (.panicked [misP 3]) w')
    (hy : ∀ (h' : VF) (w' : World), r = some h' → MapV w' b n h' → w.grownBy w' (some b) → R (.returned (.tuple #[])) w') : Calls Tryz.prog f args w R := by
  refine h.mono ?_
  cases r with
  | none => rintro e w' ⟨rfl, hg⟩; exact hp rfl w' hg
  | some h' => rintro e w' ⟨rfl, hM, hg⟩; exact hy h' w' rfl hM hg
theorem gr_of_b {w w' : World} (h : Below w.heap.size w w') (r : Option Nat) : w.grownBy w' r := ⟨h.os, h.tape, h.output, h.size, fun k hk _ => h.block k hk⟩

set_option maxRecDepth 100000 in
set_option maxHeartbeats 16000000 in
theorem meanWork (D N : Nat) (hD : 1 ≤ D ∧ D ≤ 3) (hN : 1 ≤ N ∧ N ≤ 5) (p pp : Nat) (aS a1 : Option Addr) (cS c1 lo hi : Nat) (ps : List (List Int)) (hp : pathB D ps = true) (hp0 : 1 ≤ ps.length) (w : World) (hpw : p < w.heap.size) (hpp : pp < w.heap.size) (s0 : w.cell? ⟨p, 0, none⟩ = some (.int .i64 D)) (s1 : w.cell? ⟨p, 1, none⟩ = some (.int .i64 N)) (s2 : w.cell? ⟨p, 2, none⟩ = some (.slice aS (allW D N).length cS)) (x0 : w.cell? ⟨pp, 0, none⟩ = some (.slice a1 ps.length c1)) (hrs : SRow w aS (allW D N)) (hr1 : PRow lo hi w a1 ps) (hh : hi ≤ w.heap.size) :
    Calls Tryz.prog 28 #[.pointer (some ⟨pp, 0, none⟩), .pointer (some ⟨p, 0, none⟩)] w (WorkPost (meanV ps (allW D N) N) w) := by
  have hmm := @run_makeMap Tryz.prog
  obtain ⟨-, hl12, hst⟩ := pathB_true hp
  have hfew := allW_few (D := D) hD.2 (n := N) hN.2
  have HWl := Lib.hid (show (allW D N).length ≤ 100000 by omega)
  have HWs := Lib.hid (show ∀ s ∈ allW D N, s.size ≤ 1000 from fun s hs => by have := allW_size D N s hs; omega)
  have HU := Lib.hid (good_unit D N)
  have HAa := Lib.hid (show ∀ p, aS = some p → p.block < w.heap.size from fun p e => by
    rcases hrs with h | ⟨b, o, e2, h3, _⟩
    · obtain ⟨r, hr, _⟩ := allW_head D N
      rw [hr] at h
      cases h
    · rw [e2] at e
      injection e with e
      rw [← e]
      exact h3)
  have HRS := Lib.hid hrs
  have HR := Lib.hid hr1
  have HSt := Lib.hid hst
  have KS := Lib.hid (show ∀ w', Below w.heap.size w w' → (w'.cell? ⟨p, 0, none⟩ = some (.int .i64 D) ∧ w'.cell? ⟨p, 1, none⟩ = some (.int .i64 N) ∧ w'.cell? ⟨p, 2, none⟩ = some (.slice aS (allW D N).length cS)) from fun w' hb => ⟨(hb.cell (p := ⟨p, 0, none⟩) hpw).trans s0, (hb.cell (p := ⟨p, 1, none⟩) hpw).trans s1, (hb.cell (p := ⟨p, 2, none⟩) hpw).trans s2⟩)
  have KX := Lib.hid (show ∀ w', Below w.heap.size w w' → w'.cell? ⟨pp, 0, none⟩ = some (.slice a1 ps.length c1) from fun w' hb => (hb.cell (p := ⟨pp, 0, none⟩) hpp).trans x0)
  obtain ⟨o, ho⟩ : ∃ o, meanV ps (allW D N) N = o := ⟨_, rfl⟩
  rw [ho]
  have HOut := Lib.hid ho
  have HO1 := Lib.hid (fun h => (show o = none from ho.symm.trans (meanV_1 h)))
  have HO2 := Lib.hid (fun s h => (show o = addK s 1 (ps.length : Int) (allW D N) noneF from ho.symm.trans (meanV_2 h)))
  have hx9 := KX.out (w.alloc (.map #[] 0)) (below1 w _)
  clear hrs hr1 hst hp ho s0 s1 s2 x0
  go_enter Tryz.func28, Tryz.ntmps28
  go_wp2_with fail
  clear hmm
  have hb1 := below1 w (.map #[] 0)
  have HM1 := Lib.hid (MapV.made w)
  refine (movesOf_c lo hi a1 c1 ps hl12 (fun i hi => by have h1 := (stepB_true (HSt.out i hi)).1; omega) _ (HR.out.below hb1 hh) (by simp; omega)).mono ?_
  rintro e w2 ⟨am, cm, rfl, hb2, hO2⟩
  have hz2 := hb2.size
  simp only [World.size_alloc] at hz2
  have HM2 := Lib.hid (HM1.out.below hb2 (by simp))
  have HB2 := Lib.hid (hb1.trans (hb2.mono (by simp)))
  have HMv := Lib.hid (show ∀ k, k < ps.length → ∃ bm, am = some ⟨bm, 0, none⟩ ∧ w.heap.size < bm ∧ bm < w2.heap.size ∧ w2.cell? ⟨bm, k * 3, none⟩ = some (.int .i64 ((ps.getD k []).getD 0 0)) ∧ w2.cell? ⟨bm, k * 3 + 1, none⟩ = some (.int .i64 ((ps.getD k []).getD 1 0)) ∧ w2.cell? ⟨bm, k * 3 + 2, none⟩ = some (.int .i64 ((ps.getD k []).getD 2 0)) from fun k hk => by
    rcases hO2.at_.2 with h | ⟨bm, e2, h1, h2, h3, h4⟩
    · rw [List.map_eq_nil_iff] at h
      rw [h] at hk; simp at hk
    · simp only [World.size_alloc] at h1
      obtain ⟨d0, d1, d2⟩ := h4 k (by simpa using hk)
      rw [Nat.zero_add] at d0 d1 d2
      rw [mv_get] at d0 d1 d2
      exact ⟨bm, e2, by omega, h2, d0, d1, d2⟩)
  have HLn := Lib.hid (show (ps.map mvOf).length = ps.length from by simp)
  clear hb2 hO2 hb1 hx9
  rw [HLn.out]
  go_wp2_with fail
  go_loopw [10] (fun vi wr => ∃ (k : Nat) (s : VF) (n : Nat), k ≤ ps.length ∧ vi = .int .i64 k ∧ mnV ps (allW D N) N k = some s ∧ n ≤ k * 1458 ∧ MapV wr w.heap.size n s ∧ w2.grownBy wr (some w.heap.size)) (fun vi _ => ps.length - (intOf vi).toNat)
  case atStart => exact ⟨0, noneF, 0, Nat.zero_le _, rfl, rfl, Nat.zero_le _, HM2.out, World.grownBy.refl w2 _⟩
  case round =>
    obtain ⟨k, s, n, hk, rfl, hsk, hn, hM, hG⟩ := hrel
    have HSk := Lib.hid hsk
    have HM := Lib.hid hM
    have HG := Lib.hid hG
    have hzw := hG.size
    have HB := Lib.hid (HB2.out.trans (below_of_grown hG (fun g e => by injection e with e; omega) (by omega)))
    have hlb := hM.lt
    clear hsk hM hG
    by_cases hlt : k < ps.length
    · have hsb := HSt.out k hlt
      have hgd : ps.getD k [] = ps[k] := by rw [List.getD_eq_getElem?_getD, List.getElem?_eq_getElem hlt]; rfl
      have HGx0 : GoodV (allW D N) (stepV (ps.getD k [])) := by rw [hgd]; exact stepV_good hD hN.1 hsb
      have hbd : ∀ i, -1000000000 ≤ (ps.getD k []).getD i 0 ∧ (ps.getD k []).getD i 0 ≤ 1000000000 := fun i => by
        rw [hgd]
        obtain ⟨_, hb⟩ := stepB_true hsb
        by_cases hi : i < (ps[k]).length
        · have := hb i hi
          rw [List.getD_eq_getElem?_getD, List.getElem?_eq_getElem hi]
          show -1000000000 ≤ (ps[k])[i] ∧ (ps[k])[i] ≤ 1000000000
          omega
        · rw [List.getD_eq_getElem?_getD, List.getElem?_eq_none (by omega)]
          decide
      have HNx1 := Lib.hid (mnV_1 (ps := ps) (ws := allW D N) (N := N) (k := k))
      have HNx2 := Lib.hid (fun e h => mnV_2 (ps := ps) (ws := allW D N) (N := N) (k := k) (e := e) HSk.out h)
      have HDd := Lib.hid (fun (hq : mnV ps (allW D N) N (k + 1) = none) => mnV_dead hq (show k + 1 ≤ ps.length from hlt))
      obtain ⟨bm, rfl, hbm0, hbm1, d0, d1, d2⟩ := HMv.out k hlt
      have d0 := (gr_cell HG.out hbm1 (by omega)).trans d0
      have d1 := (gr_cell HG.out hbm1 (by omega)).trans d1
      have d2 := (gr_cell HG.out hbm1 (by omega)).trans d2
      have b0 := hbd 0
      have b1 := hbd 1
      have b2 := hbd 2
      have HSv := Lib.hid (show stepV (ps.getD k []) = stepF ((ps.getD k []).getD 0 0) ((ps.getD k []).getD 1 0) ((ps.getD k []).getD 2 0) from rfl)
      rw [HSv.out] at HGx0 HNx1 HNx2
      clear hgd hsb hbd HSv
      generalize (ps.getD k []).getD 0 0 = x0 at d0 b0 HGx0 HNx1 HNx2
      generalize (ps.getD k []).getD 1 0 = x1 at d1 b1 HGx0 HNx1 HNx2
      generalize (ps.getD k []).getD 2 0 = x2 at d2 b2 HGx0 HNx1 HNx2
      have HGx := Lib.hid HGx0
      clear HGx0
      go_upto_region 5 with fail
      have HBv := Lib.hid (HB.out.trans ((below1 wr (.cells #[.int .i64 x0, .int .i64 x1, .int .i64 x2] 58)).mono HB.out.size))
      have HGv := Lib.hid (gr_trans HG.out (gr_of_b (below1 wr (.cells #[.int .i64 x0, .int .i64 x1, .int .i64 x2] 58)) (some w.heap.size)))
      have HMs := Lib.hid (HM.out.alloc (.cells #[.int .i64 x0, .int .i64 x1, .int .i64 x2] 58))
      have c0 : (wr.alloc (.cells #[.int .i64 x0, .int .i64 x1, .int .i64 x2] 58)).cell? ⟨wr.heap.size, 0, none⟩ = some (.int .i64 x0) := by go_simp
      have c1 : (wr.alloc (.cells #[.int .i64 x0, .int .i64 x1, .int .i64 x2] 58)).cell? ⟨wr.heap.size, 1, none⟩ = some (.int .i64 x1) := by go_simp
      have c2 : (wr.alloc (.cells #[.int .i64 x0, .int .i64 x1, .int .i64 x2] 58)).cell? ⟨wr.heap.size, 2, none⟩ = some (.int .i64 x2) := by go_simp
      have hzv : wr.heap.size < (wr.alloc (.cells #[.int .i64 x0, .int .i64 x1, .int .i64 x2] 58)).heap.size := by simp
      generalize (wr.alloc (.cells #[.int .i64 x0, .int .i64 x1, .int .i64 x2] 58)) = wv at *
      have hzp : p < wv.heap.size := by omega
      obtain ⟨e0, e1, e2⟩ := KS.out wv HBv.out
      have hne1 : p ≠ w.heap.size := by omega
      have hne2 : wr.heap.size ≠ w.heap.size := by omega
      have KB := Lib.hid (show ∀ w', Below wv.heap.size wv w' → (w'.cell? ⟨p, 0, none⟩ = some (.int .i64 D) ∧ w'.cell? ⟨p, 1, none⟩ = some (.int .i64 N) ∧ w'.cell? ⟨p, 2, none⟩ = some (.slice aS (allW D N).length cS) ∧ w'.cell? ⟨wr.heap.size, 0, none⟩ = some (.int .i64 x0) ∧ w'.cell? ⟨wr.heap.size, 1, none⟩ = some (.int .i64 x1) ∧ w'.cell? ⟨wr.heap.size, 2, none⟩ = some (.int .i64 x2)) from fun w' hb => ⟨(hb.cell (p := ⟨p, 0, none⟩) hzp).trans e0, (hb.cell (p := ⟨p, 1, none⟩) hzp).trans e1, (hb.cell (p := ⟨p, 2, none⟩) hzp).trans e2, (hb.cell (p := ⟨wr.heap.size, 0, none⟩) hzv).trans c0, (hb.cell (p := ⟨wr.heap.size, 1, none⟩) hzv).trans c1, (hb.cell (p := ⟨wr.heap.size, 2, none⟩) hzv).trans c2⟩)
      have KG := Lib.hid (show ∀ w', wv.grownBy w' (some w.heap.size) → (w'.cell? ⟨p, 0, none⟩ = some (.int .i64 D) ∧ w'.cell? ⟨p, 1, none⟩ = some (.int .i64 N) ∧ w'.cell? ⟨p, 2, none⟩ = some (.slice aS (allW D N).length cS) ∧ w'.cell? ⟨wr.heap.size, 0, none⟩ = some (.int .i64 x0) ∧ w'.cell? ⟨wr.heap.size, 1, none⟩ = some (.int .i64 x1) ∧ w'.cell? ⟨wr.heap.size, 2, none⟩ = some (.int .i64 x2)) from fun w' hG => ⟨(gr_cell hG hzp hne1).trans e0, (gr_cell hG hzp hne1).trans e1, (gr_cell hG hzp hne1).trans e2, (gr_cell hG hzv hne2).trans c0, (gr_cell hG hzv hne2).trans c1, (gr_cell hG hzv hne2).trans c2⟩)
      obtain ⟨r, hr⟩ : ∃ r, expV (stepF x0 x1 x2) (allW D N) N = r := ⟨_, rfl⟩
      have HGg := Lib.hid (fun g2 (e : r = some g2) => show ∀ t q, g2 t = some q → isF q.1 q.2 = true from fun t q e' => (sumK_good (show sumK (stepF x0 x1 x2) (allW D N) expF (N + 1) = some g2 from hr.trans e) t q e').2.1)
      have HVw := Lib.hid (fun W (hW : Below wv.heap.size wv W) => stepSignature_c D N hN.2 aS cS (allW D N) HWl.out HWs.out HU.out x0 x1 x2 b0 b1 b2 HGx.out W (HRS.out.below (HBv.out.trans (hW.mono (by omega))) (Nat.le_refl _)) (fun q e => Nat.lt_of_lt_of_le (HAa.out q e) (HBv.out.trans (hW.mono (by omega))).size))
      have HWf := Lib.hid (fun W (_ : Below wv.heap.size wv W) => wholeFraction_c 1 W)
      rw [hr] at HVw
      have HLn1 := Lib.hid (fun (e : r = none) => HO1.out (HDd.out (HNx1.out (hr.trans e))))
      have HSm := Lib.hid (fun g2 (e : r = some g2) => HNx2.out g2 (hr.trans e))
      have HAw := Lib.hid (fun g2 (e : r = some g2) bx mx (hne : w.heap.size < bx) W (hW : Below wv.heap.size wv W) m1 m2 => addMultiple_c D N aS cS (allW D N) HWl.out HWs.out s g2 (mnV_good HSk.out) (HGg.out g2 e) 1 1 (by decide) w.heap.size n bx mx (by omega) (by omega) W (HRS.out.below (HBv.out.trans (hW.mono (by omega))) (Nat.le_refl _)) (fun q e' h => by have := HAa.out q e'; omega) m1 m2)
      have hzs : w.heap.size < wv.heap.size := by omega
      clear d0 d1 d2 c0 c1 c2 hr e0 e1 e2
      go_region_held2 (fun w' => w'.cell? ⟨p, 0, none⟩ = some (.int .i64 D) ∧ w'.cell? ⟨p, 1, none⟩ = some (.int .i64 N) ∧ w'.cell? ⟨p, 2, none⟩ = some (.slice aS (allW D N).length cS) ∧ w'.cell? ⟨wr.heap.size, 0, none⟩ = some (.int .i64 x0) ∧ w'.cell? ⟨wr.heap.size, 1, none⟩ = some (.int .i64 x1) ∧ w'.cell? ⟨wr.heap.size, 2, none⟩ = some (.int .i64 x2))
        (first | (exact KG.out _ hG9) | ((refine KB.out _ ?_); (repeat' (first | with_reducible assumption | with_reducible exact Below.refl _ _ | (with_reducible refine Below.drew ?_) | (with_reducible refine Below.setCell ?_ (by (try dsimp only); omega) _) | (with_reducible refine Below.alloc ?_ (by (try simp only [World.size_setCell]); (try simp only [World.size_drew]); (try simp only [World.size_alloc]); (try simp only [World.size_setCell]); (try simp only [World.size_alloc]); omega) _))); done) | fail)
        (first
          | (go_at_call 31; (with_reducible refine few_or (HVw.out _ ?_) ?_ ?_); (focus repeat' (first | with_reducible assumption | with_reducible exact Below.refl _ _ | (with_reducible refine Below.drew ?_) | (with_reducible refine Below.setCell ?_ (by (try dsimp only); omega) _) | (with_reducible refine Below.alloc ?_ (by (try simp only [World.size_setCell]); (try simp only [World.size_drew]); (try simp only [World.size_alloc]); (try simp only [World.size_setCell]); (try simp only [World.size_alloc]); omega) _))); (focus (intro e w' hb'; refine ⟨rfl, ?_⟩; rw [HLn1.out e]; exact ⟨rfl, HBv.out.trans ((below_step (by repeat' (first | with_reducible assumption | with_reducible exact Below.refl _ _ | (with_reducible refine Below.drew ?_) | (with_reducible refine Below.setCell ?_ (by (try dsimp only); omega) _) | (with_reducible refine Below.alloc ?_ (by (try simp only [World.size_setCell]); (try simp only [World.size_drew]); (try simp only [World.size_alloc]); (try simp only [World.size_setCell]); (try simp only [World.size_alloc]); omega) _))) hb' (Nat.le_refl _)).mono (by omega))⟩)); intro bx mx fx wx eX hlx hb0 hnx hMx; have hbx : Below wv.heap.size wv wx := below_step (by repeat' (first | with_reducible assumption | with_reducible exact Below.refl _ _ | (with_reducible refine Below.drew ?_) | (with_reducible refine Below.setCell ?_ (by (try dsimp only); omega) _) | (with_reducible refine Below.alloc ?_ (by (try simp only [World.size_setCell]); (try simp only [World.size_drew]); (try simp only [World.size_alloc]); (try simp only [World.size_setCell]); (try simp only [World.size_alloc]); omega) _))) hb0 (Nat.le_refl _); have hzx : w.heap.size < bx := (by (try simp only [World.size_drew] at hlx); (first | omega | (have hzf := hbf.size; omega))))
          | (go_at_call 32; (with_reducible refine (HWf.out _ ?_).mono ?_); (focus repeat' (first | with_reducible assumption | with_reducible exact Below.refl _ _ | (with_reducible refine Below.drew ?_) | (with_reducible refine Below.setCell ?_ (by (try dsimp only); omega) _) | (with_reducible refine Below.alloc ?_ (by (try simp only [World.size_setCell]); (try simp only [World.size_drew]); (try simp only [World.size_alloc]); (try simp only [World.size_setCell]); (try simp only [World.size_alloc]); omega) _))); rintro e wf ⟨rfl, hb0⟩; have hbf : Below wv.heap.size wv wf := below_step (by repeat' (first | with_reducible assumption | with_reducible exact Below.refl _ _ | (with_reducible refine Below.drew ?_) | (with_reducible refine Below.setCell ?_ (by (try dsimp only); omega) _) | (with_reducible refine Below.alloc ?_ (by (try simp only [World.size_setCell]); (try simp only [World.size_drew]); (try simp only [World.size_alloc]); (try simp only [World.size_setCell]); (try simp only [World.size_alloc]); omega) _))) hb0 (Nat.le_refl _); (try have hMx := hMx.below hb0 hMx.lt))
          | (go_at_call 30; (with_reducible refine add_or2 (HAw.out fx eX bx mx hzx _ ?_ ?_ ?_) ?_ ?_); (focus repeat' (first | with_reducible assumption | with_reducible exact Below.refl _ _ | (with_reducible refine Below.drew ?_) | (with_reducible refine Below.setCell ?_ (by (try dsimp only); omega) _) | (with_reducible refine Below.alloc ?_ (by (try simp only [World.size_setCell]); (try simp only [World.size_drew]); (try simp only [World.size_alloc]); (try simp only [World.size_setCell]); (try simp only [World.size_alloc]); omega) _))); (focus (first | (exact HMs.out.below hbf HMs.out.lt) | (exact HMs.out.below hbx HMs.out.lt) | fail)); (focus (with_reducible exact hMx)); (focus (intro e w' hg'; refine ⟨rfl, ?_⟩; rw [HO1.out (HDd.out ((HSm.out fx eX).trans e))]; refine ⟨rfl, HBv.out.trans (Below.trans (Below.mono (show Below wv.heap.size wv _ from (by assumption)) (by omega)) (below_of_grown hg' (fun g e => by injection e with e; omega) ?_))⟩; (first | (have := hbf.size; omega) | (have := hbx.size; omega)))); intro h9 w9 e9 hM9 hG0; have hG9 : wv.grownBy w9 (some w.heap.size) := gr_trans (gr_of_b (show Below wv.heap.size wv _ from (by assumption)) _) hG0)
          | fail)
      all_goals
        have HM9 := Lib.hid hM9
        have HG9 := Lib.hid (gr_trans HGv.out hG9)
        have HN9 := Lib.hid (show mnV ps (allW D N) N (k + 1) = some h9 from (HSm.out fx eX).trans e9)
        clear hM9 hG9
        go_wp2_with fail
        go_roundw
        case rel => exact ⟨k + 1, h9, n + (allW D N).length, hlt, by go_num, HN9.out, by omega, HM9.out, HG9.out⟩
        case measure => simp [intOf]; omega
    · obtain rfl : k = ps.length := by omega
      obtain ⟨e0, e1, e2⟩ := KS.out wr HB.out
      have e3 := KX.out wr HB.out
      have HMc := Lib.hid (multiple_c (D : Int) N aS cS (allW D N) HWl.out HWs.out s (mnV_good HSk.out) w.heap.size n wr (HRS.out.below HB.out (Nat.le_refl _)) (fun q e => Nat.lt_of_lt_of_le (HAa.out q e) HB.out.size) HM.out 1 (ps.length : Int) (isF_over hp0 hl12))
      rw [← HO2.out s HSk.out] at HMc
      go_wp2_with fail
      refine few_or HMc.out ?_ ?_
      · rintro rfl w' hb'
        exact ⟨rfl, rfl, HB.out.trans (hb'.mono HB.out.size)⟩
      · rintro b9 n9 h9 w9 rfl hlb9 hb9 hn9 hM9
        have HB9 := Lib.hid (HB.out.trans (hb9.mono HB.out.size))
        have HM9 := Lib.hid hM9
        have hz9 := HB.out.size
        clear hb9 hM9
        go_wp2
        go_ret
        exact ⟨b9, n9, rfl, by omega, HB9.out, by omega, HM9.out⟩
end Go.Proofs.YteljpgoaaelbfaaGreatDoor
