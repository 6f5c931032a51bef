/-
  Contracts of the model's DynkinMap.
-/
import Derived.Test.YtjjkkaikinjmdaaGreatDoorDynM
import Derived.Test.YtjjkkaikinjmdaaGreatDoorBvS
import Derived.Test.YtjjkkaikinjmdaaGreatDoorBox
import Derived.Test.YtjjkkaikinjmdaaGreatDoorNew4
import Derived.Deep.RegionHeld3
namespace Go.Proofs.YtjjkkaikinjmdaaGreatDoor
open Go.RowKit

set_option maxRecDepth 100000 in
set_option maxHeartbeats 4000000 in
theorem sDynkin_1 (L V : Int) (g1 : Nat) (xs : List Tm) (hl1 : xs.length ≤ 1048576) (hs1 : ∀ i (h : i < xs.length), (xs[i]).s.size ≤ maxLen) (h1 : serB L V xs = false) (w : World) (hb1 : g1 < w.heap.size) (t1 : TermsIn w g1 0 xs) :
    Calls Tryz.prog 16 #[.agg #[.int .i64 L, .int .i64 V, .slice (some ⟨g1, 0, none⟩) xs.length xs.length]] w (SerPost 0 0 [] 1 w) := by
  have HIs := Lib.hid (fun W (hW : Below w.heap.size w W) => l01Is_c L V g1 0 xs.length xs hl1 hs1 W (Nat.lt_of_lt_of_le hb1 hW.size) (t1.below hW hb1))
  rw [h1] at HIs
  clear hl1 hs1 h1 t1
  go_enter Tryz.func16, Tryz.ntmps16
  go_wp2_with fail
  refine (HIs.out _ (below2 w _ _)).mono ?_
  rintro e w1 ⟨rfl, hb⟩
  have hz1 : w.heap.size + 2 ≤ w1.heap.size := by have := hb.size; simpa using this
  have HB1 := Lib.hid (show Below (w.heap.size + 1 + 1) _ w1 from by simpa using hb)
  have bc := bcellB HB1.out
  have r0 : w1.cell? ⟨w.heap.size + 1, 0, none⟩ = some (.int .i64 0) := (bc.1 _ _ (by omega)).trans (by go_simp)
  have r1 : w1.cell? ⟨w.heap.size + 1, 1, none⟩ = some (.int .i64 0) := (bc.1 _ _ (by omega)).trans (by go_simp)
  have r2 : w1.cell? ⟨w.heap.size + 1, 2, none⟩ = some (.slice none 0 0) := (bc.1 _ _ (by omega)).trans (by go_simp)
  have z0 : w1.frozen? ⟨w.heap.size + 1, 0, none⟩ = false := (bc.2 _ _ (by omega)).trans (by go_simp)
  have z1 : w1.frozen? ⟨w.heap.size + 1, 1, none⟩ = false := (bc.2 _ _ (by omega)).trans (by go_simp)
  have z2 : w1.frozen? ⟨w.heap.size + 1, 2, none⟩ = false := (bc.2 _ _ (by omega)).trans (by go_simp)
  have HW := Lib.hid ((below2 w (.cells #[.int .i64 L, .int .i64 V, .slice (some ⟨g1, 0, none⟩) xs.length xs.length] 26) (.cells #[.int .i64 0, .int .i64 0, .slice none 0 0] 26)).trans (HB1.out.mono (by omega)))
  clear bc hb
  go_wp2
  refine bodyPost_ret (v := .tuple #[.agg #[.int .i64 0, .int .i64 0, .slice none 0 0], .int .i64 1]) (by simp [results, Tryz.results16, go_sem, r0, r1, r2]) rfl (SerPost.err 1 rfl ?_)
  have hW := HW.out
  go_grown

set_option maxRecDepth 100000 in
set_option maxHeartbeats 8000000 in
theorem sDynkin_2 (D N : Nat) (g1 : Nat) (xs : List Tm) (hl1 : xs.length ≤ 1048576) (hs1 : ∀ i (h : i < xs.length), (xs[i]).s.size ≤ maxLen) (h1 : serB D N xs = true) (w : World) (hb1 : g1 < w.heap.size) (t1 : TermsIn w g1 0 xs) :
    Calls Tryz.prog 16 #[.agg #[.int .i64 D, .int .i64 N, .slice (some ⟨g1, 0, none⟩) xs.length xs.length]] w (FitB D N (dynV (allW D N) xs) w) := by
  have hsh : shapeB (D : Int) (N : Int) = true := by unfold serB at h1; rw [Bool.and_eq_true] at h1; exact h1.1
  have hDN := shape_out hsh
  have hfew := few_ser h1
  have hW := allW_asc (D := D) (by omega) N
  have hwl := allW_few (D := D) (by omega) (n := N) (by omega)
  have HTerm := Lib.hid (fun k (hk : k < xs.length) => show (xs[k]).s.size ≤ 5 ∧ wordB (D : Int) (xs[k]).s.data.toList = true ∧ isF (xs[k]).n (xs[k]).d = true from by
    have h2 := ser_term h1 _ (List.getElem_mem hk)
    simp only [termB, Bool.and_eq_true, Bool.not_eq_true', beq_eq_false_iff_ne, decide_eq_true_eq] at h2
    exact ⟨by omega, h2.1.2, h2.2.1⟩)
  have HIs := Lib.hid (fun W (hW : Below w.heap.size w W) => l01Is_c D N g1 0 xs.length xs hl1 hs1 W (Nat.lt_of_lt_of_le hb1 hW.size) (t1.below hW hb1))
  rw [h1] at HIs
  have HT := Lib.hid t1
  have HLf := Lib.hid (fun (s : ByteArray) (hs : s.size ≤ 5) (hw : wordB (D : Int) s.data.toList = true) a n c W => l06Left_c D N (by omega) (by omega) (by omega) s (by omega) hw a n c W)
  have HGl := Lib.hid (fun (s : ByteArray) (hw : wordB (D : Int) s.data.toList = true) f (e : leftW (allW D N) s = some f) => leftV_good (D := D) (N := N) (by omega) (by omega) hw (Nat.le_refl _) e)
  have HAd := Lib.hid (fun (s p : VF) (hs : GoodV (allW D N) s) (hp : GoodV (allW D N) p) (x z : Int) (hxz : isF x z = true) aO aP cO cP W t1 t2 => (l02Add_c D N D N x z (isF_abs hxz).1 (isF_abs hxz).2.1 aO aP cO cP (termsOf s (allW D N)) (termsOf p (allW D N)) (by have := termsOf_len s (allW D N); omega) (by have := termsOf_len p (allW D N); omega) (terms_bd hs) (terms_bd hp) W t1 t2))
  have HPut := Lib.hid (fun (s p : VF) (x z : Int) => addK_put hW (g := p) (a := x) (b := z) (ws := allW D N) (fun _ h => h) s)
  have HNil := Lib.hid (show termsOf (fun _ => none) (allW D N) = [] by unfold termsOf; simp)
  obtain ⟨o, ho⟩ : ∃ o, dynV (allW D N) xs = o := ⟨_, rfl⟩
  rw [ho]
  have HOut := Lib.hid (show dynTo (allW D N) xs xs.length = o from ho)
  have HDead := Lib.hid (fun k (hk : k ≤ xs.length) (e : dynTo (allW D N) xs k = none) => (show o = none from HOut.out.symm.trans (dyn_dead e hk)))
  clear hs1 h1 t1 hsh hW hwl ho
  go_enter Tryz.func16, Tryz.ntmps16
  go_wp2_with fail
  refine (HIs.out _ (below2 w _ _)).mono ?_
  rintro e w1 ⟨rfl, hb⟩
  have hz1 : w.heap.size + 2 ≤ w1.heap.size := by have := hb.size; simpa using this
  have HB1 := Lib.hid (show Below (w.heap.size + 1 + 1) _ w1 from by simpa using hb)
  have bc := bcellB HB1.out
  have x0 : w1.cell? ⟨w.heap.size, 0, none⟩ = some (.int .i64 D) := (bc.1 _ _ (by omega)).trans (by go_simp)
  have x1 : w1.cell? ⟨w.heap.size, 1, none⟩ = some (.int .i64 N) := (bc.1 _ _ (by omega)).trans (by go_simp)
  have x2 : w1.cell? ⟨w.heap.size, 2, none⟩ = some (.slice (some ⟨g1, 0, none⟩) xs.length xs.length) := (bc.1 _ _ (by omega)).trans (by go_simp)
  have HT4a := Lib.hid (show T3 w1 (w.heap.size + 1) (.int .i64 0) (.int .i64 0) (.slice none 0 0) from ⟨by omega, (bc.1 _ _ (by omega)).trans (by go_simp), (bc.1 _ _ (by omega)).trans (by go_simp), (bc.1 _ _ (by omega)).trans (by go_simp), (bc.2 _ _ (by omega)).trans (by go_simp), (bc.2 _ _ (by omega)).trans (by go_simp), (bc.2 _ _ (by omega)).trans (by go_simp)⟩)
  have HW1 := Lib.hid ((below2 w (.cells #[.int .i64 D, .int .i64 N, .slice (some ⟨g1, 0, none⟩) xs.length xs.length] 26) (.cells #[.int .i64 0, .int .i64 0, .slice none 0 0] 26)).trans (HB1.out.mono (by omega)))
  clear bc hb
  go_wp2_with fail
  refine (l01Empty_c D N _ rfl _).mono ?_
  rintro e w2 ⟨g3, rfl, -, hb2⟩
  have hz2 : w1.heap.size ≤ w2.heap.size := hb2.size
  have y0 := (hb2.cell (p := ⟨w.heap.size, 0, none⟩) (by show w.heap.size < _; omega)).trans x0
  have y1 := (hb2.cell (p := ⟨w.heap.size, 1, none⟩) (by show w.heap.size < _; omega)).trans x1
  have y2 := (hb2.cell (p := ⟨w.heap.size, 2, none⟩) (by show w.heap.size < _; omega)).trans x2
  have HT4b := Lib.hid (HT4a.out.next hb2)
  have HW2 := Lib.hid (HW1.out.trans (hb2.mono (by omega)))
  clear x0 x1 x2 hb2
  go_wp2_with fail
  have hq := below1 w2 (.cells #[.int .i64 D, .int .i64 N, .slice (some ⟨g3, 0, none⟩) 0 0] 26)
  have hTo := T3.new w2 (D : Int) (N : Int) (some ⟨g3, 0, none⟩) 0 0 26
  have x0 := (hq.cell (p := ⟨w.heap.size, 0, none⟩) (by show w.heap.size < _; omega)).trans y0
  have x1 := (hq.cell (p := ⟨w.heap.size, 1, none⟩) (by show w.heap.size < _; omega)).trans y1
  have x2 := (hq.cell (p := ⟨w.heap.size, 2, none⟩) (by show w.heap.size < _; omega)).trans y2
  have HT4 := Lib.hid (HT4b.out.next hq)
  have HWb := Lib.hid (HW2.out.trans (hq.mono (by omega)))
  have HTo := Lib.hid hTo
  have hgz : w2.heap.size < (w2.alloc (.cells #[.int .i64 D, .int .i64 N, .slice (some ⟨g3, 0, none⟩) 0 0] 26)).heap.size := by simp
  generalize (w2.alloc (.cells #[.int .i64 D, .int .i64 N, .slice (some ⟨g3, 0, none⟩) 0 0] 26)) = wb at *
  obtain ⟨g, hg⟩ : ∃ g, w2.heap.size = g := ⟨_, rfl⟩
  rw [hg] at HTo hgz ⊢
  have hgw : w.heap.size + 2 ≤ g := by omega
  have hww : w.heap.size < wb.heap.size := by omega
  have KS := Lib.hid (show ∀ w', Below g wb w' → (w'.cell? ⟨w.heap.size, 0, none⟩ = some (.int .i64 D) ∧ w'.cell? ⟨w.heap.size, 1, none⟩ = some (.int .i64 N) ∧ w'.cell? ⟨w.heap.size, 2, none⟩ = some (.slice (some ⟨g1, 0, none⟩) xs.length xs.length)) from fun w' hb => ⟨(hb.cell (p := ⟨w.heap.size, 0, none⟩) (by show w.heap.size < _; omega)).trans x0, (hb.cell (p := ⟨w.heap.size, 1, none⟩) (by show w.heap.size < _; omega)).trans x1, (hb.cell (p := ⟨w.heap.size, 2, none⟩) (by show w.heap.size < _; omega)).trans x2⟩)
  clear hq hTo y0 y1 y2 x0 x1 x2 hz1 hz2 hg
  go_loopw [5] (fun v5 wr => ∃ (k : Nat) (f : VF) (aP : Option Addr) (lP cP : Nat), k ≤ xs.length ∧ v5 = .int .i64 k ∧ dynTo (allW D N) xs k = some f ∧ lP = (termsOf f (allW D N)).length ∧ T3 wr g (.int .i64 D) (.int .i64 N) (.slice aP lP cP) ∧ RowF (w.heap.size + 2) g g wr aP (termsOf f (allW D N)) ∧ Below g wb wr) (fun v5 _ => xs.length - (intOf v5).toNat)
  case atStart => exact ⟨0, fun _ => none, some ⟨g3, 0, none⟩, 0, 0, Nat.zero_le _, rfl, rfl, by rw [HNil.out]; rfl, HTo.out, .inl HNil.out, Below.refl _ _⟩
  case round =>
    obtain ⟨k, f, aP, lP, cP, hk, rfl, hfk, hlP, hTP, hRP, hB⟩ := hrel
    obtain ⟨wo, rfl⟩ : ∃ wo : World, wo = wr := ⟨_, rfl⟩
    subst hlP
    have HFk := Lib.hid hfk
    have HTP := Lib.hid hTP
    have HRP := Lib.hid hRP
    have HB := Lib.hid hB
    have hzo := hB.size
    have hwA := hTP.1
    have HBw := Lib.hid (HWb.out.trans (hB.mono (by omega)))
    obtain ⟨x0, x1, x2⟩ := KS.out wo hB
    have hwo : w.heap.size < wo.heap.size := by omega
    clear hfk hTP hRP hB
    by_cases hlt : k < xs.length
    · obtain ⟨hsz5, hwd, hisF⟩ := HTerm.out k hlt
      have hT := HT.out.below HBw.out hb1
      obtain ⟨c0, c1, c2⟩ := hT k hlt
      simp only [Nat.zero_add] at c0 c1 c2
      have HSk := Lib.hid (fun h0 => dyn_skip hlt h0 HFk.out)
      have HNx := Lib.hid (fun h0 => dyn_next hlt h0 HFk.out)
      obtain ⟨t, ht⟩ : ∃ t, xs[k] = t := ⟨_, rfl⟩
      rw [ht] at hsz5 hwd hisF c0 c1 c2 HSk HNx
      have hb1o : g1 < wo.heap.size := Nat.lt_of_lt_of_le hb1 HBw.out.size
      clear ht hT
      by_cases h0 : t.s.size = 0
      · have HN2 := Lib.hid (HSk.out h0)
        have he : t.s = ByteArray.empty := ByteArray.size_eq_zero_iff.1 h0
        have heq : t.s.toList.isEmpty = true := by rw [he, ByteArray.toList_eq]; rfl
        clear he
        go_wp2
        go_roundw
        case rel => exact ⟨k + 1, f, aP, _, cP, hlt, by go_num, HN2.out, rfl, HTP.out, HRP.out, HB.out⟩
        case measure => simp [intOf]; omega
      · have HN2 := Lib.hid (HNx.out h0)
        have hne := isEmpty_no (s := t.s) (by omega)
        have HLs := Lib.hid (HLf.out t.s hsz5 hwd (some ⟨g1, 0, none⟩) xs.length xs.length)
        have HGs := Lib.hid (HGl.out t.s hwd)
        have HIF := Lib.hid hisF
        have HOk := Lib.hid (fun (h : shOk t = false) => one_bad (ws := allW D N) (f := f) h)
        have HLn := Lib.hid (fun (h : leftW (allW D N) t.s = none) => one_none (f := f) h)
        have HSm := Lib.hid (fun g2 (h : shOk t = true) (h2 : leftW (allW D N) t.s = some g2) => one_some (f := f) h h2)
        obtain ⟨q, hq⟩ : ∃ q, dynOne (allW D N) t f = q := ⟨_, rfl⟩
        rw [hq] at HN2 HOk HLn HSm
        obtain ⟨r, hr⟩ : ∃ r, leftW (allW D N) t.s = r := ⟨_, rfl⟩
        rw [hr] at HLs HGs HLn HSm
        obtain ⟨s, n, d⟩ := t
        simp only at c0 c1 c2 hne hsz5 hwd hisF HLs HIF
        have HOv := Lib.hid (show ∀ W, Calls Tryz.prog 38 #[.agg #[.int .i64 n, .int .i64 d], .agg #[.int .i64 s.size, .int .i64 1]] W (fun e w' => e = .returned (.tuple #[.agg #[.int .i64 (shN ⟨s, n, d⟩), .int .i64 (shD ⟨s, n, d⟩)], .bool (shOk ⟨s, n, d⟩)]) ∧ Below W.heap.size W w') from fun W => l01Over_c n d s.size 1 (isF_abs hisF).1 (isF_abs hisF).2.1 (by omega) (by decide) W)
        have HShF := Lib.hid (fun (h : shOk ⟨s, n, d⟩ = true) => sh_isF h)
        obtain ⟨sa, hsa⟩ : ∃ sa, shN ⟨s, n, d⟩ = sa := ⟨_, rfl⟩
        obtain ⟨sb, hsb⟩ : ∃ sb, shD ⟨s, n, d⟩ = sb := ⟨_, rfl⟩
        obtain ⟨ok, hok⟩ : ∃ ok, shOk ⟨s, n, d⟩ = ok := ⟨_, rfl⟩
        rw [hsa, hsb, hok] at HOv HSm HShF
        rw [hok] at HOk
        have hk1 : IntKind.i64.wrap (s.size : Int) = s.size := IntWalk.i64_in _ ⟨by omega, by omega⟩
        clear hq hr hsa hsb hok hisF hwd HSk HNx h0
        go_wp2_with fail
        refine (HLs.out _).mono ?_
        rintro e w3 hpost
        obtain ⟨X3, Y3, a3, l3, c3, ok3, rfl, hb3, hU3⟩ := SumPost.u hpost
        have hz3 := hb3.size
        have HU3 := Lib.hid hU3
        have hb4 := hb3.trans ((below1 w3 (.cells #[.int .i64 X3, .int .i64 Y3, .slice a3 l3 c3] 26)).mono hz3)
        have hTb := T3.new w3 X3 Y3 a3 l3 c3 26
        have hUb := Lib.hid (hU3.below (below1 w3 (.cells #[.int .i64 X3, .int .i64 Y3, .slice a3 l3 c3] 26)))
        clear hpost hU3
        go_upto_region 10 with fail
        have hvz : (w3.alloc (.cells #[.int .i64 X3, .int .i64 Y3, .slice a3 l3 c3] 26)).heap.size = w3.heap.size + 1 := by simp
        generalize (w3.alloc (.cells #[.int .i64 X3, .int .i64 Y3, .slice a3 l3 c3] 26)) = wv at *
        have HB4 := Lib.hid (HB.out.trans (hb4.mono (by omega)))
        have HGV := Lib.hid (show g ≤ wv.heap.size by omega)
        have HTP4 := Lib.hid (HTP.out.next hb4)
        have HRP4 := Lib.hid (HRP.out.below hb4)
        have HTb := Lib.hid hTb
        have v0 := (hb4.cell (p := ⟨w.heap.size, 0, none⟩) (by show w.heap.size < _; omega)).trans x0
        have v1 := (hb4.cell (p := ⟨w.heap.size, 1, none⟩) (by show w.heap.size < _; omega)).trans x1
        have v2 := (hb4.cell (p := ⟨w.heap.size, 2, none⟩) (by show w.heap.size < _; omega)).trans x2
        have u1 := (hb4.cell (p := ⟨g1, k * 3 + 1, none⟩) (by show g1 < _; omega)).trans c1
        have u2 := (hb4.cell (p := ⟨g1, k * 3 + 2, none⟩) (by show g1 < _; omega)).trans c2
        have hwv : w.heap.size < wv.heap.size := by omega
        have hgv : g1 < wv.heap.size := by omega
        have KV := Lib.hid (show ∀ w', Below wv.heap.size wv w' → (w'.cell? ⟨w.heap.size, 0, none⟩ = some (.int .i64 D) ∧ w'.cell? ⟨w.heap.size, 1, none⟩ = some (.int .i64 N) ∧ w'.cell? ⟨w.heap.size, 2, none⟩ = some (.slice (some ⟨g1, 0, none⟩) xs.length xs.length) ∧ w'.cell? ⟨g1, k * 3 + 1, none⟩ = some (.int .i64 n) ∧ w'.cell? ⟨g1, k * 3 + 2, none⟩ = some (.int .i64 d)) from fun w' hb => ⟨(hb.cell (p := ⟨w.heap.size, 0, none⟩) hwv).trans v0, (hb.cell (p := ⟨w.heap.size, 1, none⟩) hwv).trans v1, (hb.cell (p := ⟨w.heap.size, 2, none⟩) hwv).trans v2, (hb.cell (p := ⟨g1, k * 3 + 1, none⟩) hgv).trans u1, (hb.cell (p := ⟨g1, k * 3 + 2, none⟩) hgv).trans u2⟩)
        have HWv := Lib.hid (HWb.out.trans (HB4.out.mono (by omega)))
        have HOn := Lib.hid (fun x W (_ : Below wv.heap.size wv W) => l02One_c x W)
        have HOw := Lib.hid (fun W (_ : Below wv.heap.size wv W) => HOv.out W)
        have HVZ := Lib.hid hvz
        clear hb3 hb4 hTb x0 x1 x2 c0 c1 c2 hvz v0 v1 v2 u1 u2
        go_upto_region 10 with fail
        go_cut [9, 10] (FrCutB wv sa sb ok)
        case first =>
          go_region_held3 (fun w' => w'.cell? ⟨w.heap.size, 0, none⟩ = some (.int .i64 D) ∧ w'.cell? ⟨w.heap.size, 1, none⟩ = some (.int .i64 N) ∧ w'.cell? ⟨w.heap.size, 2, none⟩ = some (.slice (some ⟨g1, 0, none⟩) xs.length xs.length) ∧ w'.cell? ⟨g1, k * 3 + 1, none⟩ = some (.int .i64 n) ∧ w'.cell? ⟨g1, k * 3 + 2, none⟩ = some (.int .i64 d))
            ((refine KV.out _ ?_; repeat' (first | with_reducible assumption | with_reducible exact Below.refl _ _ | (with_reducible refine Below.drew ?_) | (with_reducible refine Below.setCell ?_ (by (try dsimp only); omega) _) | (with_reducible refine Below.alloc ?_ (by (try simp only [World.size_setCell]); (try simp only [World.size_drew]); (try simp only [World.size_alloc]); (try simp only [World.size_setCell]); (try simp only [World.size_alloc]); omega) _))))
            (first
              | (go_at_call 39; (with_reducible refine (HOn.out _ _ ?_).mono ?_); (focus repeat' (first | with_reducible assumption | with_reducible exact Below.refl _ _ | (with_reducible refine Below.drew ?_) | (with_reducible refine Below.setCell ?_ (by (try dsimp only); omega) _) | (with_reducible refine Below.alloc ?_ (by (try simp only [World.size_setCell]); (try simp only [World.size_drew]); (try simp only [World.size_alloc]); (try simp only [World.size_setCell]); (try simp only [World.size_alloc]); omega) _))); rintro e w5 ⟨rfl, hb0⟩; have hbw5 : Below wv.heap.size wv w5 := below_step (by repeat' (first | with_reducible assumption | with_reducible exact Below.refl _ _ | (with_reducible refine Below.drew ?_) | (with_reducible refine Below.setCell ?_ (by (try dsimp only); omega) _) | (with_reducible refine Below.alloc ?_ (by (try simp only [World.size_setCell]); (try simp only [World.size_drew]); (try simp only [World.size_alloc]); (try simp only [World.size_setCell]); (try simp only [World.size_alloc]); omega) _))) hb0 (Nat.le_refl _); have hzw5 := hbw5.size; (try have B0 : Box2 w5 wv.heap.size 0 0 := Box2.next (by exact (Box2.new wv 0 0 _).drew) hb0))
              | (go_at_call 38; (with_reducible refine (HOw.out _ ?_).mono ?_); (focus repeat' (first | with_reducible assumption | with_reducible exact Below.refl _ _ | (with_reducible refine Below.drew ?_) | (with_reducible refine Below.setCell ?_ (by (try dsimp only); omega) _) | (with_reducible refine Below.alloc ?_ (by (try simp only [World.size_setCell]); (try simp only [World.size_drew]); (try simp only [World.size_alloc]); (try simp only [World.size_setCell]); (try simp only [World.size_alloc]); omega) _))); rintro e w6 ⟨rfl, hb0⟩; have hbw6 : Below wv.heap.size wv w6 := below_step (by repeat' (first | with_reducible assumption | with_reducible exact Below.refl _ _ | (with_reducible refine Below.drew ?_) | (with_reducible refine Below.setCell ?_ (by (try dsimp only); omega) _) | (with_reducible refine Below.alloc ?_ (by (try simp only [World.size_setCell]); (try simp only [World.size_drew]); (try simp only [World.size_alloc]); (try simp only [World.size_setCell]); (try simp only [World.size_alloc]); omega) _))) hb0 (Nat.le_refl _); have hzw6 := hbw6.size; have hbw5w6 : Below w5.heap.size w5 w6 := below_step (by repeat' (first | with_reducible assumption | with_reducible exact Below.refl _ _ | (with_reducible refine Below.drew ?_) | (with_reducible refine Below.setCell ?_ (by (try dsimp only); omega) _) | (with_reducible refine Below.alloc ?_ (by (try simp only [World.size_setCell]); (try simp only [World.size_drew]); (try simp only [World.size_alloc]); (try simp only [World.size_setCell]); (try simp only [World.size_alloc]); omega) _))) hb0 (Nat.le_refl _); have hzw5w6 := hbw5w6.size; (try have B0 := B0.next hbw5w6); (try have B1 : Box2 w6 w5.heap.size 0 0 := Box2.next (by exact Box2.new w5 0 0 _) hb0); (try obtain ⟨Bz0, b00, b01, b02, b03⟩ := id B0); (try obtain ⟨Bz1, b10, b11, b12, b13⟩ := id B1))
              | fail)
          all_goals (go_wp2_with fail; go_meet)
          all_goals (refine ⟨_, rfl, rfl, ?_, ?_, ?_⟩)
          all_goals (first | (with_reducible assumption) | (with_reducible exact Nat.le_refl _) | ((repeat' (first | with_reducible assumption | with_reducible exact Below.refl _ _ | (with_reducible refine Below.drew ?_) | (with_reducible refine Below.setCell ?_ (by (try dsimp only); omega) _) | (with_reducible refine Below.alloc ?_ (by (try simp only [World.size_setCell]); (try simp only [World.size_drew]); (try simp only [World.size_alloc]); (try simp only [World.size_setCell]); (try simp only [World.size_alloc]); omega) _))); done) | ((repeat' (first | with_reducible assumption | (with_reducible refine Box2.newAt ?_; first | with_reducible rfl | (simp only [World.size_alloc]; done)) | (with_reducible refine Box2.fill ?_) | (with_reducible refine Box2.alloc ?_ _) | fail)); done) | omega | fail)
        case rest =>
          obtain ⟨gr, rfl, rfl, hgr, hbc, hBr⟩ := hcut
          obtain ⟨wq, rfl⟩ : ∃ wq : World, wq = wc := ⟨_, rfl⟩
          have hzq := hbc.size
          have HB5 := Lib.hid (HB4.out.trans (hbc.mono HGV.out))
          have hgq9 := HGV.out
          have HWq := Lib.hid (HWv.out.trans (hbc.mono HWv.out.size))
          have HTq := Lib.hid (HT4.out.below HB5.out (by omega))
          have HTP5 := Lib.hid (HTP4.out.next hbc)
          have HRP5 := Lib.hid (HRP4.out.below hbc)
          have HTb5 := Lib.hid (HTb.out.next hbc)
          have HUb5 := Lib.hid (hUb.out.below hbc)
          obtain ⟨hgrz, f0, f1, -, -⟩ := id hBr
          clear hbc hBr
          cases r with
          | none =>
            obtain ⟨-, -, -, -, -, rfl⟩ := HU3.out
            have HF := Lib.hid (HDead.out (k + 1) hlt (HN2.out.trans (HLn.out rfl)))
            obtain ⟨hq4, r0, r1, r2, z0, z1, z2⟩ := id HTq.out
            clear f0 f1
            go_wp2_with fail
            rw [HF.out]
            refine bodyPost_ret (v := .tuple #[.agg #[.int .i64 0, .int .i64 0, .slice none 0 0], .int .i64 3]) (by simp [results, Tryz.results16, go_sem, r0, r1, r2]) rfl (SerPost.err 3 rfl ?_)
            have hW := HWq.out
            go_grown
          | some g2 =>
            obtain ⟨hX, hY, hl3, rfl, hN3⟩ := HUb5.out
            subst hX hY hl3
            cases ok with
            | false =>
              have HF := Lib.hid (HDead.out (k + 1) hlt (HN2.out.trans (HOk.out rfl)))
              obtain ⟨hq4, r0, r1, r2, z0, z1, z2⟩ := id HTq.out
              clear f0 f1 hN3
              go_wp2_with fail
              rw [HF.out]
              refine bodyPost_ret (v := .tuple #[.agg #[.int .i64 0, .int .i64 0, .slice none 0 0], .int .i64 3]) (by simp [results, Tryz.results16, go_sem, r0, r1, r2]) rfl (SerPost.err 3 rfl ?_)
              have hW := HWq.out
              go_grown
            | true =>
              have hgood := dyn_good HFk.out
              have HPr := Lib.hid (show Calls Tryz.prog 40 #[.agg #[.int .i64 D, .int .i64 N, .slice aP (termsOf f (allW D N)).length cP], .agg #[.int .i64 D, .int .i64 N, .slice a3 (termsOf g2 (allW D N)).length c3], .agg #[.int .i64 sa, .int .i64 sb]] wq (SumPost D N (q.map fun h => termsOf h (allW D N)) wq) from by
                have h := HAd.out f g2 hgood (HGs.out g2 rfl) sa sb (HShF.out rfl) aP a3 cP c3 wq HRP5.out.newRow.row hN3.row
                rw [HPut.out f g2 sa sb, ← HSm.out g2 rfl rfl] at h
                exact h)
              obtain ⟨-, p0, p1, p2, -, -, -⟩ := id HTP5.out
              obtain ⟨-, t0, t1, t2, -, -, -⟩ := id HTb5.out
              have hgq : g < wq.heap.size := HTP5.out.1
              have hbq : w3.heap.size < wq.heap.size := HTb5.out.1
              clear hgood hN3
              go_wp2_with fail
              refine HPr.out.mono ?_
              clear p0 p1 p2 t0 t1 t2 f0 f1
              cases q with
              | none =>
                rintro e w7 ⟨rfl, hb7⟩
                have HF := Lib.hid (HDead.out (k + 1) hlt HN2.out)
                obtain ⟨hq4, r0, r1, r2, z0, z1, z2⟩ := id (HTq.out.next hb7)
                have HW7 := Lib.hid (HWq.out.trans (hb7.mono HWq.out.size))
                clear hb7
                go_wp2
                rw [HF.out]
                refine bodyPost_ret (v := .tuple #[.agg #[.int .i64 0, .int .i64 0, .slice none 0 0], .int .i64 3]) (by simp [results, Tryz.results16, go_sem, r0, r1, r2, hq4]) rfl (SerPost.err 3 rfl ?_)
                have hW := HW7.out
                go_grown
              | some h =>
                rintro e w7 ⟨a7, c7, rfl, hb7, hN7⟩
                have hz7 := hb7.size
                have HTO := Lib.hid (((HTP5.out.next hb7).set3 (x' := .int .i64 D) (y' := .int .i64 N) (z' := .slice a7 (termsOf h (allW D N)).length c7)).alloc (.cells #[.int .i64 D, .int .i64 N, .slice a7 (termsOf h (allW D N)).length c7] 26))
                have HRO := Lib.hid ((((((RowF.of (B := w.heap.size + 2) (p := g) (q := g) hN7 (by omega) (.inl hgq) (.inl hgq)).set (n := g) (i := 0) (u := .int .i64 D) (.inl rfl)).set (n := g) (i := 1) (u := .int .i64 N) (.inl rfl)).set (n := g) (i := 2) (u := .slice a7 (termsOf h (allW D N)).length c7) (.inl rfl))).alloc (.cells #[.int .i64 D, .int .i64 N, .slice a7 (termsOf h (allW D N)).length c7] 26))
                have HB8 := Lib.hid (((((HB5.out.trans (hb7.mono (by omega))).setCell (p := ⟨g, 0, none⟩) (Nat.le_refl _) (.int .i64 D)).setCell (p := ⟨g, 1, none⟩) (Nat.le_refl _) (.int .i64 N)).setCell (p := ⟨g, 2, none⟩) (Nat.le_refl _) (.slice a7 (termsOf h (allW D N)).length c7)).alloc (by simp; omega) (.cells #[.int .i64 D, .int .i64 N, .slice a7 (termsOf h (allW D N)).length c7] 26))
                obtain ⟨hq4, r0, r1, r2, z0, z1, z2⟩ := id (HTP5.out.next hb7)
                clear hb7 hN7
                go_wp2_with fail
                go_roundw
                case rel => exact ⟨k + 1, h, a7, _, c7, hlt, by go_num, HN2.out, rfl, HTO.out, HRO.out, HB8.out⟩
                case measure => simp [intOf]; omega
    · obtain rfl : k = xs.length := by omega
      have HO2 := Lib.hid (HOut.out.symm.trans HFk.out)
      have hT4 := HT4.out.below HB.out (by omega)
      obtain ⟨hz4, r0, r1, r2, z0, z1, z2⟩ := id hT4
      obtain ⟨n0, n1, n2⟩ : wo.cell? ⟨g, 0, none⟩ = some (.int .i64 D) ∧ wo.cell? ⟨g, 1, none⟩ = some (.int .i64 N) ∧ wo.cell? ⟨g, 2, none⟩ = some (.slice aP (termsOf f (allW D N)).length cP) := ⟨HTP.out.2.1, HTP.out.2.2.1, HTP.out.2.2.2.1⟩
      have HNw := Lib.hid (HRP.out.newRow)
      clear hT4
      go_wp2
      rw [HO2.out]
      refine bodyPost_ret (v := .tuple #[.agg #[.int .i64 D, .int .i64 N, .slice aP (termsOf f (allW D N)).length cP], .int .i64 0]) (by simp [results, Tryz.results16, go_sem, r0, r1, r2]) rfl ⟨aP, cP, rfl, ?_, ?_⟩
      · have hW := HBw.out
        go_grown
      · exact (((HNw.out.far1s (by omega)).far1s (by omega)).far1s (by omega)).mono (by omega) (by simp)
end Go.Proofs.YtjjkkaikinjmdaaGreatDoor
