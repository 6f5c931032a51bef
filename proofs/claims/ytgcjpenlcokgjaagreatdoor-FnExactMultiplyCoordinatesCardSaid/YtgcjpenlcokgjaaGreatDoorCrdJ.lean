/-
  Contract of the model's sum of brackets of coordinates.
  Contracts of the model's SeriesOfCoordinates.
  Contracts of the program's SeriesOfCoordinates.
  Contracts of the program's SeriesOfCoordinates, at coordinates.
-/
import Derived.Test.YtgcjpenlcokgjaaGreatDoorCrdM
import Derived.Test.YtgcjpenlcokgjaaGreatDoorBvS
import Derived.Test.YtgcjpenlcokgjaaGreatDoorGivM
import Derived.Test.YtgcjpenlcokgjaaGreatDoorCrdW
import Derived.Deep.RegionHeld3
namespace Go.Proofs.YtgcjpenlcokgjaaGreatDoor
open Go.RowKit

set_option maxRecDepth 100000 in
set_option maxHeartbeats 8000000 in
theorem l06Series_c (D N : Nat) (g1 : Nat) (xs : List Tm) (hgv : givB D N xs = true) (w : World) (hb1 : g1 < w.heap.size) (t1 : TermsIn w g1 0 xs) :
    Calls Tryz.prog 34 #[.int .i64 D, .int .i64 N, .slice (some ⟨g1, 0, none⟩) xs.length xs.length] w (SumPost D N ((serW (allW D N) xs).map fun h => termsOf h (allW D N)) w) := by
  have h1 := (giv_true hgv).1
  have hsh : shapeB (D : Int) (N : Int) = true := by unfold serB at h1; rw [Bool.and_eq_true] at h1; exact h1.1
  have hDN := shape_out hsh
  have hfew := few_ser h1
  have hW := allW_asc (D := D) (by omega) N
  have hwl := allW_few (D := D) (by omega) (n := N) (by omega)
  have HTerm := Lib.hid (fun k (hk : k < xs.length) => show (xs[k]).s.size ≤ 5 ∧ 1 ≤ (xs[k]).s.size ∧ wordB (D : Int) (xs[k]).s.data.toList = true ∧ isF (xs[k]).n (xs[k]).d = true from by
    have h2 := ser_term h1 _ (List.getElem_mem hk)
    have h3 := (lynB_true ((giv_true hgv).2 _ (List.getElem_mem hk))).1
    simp only [termB, Bool.and_eq_true, Bool.not_eq_true', beq_eq_false_iff_ne, decide_eq_true_eq] at h2
    exact ⟨by omega, h3, h2.1.2, h2.2.1⟩)
  have HT := Lib.hid t1
  have HBr := Lib.hid (fun (s : ByteArray) (h5 : s.size ≤ 5) (h1 : 1 ≤ s.size) (hw : wordB (D : Int) s.data.toList = true) a n c W => (show Calls Tryz.prog 67 #[.agg #[.int .i64 D, .int .i64 N, .slice a n c], .string s] W (SumPost D N ((bW (allW D N) s).map fun h => termsOf h (allW D N)) W) from by
    obtain ⟨b, hb, e⟩ := bW_is (allW D N) h1
    rw [e]
    exact l06Bracket_c D N (by omega) (by omega) hb (by omega) (brk_in (by omega) (by omega) hb hw) a n c W))
  have HGb := Lib.hid (fun (s : ByteArray) (h1 : 1 ≤ s.size) (hw : wordB (D : Int) s.data.toList = true) f (e : bW (allW D N) s = some f) => show GoodV (allW D N) f from by
    obtain ⟨b, hb, e2⟩ := bW_is (allW D N) h1
    exact brkV_good (brk_in (by omega) (by omega) hb hw) (e2.symm.trans e))
  have HAd := Lib.hid (fun (s p : VF) (hs : GoodV (allW D N) s) (hp : GoodV (allW D N) p) (x z : Int) (hxz : isF x z = true) aO aP cO cP W t1 t2 => (l02Add_c D N D N x z (isF_abs hxz).1 (isF_abs hxz).2.1 aO aP cO cP (termsOf s (allW D N)) (termsOf p (allW D N)) (by have := termsOf_len s (allW D N); omega) (by have := termsOf_len p (allW D N); omega) (terms_bd hs) (terms_bd hp) W t1 t2))
  have HPut := Lib.hid (fun (s p : VF) (x z : Int) => addK_put hW (g := p) (a := x) (b := z) (ws := allW D N) (fun _ h => h) s)
  have HNil := Lib.hid (show termsOf (fun _ => none) (allW D N) = [] by unfold termsOf; simp)
  obtain ⟨o, ho⟩ : ∃ o, serW (allW D N) xs = o := ⟨_, rfl⟩
  rw [ho]
  have HOut := Lib.hid (show serTo (allW D N) xs xs.length = o from ho)
  have HDead := Lib.hid (fun k (hk : k ≤ xs.length) (e : serTo (allW D N) xs k = none) => (show o = none from HOut.out.symm.trans (ser_dead e hk)))
  clear hgv h1 t1 hsh hW hwl ho
  go_enter Tryz.func34, Tryz.ntmps34
  go_wp2_with fail
  refine (l01Empty_c D N _ rfl _).mono ?_
  rintro e w2 ⟨g3, rfl, -, hb2⟩
  have hz2 := hb2.size
  simp only [World.size_alloc] at hz2
  have HT4b := Lib.hid ((show T3 (w.alloc (.cells #[.int .i64 0, .int .i64 0, .slice none 0 0] 26)) w.heap.size (.int .i64 0) (.int .i64 0) (.slice none 0 0) from T3.newAt rfl).next hb2)
  have HW2 := Lib.hid ((below1 w (.cells #[.int .i64 0, .int .i64 0, .slice none 0 0] 26)).trans (hb2.mono (by simp)))
  clear hb2
  go_wp2_with fail
  have hq := below1 w2 (.cells #[.int .i64 D, .int .i64 N, .slice (some ⟨g3, 0, none⟩) 0 0] 26)
  have hTo := T3.new w2 (D : Int) (N : Int) (some ⟨g3, 0, none⟩) 0 0 26
  have HT4 := Lib.hid (HT4b.out.next hq)
  have HWb := Lib.hid (HW2.out.trans (hq.mono (by omega)))
  have HTo := Lib.hid hTo
  have hgz : w2.heap.size < (w2.alloc (.cells #[.int .i64 D, .int .i64 N, .slice (some ⟨g3, 0, none⟩) 0 0] 26)).heap.size := by simp
  generalize (w2.alloc (.cells #[.int .i64 D, .int .i64 N, .slice (some ⟨g3, 0, none⟩) 0 0] 26)) = wb at *
  obtain ⟨g, hg⟩ : ∃ g, w2.heap.size = g := ⟨_, rfl⟩
  rw [hg] at HTo hgz ⊢
  have hgw : w.heap.size + 1 ≤ g := by omega
  clear hq hTo hz2 hg
  go_loopw [9] (fun v9 wr => ∃ (k : Nat) (f : VF) (aP : Option Addr) (lP cP : Nat), k ≤ xs.length ∧ v9 = .int .i64 k ∧ serTo (allW D N) xs k = some f ∧ lP = (termsOf f (allW D N)).length ∧ T3 wr g (.int .i64 D) (.int .i64 N) (.slice aP lP cP) ∧ RowF (w.heap.size + 1) g g wr aP (termsOf f (allW D N)) ∧ Below g wb wr) (fun v9 _ => xs.length - (intOf v9).toNat)
  case atStart => exact ⟨0, fun _ => none, some ⟨g3, 0, none⟩, 0, 0, Nat.zero_le _, rfl, rfl, by rw [HNil.out]; rfl, HTo.out, .inl HNil.out, Below.refl _ _⟩
  case round =>
    obtain ⟨k, f, aP, lP, cP, hk, rfl, hfk, hlP, hTP, hRP, hB⟩ := hrel
    obtain ⟨wo, rfl⟩ : ∃ wo : World, wo = wr := ⟨_, rfl⟩
    subst hlP
    have HFk := Lib.hid hfk
    have HTP := Lib.hid hTP
    have HRP := Lib.hid hRP
    have HB := Lib.hid hB
    have hzo := hB.size
    have hwA := hTP.1
    have HBw := Lib.hid (HWb.out.trans (hB.mono (by omega)))
    clear hfk hTP hRP hB
    by_cases hlt : k < xs.length
    · obtain ⟨hsz5, hsz1, hwd, hisF⟩ := HTerm.out k hlt
      have hT := HT.out.below HBw.out hb1
      obtain ⟨c0, c1, c2⟩ := hT k hlt
      simp only [Nat.zero_add] at c0 c1 c2
      have HN2 := Lib.hid (ser_next hlt HFk.out)
      obtain ⟨t, ht⟩ : ∃ t, xs[k] = t := ⟨_, rfl⟩
      rw [ht] at hsz5 hsz1 hwd hisF c0 c1 c2 HN2
      have hb1o : g1 < wo.heap.size := Nat.lt_of_lt_of_le hb1 HBw.out.size
      clear ht hT
      have HLs := Lib.hid (HBr.out t.s hsz5 hsz1 hwd)
      have HGs := Lib.hid (HGb.out t.s hsz1 hwd)
      have HIF := Lib.hid hisF
      have HLn := Lib.hid (fun (h : bW (allW D N) t.s = none) => sum_none (f := f) h)
      have HSm := Lib.hid (fun g2 (h2 : bW (allW D N) t.s = some g2) => sum_some (f := f) h2)
      obtain ⟨q, hq⟩ : ∃ q, sumOne (allW D N) t f = q := ⟨_, rfl⟩
      rw [hq] at HN2 HLn HSm
      obtain ⟨r, hr⟩ : ∃ r, bW (allW D N) t.s = r := ⟨_, rfl⟩
      rw [hr] at HLs HGs HLn HSm
      obtain ⟨s, n, d⟩ := t
      simp only at c0 c1 c2 hsz5 hwd hisF HLs HIF HSm
      obtain ⟨-, t0, t1, t2, -, -, -⟩ := id HTP.out
      have hgo := hwA
      have KS := Lib.hid (show ∀ w', Below wo.heap.size wo w' → (w'.cell? ⟨g, 0, none⟩ = some (.int .i64 D) ∧ w'.cell? ⟨g, 1, none⟩ = some (.int .i64 N) ∧ w'.cell? ⟨g, 2, none⟩ = some (.slice aP (termsOf f (allW D N)).length cP) ∧ w'.cell? ⟨g1, k * 3, none⟩ = some (.string s) ∧ w'.cell? ⟨g1, k * 3 + 1, none⟩ = some (.int .i64 n) ∧ w'.cell? ⟨g1, k * 3 + 2, none⟩ = some (.int .i64 d)) from fun w' hb => ⟨(hb.cell (p := ⟨g, 0, none⟩) hgo).trans t0, (hb.cell (p := ⟨g, 1, none⟩) hgo).trans t1, (hb.cell (p := ⟨g, 2, none⟩) hgo).trans t2, (hb.cell (p := ⟨g1, k * 3, none⟩) hb1o).trans c0, (hb.cell (p := ⟨g1, k * 3 + 1, none⟩) hb1o).trans c1, (hb.cell (p := ⟨g1, k * 3 + 2, none⟩) hb1o).trans c2⟩)
      have HBk := Lib.hid (fun W (_ : Below wo.heap.size wo W) => HLs.out aP (termsOf f (allW D N)).length cP W)
      clear hq hr hisF hwd t0 t1 t2 hsz1
      go_upto_region 5 with fail
      go_cut [10, 11] (SerCut wo D N (r.map fun h => termsOf h (allW D N)))
      case first =>
        go_region_held3 (fun w' => w'.cell? ⟨g, 0, none⟩ = some (.int .i64 D) ∧ w'.cell? ⟨g, 1, none⟩ = some (.int .i64 N) ∧ w'.cell? ⟨g, 2, none⟩ = some (.slice aP (termsOf f (allW D N)).length cP) ∧ w'.cell? ⟨g1, k * 3, none⟩ = some (.string s) ∧ w'.cell? ⟨g1, k * 3 + 1, none⟩ = some (.int .i64 n) ∧ w'.cell? ⟨g1, k * 3 + 2, none⟩ = some (.int .i64 d))
          ((refine KS.out _ ?_; repeat' (first | with_reducible assumption | with_reducible exact Below.refl _ _ | (with_reducible refine Below.drew ?_) | (with_reducible refine Below.setCell ?_ (by (try dsimp only); omega) _) | (with_reducible refine Below.alloc ?_ (by (try simp only [World.size_setCell]); (try simp only [World.size_drew]); (try simp only [World.size_alloc]); (try simp only [World.size_setCell]); (try simp only [World.size_alloc]); omega) _))))
          (first
            | (go_at_call 67; (with_reducible refine (HBk.out _ ?_).mono ?_); (focus repeat' (first | with_reducible assumption | with_reducible exact Below.refl _ _ | (with_reducible refine Below.drew ?_) | (with_reducible refine Below.setCell ?_ (by (try dsimp only); omega) _) | (with_reducible refine Below.alloc ?_ (by (try simp only [World.size_setCell]); (try simp only [World.size_drew]); (try simp only [World.size_alloc]); (try simp only [World.size_setCell]); (try simp only [World.size_alloc]); omega) _))); rintro e w3 hpost; obtain ⟨X, Y, a5, l5, c5, ok, rfl, hb0, hU⟩ := SumPost.u hpost; (try simp only [World.size_drew] at hU); (try simp only [World.size_alloc] at hU); have hbw3 : Below wo.heap.size wo w3 := below_step (by repeat' (first | with_reducible assumption | with_reducible exact Below.refl _ _ | (with_reducible refine Below.drew ?_) | (with_reducible refine Below.setCell ?_ (by (try dsimp only); omega) _) | (with_reducible refine Below.alloc ?_ (by (try simp only [World.size_setCell]); (try simp only [World.size_drew]); (try simp only [World.size_alloc]); (try simp only [World.size_setCell]); (try simp only [World.size_alloc]); omega) _))) hb0 (Nat.le_refl _); have hzw3 := hbw3.size; (try have B0 : T3 w3 wo.heap.size (.int .i64 0) (.int .i64 0) (.slice none 0 0) := T3.next (by exact (T3.new wo 0 0 none 0 0 _).drew) hb0); (try have L00 := B0.1); (try obtain ⟨-, b00, b01, b02, b03, b04, b05⟩ := id B0))
            | fail)
        all_goals (go_wp2_with fail; go_meet)
        all_goals (refine ⟨_, X, Y, a5, l5, c5, ok, rfl, rfl, ?_, ?_, ?_, ?_⟩)
        all_goals (first | (with_reducible assumption) | (with_reducible exact Nat.le_refl _) | ((repeat' (first | with_reducible assumption | with_reducible exact Below.refl _ _ | (with_reducible refine Below.drew ?_) | (with_reducible refine Below.setCell ?_ (by (try dsimp only); omega) _) | (with_reducible refine Below.alloc ?_ (by (try simp only [World.size_setCell]); (try simp only [World.size_drew]); (try simp only [World.size_alloc]); (try simp only [World.size_setCell]); (try simp only [World.size_alloc]); omega) _))); done) | ((repeat' (first | with_reducible assumption | (with_reducible refine T3.newAt ?_; first | with_reducible rfl | (simp only [World.size_setCell]; done) | (simp only [World.size_alloc]; done) | (simp only [World.size_alloc, World.size_setCell]; done)) | (with_reducible refine T3.fill ?_) | (with_reducible refine T3.far ?_ (by first | with_reducible assumption | omega)) | (with_reducible refine T3.alloc ?_ _))); done) | omega | (with_reducible exact (hU.below (below1 _ _)).mono (by omega)) | (with_reducible exact (((hU.far (by omega)).far (by omega)).far (by omega)).mono (by omega)))
      case rest =>
        obtain ⟨g5, X5, Y5, a5, l5, c5, ok5, rfl, rfl, hg5, hbc5, hT5, hU5⟩ := hcut
        obtain ⟨w5, rfl⟩ : ∃ w5 : World, w5 = wc := ⟨_, rfl⟩
        have hz5 := hbc5.size
        cases r with
        | none =>
          obtain ⟨rfl, rfl, rfl, rfl, rfl, rfl⟩ := hU5
          have HF := Lib.hid (HDead.out (k + 1) hlt (HN2.out.trans (HLn.out rfl)))
          have hT4 := (HT4.out.below HB.out (by omega)).next hbc5
          obtain ⟨hq4, r0, r1, r2, z0, z1, z2⟩ := id hT4
          have HW5 := Lib.hid (HBw.out.trans (hbc5.mono (by omega)))
          clear hbc5 hT4 hT5
          go_wp2_with fail
          rw [HF.out]
          refine bodyPost_ret (v := .tuple #[.agg #[.int .i64 0, .int .i64 0, .slice none 0 0], .bool false]) (by simp [results, Tryz.results34, go_sem, r0, r1, r2]) rfl ⟨rfl, ?_⟩
          have hW := HW5.out
          go_grown
        | some g2 =>
          obtain ⟨rfl, rfl, rfl, rfl, hN5⟩ := hU5
          have HTP5 := Lib.hid (HTP.out.next hbc5)
          have HRP5 := Lib.hid (HRP.out.below hbc5)
          have HTb := Lib.hid hT5
          have HN5 := Lib.hid hN5
          have HB5 := Lib.hid (HB.out.trans (hbc5.mono (by omega)))
          have u1 := (hbc5.cell (p := ⟨g1, k * 3 + 1, none⟩) (by show g1 < _; omega)).trans c1
          have u2 := (hbc5.cell (p := ⟨g1, k * 3 + 2, none⟩) (by show g1 < _; omega)).trans c2
          have hgood := ser_good HFk.out
          have hg5z := hT5.1
          have hgq : g < w5.heap.size := HTP5.out.1
          have hb1q : g1 < w5.heap.size := by omega
          have HBw5 := Lib.hid (HBw.out.trans (hbc5.mono (by have := HBw.out.size; omega)))
          have HAdd := Lib.hid (fun W (hW : Below w5.heap.size w5 W) => (show Calls Tryz.prog 68 #[.agg #[.int .i64 D, .int .i64 N, .slice aP (termsOf f (allW D N)).length cP], .agg #[.int .i64 D, .int .i64 N, .slice a5 (termsOf g2 (allW D N)).length c5], .agg #[.int .i64 n, .int .i64 d]] W (SumPost D N (q.map fun h => termsOf h (allW D N)) W) from by
            have h := HAd.out f g2 hgood (HGs.out g2 rfl) n d HIF.out aP a5 cP c5 W (HRP5.out.newRow.row.below hW) (HN5.out.row.below hW)
            rw [HPut.out f g2 n d, ← HSm.out g2 rfl] at h
            exact h))
          obtain ⟨-, p0, p1, p2, -, -, -⟩ := id HTP5.out
          obtain ⟨-, v0, v1, v2, -, -, -⟩ := id HTb.out
          have KS2 := Lib.hid (show ∀ w', Below w5.heap.size w5 w' → (w'.cell? ⟨g, 0, none⟩ = some (.int .i64 D) ∧ w'.cell? ⟨g, 1, none⟩ = some (.int .i64 N) ∧ w'.cell? ⟨g, 2, none⟩ = some (.slice aP (termsOf f (allW D N)).length cP) ∧ w'.cell? ⟨g5, 0, none⟩ = some (.int .i64 D) ∧ w'.cell? ⟨g5, 1, none⟩ = some (.int .i64 N) ∧ w'.cell? ⟨g5, 2, none⟩ = some (.slice a5 (termsOf g2 (allW D N)).length c5) ∧ w'.cell? ⟨g1, k * 3 + 1, none⟩ = some (.int .i64 n) ∧ w'.cell? ⟨g1, k * 3 + 2, none⟩ = some (.int .i64 d)) from fun w' hb => ⟨(hb.cell (p := ⟨g, 0, none⟩) hgq).trans p0, (hb.cell (p := ⟨g, 1, none⟩) hgq).trans p1, (hb.cell (p := ⟨g, 2, none⟩) hgq).trans p2, (hb.cell (p := ⟨g5, 0, none⟩) hg5z).trans v0, (hb.cell (p := ⟨g5, 1, none⟩) hg5z).trans v1, (hb.cell (p := ⟨g5, 2, none⟩) hg5z).trans v2, (hb.cell (p := ⟨g1, k * 3 + 1, none⟩) hb1q).trans u1, (hb.cell (p := ⟨g1, k * 3 + 2, none⟩) hb1q).trans u2⟩)
          clear hbc5 hT5 hN5 hgood p0 p1 p2 v0 v1 v2 u1 u2 c0 c1 c2
          go_wp2_with fail
          go_upto_region 8 with fail
          go_cut [12, 13] (SerCut w5 D N (q.map fun h => termsOf h (allW D N)))
          case first =>
            go_region_held3 (fun w' => w'.cell? ⟨g, 0, none⟩ = some (.int .i64 D) ∧ w'.cell? ⟨g, 1, none⟩ = some (.int .i64 N) ∧ w'.cell? ⟨g, 2, none⟩ = some (.slice aP (termsOf f (allW D N)).length cP) ∧ w'.cell? ⟨g5, 0, none⟩ = some (.int .i64 D) ∧ w'.cell? ⟨g5, 1, none⟩ = some (.int .i64 N) ∧ w'.cell? ⟨g5, 2, none⟩ = some (.slice a5 (termsOf g2 (allW D N)).length c5) ∧ w'.cell? ⟨g1, k * 3 + 1, none⟩ = some (.int .i64 n) ∧ w'.cell? ⟨g1, k * 3 + 2, none⟩ = some (.int .i64 d))
              ((refine KS2.out _ ?_; repeat' (first | with_reducible assumption | with_reducible exact Below.refl _ _ | (with_reducible refine Below.drew ?_) | (with_reducible refine Below.setCell ?_ (by (try dsimp only); omega) _) | (with_reducible refine Below.alloc ?_ (by (try simp only [World.size_setCell]); (try simp only [World.size_drew]); (try simp only [World.size_alloc]); (try simp only [World.size_setCell]); (try simp only [World.size_alloc]); omega) _))))
              (first
                | (go_at_call 68; (with_reducible refine (HAdd.out _ ?_).mono ?_); (focus repeat' (first | with_reducible assumption | with_reducible exact Below.refl _ _ | (with_reducible refine Below.drew ?_) | (with_reducible refine Below.setCell ?_ (by (try dsimp only); omega) _) | (with_reducible refine Below.alloc ?_ (by (try simp only [World.size_setCell]); (try simp only [World.size_drew]); (try simp only [World.size_alloc]); (try simp only [World.size_setCell]); (try simp only [World.size_alloc]); omega) _))); rintro e w7 hpost; obtain ⟨X, Y, a5, l5, c5, ok, rfl, hb0, hU⟩ := SumPost.u hpost; (try simp only [World.size_drew] at hU); (try simp only [World.size_alloc] at hU); have hbw7 : Below w5.heap.size w5 w7 := below_step (by repeat' (first | with_reducible assumption | with_reducible exact Below.refl _ _ | (with_reducible refine Below.drew ?_) | (with_reducible refine Below.setCell ?_ (by (try dsimp only); omega) _) | (with_reducible refine Below.alloc ?_ (by (try simp only [World.size_setCell]); (try simp only [World.size_drew]); (try simp only [World.size_alloc]); (try simp only [World.size_setCell]); (try simp only [World.size_alloc]); omega) _))) hb0 (Nat.le_refl _); have hzw7 := hbw7.size; (try have B0 : T3 w7 w5.heap.size (.int .i64 0) (.int .i64 0) (.slice none 0 0) := T3.next (by exact (T3.new w5 0 0 none 0 0 _).drew) hb0); (try have L00 := B0.1); (try obtain ⟨-, b00, b01, b02, b03, b04, b05⟩ := id B0))
                | fail)
            all_goals (go_wp2_with fail; go_meet)
            all_goals (refine ⟨_, X, Y, a5, l5, c5, ok, rfl, rfl, ?_, ?_, ?_, ?_⟩)
            all_goals (first | (with_reducible assumption) | (with_reducible exact Nat.le_refl _) | ((repeat' (first | with_reducible assumption | with_reducible exact Below.refl _ _ | (with_reducible refine Below.drew ?_) | (with_reducible refine Below.setCell ?_ (by (try dsimp only); omega) _) | (with_reducible refine Below.alloc ?_ (by (try simp only [World.size_setCell]); (try simp only [World.size_drew]); (try simp only [World.size_alloc]); (try simp only [World.size_setCell]); (try simp only [World.size_alloc]); omega) _))); done) | ((repeat' (first | with_reducible assumption | (with_reducible refine T3.newAt ?_; first | with_reducible rfl | (simp only [World.size_setCell]; done) | (simp only [World.size_alloc]; done) | (simp only [World.size_alloc, World.size_setCell]; done)) | (with_reducible refine T3.fill ?_) | (with_reducible refine T3.far ?_ (by first | with_reducible assumption | omega)) | (with_reducible refine T3.alloc ?_ _))); done) | omega | (with_reducible exact (hU.below (below1 _ _)).mono (by omega)) | (with_reducible exact (((hU.far (by omega)).far (by omega)).far (by omega)).mono (by omega)))
          case rest =>
            obtain ⟨g8, X8, Y8, a8, l8, c8, ok8, rfl, rfl, hg8, hbc8, hT8, hU8⟩ := hcut
            obtain ⟨w8, rfl⟩ : ∃ w8 : World, w8 = wc := ⟨_, rfl⟩
            have hz8 := hbc8.size
            cases q with
            | none =>
              obtain ⟨rfl, rfl, rfl, rfl, rfl, rfl⟩ := hU8
              have HF := Lib.hid (HDead.out (k + 1) hlt HN2.out)
              have hT4 := (HT4.out.below HB5.out (by omega)).next hbc8
              obtain ⟨hq4, r0, r1, r2, z0, z1, z2⟩ := id hT4
              have HW8 := Lib.hid (HBw5.out.trans (hbc8.mono HBw5.out.size))
              clear hbc8 hT4 hT8
              go_wp2_with fail
              rw [HF.out]
              refine bodyPost_ret (v := .tuple #[.agg #[.int .i64 0, .int .i64 0, .slice none 0 0], .bool false]) (by simp [results, Tryz.results34, go_sem, r0, r1, r2]) rfl ⟨rfl, ?_⟩
              have hW := HW8.out
              go_grown
            | some h =>
              obtain ⟨rfl, rfl, rfl, rfl, hN8⟩ := hU8
              have hTO8 := HTP5.out.next hbc8
              have HTO := Lib.hid (hTO8.set3 (x' := .int .i64 D) (y' := .int .i64 N) (z' := .slice a8 (termsOf h (allW D N)).length c8))
              have HRO := Lib.hid (((((RowF.of (B := w.heap.size + 1) (p := g) (q := g) hN8 (by omega) (.inl hgq) (.inl hgq)).set (n := g) (i := 0) (u := .int .i64 D) (.inl rfl)).set (n := g) (i := 1) (u := .int .i64 N) (.inl rfl)).set (n := g) (i := 2) (u := .slice a8 (termsOf h (allW D N)).length c8) (.inl rfl)))
              have HB8 := Lib.hid ((((HB5.out.trans (hbc8.mono (by omega))).setCell (p := ⟨g, 0, none⟩) (Nat.le_refl _) (.int .i64 D)).setCell (p := ⟨g, 1, none⟩) (Nat.le_refl _) (.int .i64 N)).setCell (p := ⟨g, 2, none⟩) (Nat.le_refl _) (.slice a8 (termsOf h (allW D N)).length c8))
              obtain ⟨hq4, r0, r1, r2, z0, z1, z2⟩ := id hTO8
              obtain ⟨hq5, t0, t1, t2, -, -, -⟩ := id hT8
              clear hbc8 hTO8 hN8 hT8
              go_wp2_with fail
              go_roundw
              case rel => exact ⟨k + 1, h, a8, _, c8, hlt, by go_num, HN2.out, rfl, HTO.out, HRO.out, HB8.out⟩
              case measure => simp [intOf]; omega
    · obtain rfl : k = xs.length := by omega
      have HO2 := Lib.hid (HOut.out.symm.trans HFk.out)
      have hT4 := HT4.out.below HB.out (by omega)
      obtain ⟨hz4, r0, r1, r2, z0, z1, z2⟩ := id hT4
      obtain ⟨n0, n1, n2⟩ : wo.cell? ⟨g, 0, none⟩ = some (.int .i64 D) ∧ wo.cell? ⟨g, 1, none⟩ = some (.int .i64 N) ∧ wo.cell? ⟨g, 2, none⟩ = some (.slice aP (termsOf f (allW D N)).length cP) := ⟨HTP.out.2.1, HTP.out.2.2.1, HTP.out.2.2.2.1⟩
      have HNw := Lib.hid (HRP.out.newRow)
      clear hT4
      go_wp2
      rw [HO2.out]
      refine bodyPost_ret (v := .tuple #[.agg #[.int .i64 D, .int .i64 N, .slice aP (termsOf f (allW D N)).length cP], .bool true]) (by simp [results, Tryz.results34, go_sem, r0, r1, r2]) rfl ⟨aP, cP, rfl, ?_, ?_⟩
      · have hW := HBw.out
        go_grown
      · exact (((HNw.out.far1s (by omega)).far1s (by omega)).far1s (by omega)).mono (by omega) (by simp)
end Go.Proofs.YtgcjpenlcokgjaaGreatDoor

namespace Go.Proofs.YtgcjpenlcokgjaaGreatDoor
open Go.RowKit

set_option maxRecDepth 100000 in
theorem sCrd_1 (L V : Int) (g : Nat) (ts : List Tm) (hl : ts.length ≤ 1048576) (hs : ∀ i (h : i < ts.length), (ts[i]).s.size ≤ maxLen) (hg : givB L V ts = false) (w : World) (hb : g < w.heap.size) (ht : TermsIn w g 0 ts) :
    Calls Tryz.prog 9 #[.int .i64 L, .int .i64 V, .slice (some ⟨g, 0, none⟩) ts.length ts.length] w (SerPost 0 0 [] 2 w) := by
  have HG := Lib.hid (fun W (hW : Below w.heap.size w W) => l06Given_c L V g 0 ts.length ts hl hs W (Nat.lt_of_lt_of_le hb hW.size) (ht.below hW hb))
  rw [hg] at HG
  clear ht hs hg
  go_enter Tryz.func9, Tryz.ntmps9
  go_wp2_with fail
  refine (HG.out _ (below1 w _)).mono ?_
  rintro e w1 ⟨rfl, hb1⟩
  have hz1 := hb1.size
  simp only [World.size_alloc] at hz1
  have HB1 := Lib.hid (show Below (w.heap.size + 1) _ w1 from by simpa using hb1)
  have bc := bcellB HB1.out
  have r0 : w1.cell? ⟨w.heap.size, 0, none⟩ = some (.int .i64 0) := (bc.1 _ _ (by omega)).trans (by go_simp)
  have r1 : w1.cell? ⟨w.heap.size, 1, none⟩ = some (.int .i64 0) := (bc.1 _ _ (by omega)).trans (by go_simp)
  have r2 : w1.cell? ⟨w.heap.size, 2, none⟩ = some (.slice none 0 0) := (bc.1 _ _ (by omega)).trans (by go_simp)
  have z0 : w1.frozen? ⟨w.heap.size, 0, none⟩ = false := (bc.2 _ _ (by omega)).trans (by go_simp)
  have z1 : w1.frozen? ⟨w.heap.size, 1, none⟩ = false := (bc.2 _ _ (by omega)).trans (by go_simp)
  have z2 : w1.frozen? ⟨w.heap.size, 2, none⟩ = false := (bc.2 _ _ (by omega)).trans (by go_simp)
  have HW := Lib.hid ((below1 w (.cells #[.int .i64 0, .int .i64 0, .slice none 0 0] 26)).trans (HB1.out.mono (by omega)))
  clear bc hb1
  go_wp2
  refine bodyPost_ret (v := .tuple #[.agg #[.int .i64 0, .int .i64 0, .slice none 0 0], .int .i64 2]) (by simp [results, Tryz.results9, go_sem, r0, r1, r2]) rfl (SerPost.err 2 rfl ?_)
  have hW := HW.out
  go_grown

set_option maxRecDepth 100000 in
set_option maxHeartbeats 4000000 in
theorem sCrd_2 (D N : Nat) (g : Nat) (ts : List Tm) (hl : ts.length ≤ 1048576) (hs : ∀ i (h : i < ts.length), (ts[i]).s.size ≤ maxLen) (hg : givB D N ts = true) (w : World) (hb : g < w.heap.size) (ht : TermsIn w g 0 ts) :
    Calls Tryz.prog 9 #[.int .i64 D, .int .i64 N, .slice (some ⟨g, 0, none⟩) ts.length ts.length] w (FitB D N (serW (allW D N) ts) w) := by
  have HG := Lib.hid (fun W (hW : Below w.heap.size w W) => l06Given_c D N g 0 ts.length ts hl hs W (Nat.lt_of_lt_of_le hb hW.size) (ht.below hW hb))
  have HS := Lib.hid (fun W (hW : Below w.heap.size w W) => l06Series_c D N g ts hg W (Nat.lt_of_lt_of_le hb hW.size) (ht.below hW hb))
  rw [hg] at HG
  clear ht hs hg
  obtain ⟨o, ho⟩ : ∃ o, serW (allW D N) ts = o := ⟨_, rfl⟩
  rw [ho] at HS ⊢
  clear ho
  go_enter Tryz.func9, Tryz.ntmps9
  go_wp2_with fail
  refine (HG.out _ (below1 w _)).mono ?_
  rintro e w1 ⟨rfl, hb1⟩
  have hz1 := hb1.size
  simp only [World.size_alloc] at hz1
  have HB1 := Lib.hid ((below1 w _).trans (hb1.mono (by simp)))
  have HT1 := Lib.hid ((T3.new w 0 0 none 0 0 26).next hb1)
  clear hb1
  go_wp2_with fail
  refine (HS.out _ HB1.out).mono ?_
  cases o with
  | none =>
    rintro e w2 ⟨rfl, hb2⟩
    have hz2 := hb2.size
    obtain ⟨hq, r0, r1, r2, z0, z1, z2⟩ := id (HT1.out.next hb2)
    have HW := Lib.hid (HB1.out.trans (hb2.mono (by omega)))
    clear hb2
    go_wp2
    refine bodyPost_ret (v := .tuple #[.agg #[.int .i64 0, .int .i64 0, .slice none 0 0], .int .i64 3]) (by simp [results, Tryz.results9, go_sem, r0, r1, r2, hq]) rfl (SerPost.err 3 rfl ?_)
    have hW := HW.out
    go_grown
  | some h =>
    rintro e w2 ⟨a2, c2, rfl, hb2, hN2⟩
    have hz2 := hb2.size
    obtain ⟨hq, r0, r1, r2, z0, z1, z2⟩ := id (HT1.out.next hb2)
    have HW := Lib.hid (HB1.out.trans (hb2.mono (by omega)))
    have HN := Lib.hid hN2
    clear hb2 hN2
    go_wp2
    refine bodyPost_ret (v := .tuple #[.agg #[.int .i64 D, .int .i64 N, .slice a2 (termsOf h (allW D N)).length c2], .int .i64 0]) (by simp [results, Tryz.results9, go_sem, r0, r1, r2, hq]) rfl ⟨a2, c2, rfl, ?_, ?_⟩
    · have hW := HW.out
      go_grown
    · have q := ((HN.out.far1s (n := w.heap.size) (i := 0) (x := .int .i64 D) (by omega)).far1s (n := w.heap.size) (i := 1) (x := .int .i64 N) (by omega)).far1s (n := w.heap.size) (i := 2) (x := .slice a2 (termsOf h (allW D N)).length c2) (by omega)
      have q2 := (q.mono (lo' := w.heap.size) (by omega) (show _ ≤ ((((w2.setCell ⟨w.heap.size, 0, none⟩ (.int .i64 D)).setCell ⟨w.heap.size, 1, none⟩ (.int .i64 N)).setCell ⟨w.heap.size, 2, none⟩ (.slice a2 (termsOf h (allW D N)).length c2))).heap.size by simp only [World.size_setCell]; exact Nat.le_refl _)).below (below1 _ (.cells #[.int .i64 D, .int .i64 N, .slice a2 (termsOf h (allW D N)).length c2] 26)) (Nat.le_refl _)
      exact q2.mono (Nat.le_refl _) (by rw [World.size_alloc]; omega)
end Go.Proofs.YtgcjpenlcokgjaaGreatDoor

namespace Go.Proofs.YtgcjpenlcokgjaaGreatDoor
open Go.RowKit

set_option maxRecDepth 100000 in
theorem iCrd_1 (L V : Int) (g : Nat) (ts : List Tm) (hl : ts.length ≤ 1048576) (hs : ∀ i (h : i < ts.length), (ts[i]).s.size ≤ maxLen) (hg : givB L V ts = false) (w : World) (hb : g < w.heap.size) (ht : TermsIn w g 0 ts) :
    Calls Tryz.prog 11 #[.int .i64 L, .int .i64 V, .slice (some ⟨g, 0, none⟩) ts.length ts.length] w (SerPost 0 0 [] 2 w) := by
  have HG := Lib.hid (fun W (hW : Below w.heap.size w W) => areCoordinates_c L V g 0 ts.length ts hl hs W (Nat.lt_of_lt_of_le hb hW.size) (ht.below hW hb))
  rw [hg] at HG
  clear ht hs hg
  go_enter Tryz.func11, Tryz.ntmps11
  go_wp2_with fail
  refine (HG.out _ ((below3 w _ _ _).alloc (by simp; omega) _)).mono ?_
  rintro e w1 ⟨rfl, hb1⟩
  have hz1 := hb1.size
  simp only [World.size_alloc] at hz1
  have HB1 := Lib.hid (show Below (w.heap.size + 1 + 1 + 1 + 1) _ w1 from by simpa using hb1)
  have bc := bcellB HB1.out
  have r0 : w1.cell? ⟨w.heap.size + 1 + 1 + 1, 0, none⟩ = some (.int .i64 0) := (bc.1 _ _ (by omega)).trans (by go_simp)
  have r1 : w1.cell? ⟨w.heap.size + 1 + 1 + 1, 1, none⟩ = some (.int .i64 0) := (bc.1 _ _ (by omega)).trans (by go_simp)
  have r2 : w1.cell? ⟨w.heap.size + 1 + 1 + 1, 2, none⟩ = some (.slice none 0 0) := (bc.1 _ _ (by omega)).trans (by go_simp)
  have z0 : w1.frozen? ⟨w.heap.size + 1 + 1 + 1, 0, none⟩ = false := (bc.2 _ _ (by omega)).trans (by go_simp)
  have z1 : w1.frozen? ⟨w.heap.size + 1 + 1 + 1, 1, none⟩ = false := (bc.2 _ _ (by omega)).trans (by go_simp)
  have z2 : w1.frozen? ⟨w.heap.size + 1 + 1 + 1, 2, none⟩ = false := (bc.2 _ _ (by omega)).trans (by go_simp)
  have HW := Lib.hid (((below3 w _ _ _).alloc (by simp; omega) _).trans (HB1.out.mono (by omega)))
  clear bc hb1
  go_wp2
  refine bodyPost_ret (v := .tuple #[.agg #[.int .i64 0, .int .i64 0, .slice none 0 0], .int .i64 2]) (by simp [results, Tryz.results11, go_sem, r0, r1, r2]) rfl (SerPost.err 2 rfl ?_)
  have hW := HW.out
  go_grown
end Go.Proofs.YtgcjpenlcokgjaaGreatDoor

namespace Go.Proofs.YtgcjpenlcokgjaaGreatDoor
open Go.RowKit

set_option maxRecDepth 100000 in
set_option maxHeartbeats 8000000 in
theorem iCrd_2 (D N : Nat) (g : Nat) (ts : List Tm) (hl : ts.length ≤ 1048576) (hs : ∀ i (h : i < ts.length), (ts[i]).s.size ≤ maxLen) (hg : givB D N ts = true) (w : World) (hb : g < w.heap.size) (ht : TermsIn w g 0 ts) :
    Calls Tryz.prog 11 #[.int .i64 D, .int .i64 N, .slice (some ⟨g, 0, none⟩) ts.length ts.length] w (FitB D N (serW (allW D N) ts) w) := by
  have hser := (giv_true hg).1
  have hsh : shapeB (D : Int) (N : Int) = true := by unfold serB at hser; rw [Bool.and_eq_true] at hser; exact hser.1
  have hDN := shape_out hsh
  have hmf : ∀ (fn : Fn) (first cap : Array Value) (w : World), (Instr.makeFunc fn first cap).run Tryz.prog w = .ok (.func fn first cap) w := fun _ _ _ _ => rfl
  have hfew := allW_few (D := D) (by omega) (n := N) (by omega)
  have HWl := Lib.hid (show (allW D N).length ≤ 1048576 by omega)
  have HWs := Lib.hid (show ∀ s ∈ allW D N, s.size ≤ 1048576 from fun s hs => by have := allW_size D N s hs; omega)
  have HAr := Lib.hid (fun W (hW : Below w.heap.size w W) => areCoordinates_c D N g 0 ts.length ts hl hs W (Nat.lt_of_lt_of_le hb hW.size) (ht.below hW hb))
  rw [hg] at HAr
  have HDw := Lib.hid (fun pL pV pT p b off cS W (hW : Below w.heap.size w W) a1 a2 a3 a4 a5 a6 a7 a8 a9 a10 a11 a12 => crdWork D N g ts hl hs hg pL pV pT p b off cS W a1 a2 a3 a4 a5 a6 a7 a8 a9 a10 a11 a12 (Nat.lt_of_lt_of_le hb hW.size) (ht.below hW hb))
  clear hs ht hg hser hsh
  go_enter Tryz.func11, Tryz.ntmps11
  go_wp2_with fail
  refine (HAr.out _ ((below3 w _ _ _).alloc (by simp; omega) _)).mono ?_
  rintro e w1 ⟨rfl, hb1⟩
  have hz1 := hb1.size
  simp only [World.size_alloc] at hz1
  have HB1 := Lib.hid (show Below (w.heap.size + 1 + 1 + 1 + 1) ((((w.alloc (.cells #[.int .i64 D] 2)).alloc (.cells #[.int .i64 N] 2)).alloc (.cells #[.slice (some ⟨g, 0, none⟩) ts.length ts.length] 24)).alloc (.cells #[.int .i64 0, .int .i64 0, .slice none 0 0] 26)) w1 from by simpa using hb1)
  have bc := bcellB HB1.out
  have x0 : w1.cell? ⟨w.heap.size, 0, none⟩ = some (.int .i64 D) := (bc.1 _ _ (by omega)).trans (by go_simp)
  have x1 : w1.cell? ⟨w.heap.size + 1, 0, none⟩ = some (.int .i64 N) := (bc.1 _ _ (by omega)).trans (by go_simp)
  clear bc hb1
  go_wp2_with fail
  refine (spaceOf_c D N (by omega) (by omega) _).mono ?_
  clear x0 x1
  rintro e w2 ⟨aS, cS, rfl, hb2', hN2⟩
  have HB2 := Lib.hid (HB1.out.trans (hb2'.mono hz1))
  have hz2 : w.heap.size + 1 + 1 + 1 + 1 ≤ w2.heap.size := by have := hb2'.size; omega
  obtain ⟨b, off, rfl, hbS, hIS⟩ : ∃ b off, aS = some ⟨b, off, none⟩ ∧ b < w2.heap.size ∧ StrsIn w2 b off (allW D N) := by
    rcases hN2.row with h | h
    · obtain ⟨r, hr, _⟩ := allW_head D N
      rw [hr] at h; cases h
    · exact h
  have HB3 := Lib.hid (HB2.out.alloc (by omega) (.cells #[.int .i64 D, .int .i64 N, .slice (some ⟨b, off, none⟩) (allW D N).length cS] 64))
  have HW3 := Lib.hid (((below3 w (.cells #[.int .i64 D] 2) (.cells #[.int .i64 N] 2) (.cells #[.slice (some ⟨g, 0, none⟩) ts.length ts.length] 24)).alloc (by simp; omega) (.cells #[.int .i64 0, .int .i64 0, .slice none 0 0] 26)).trans (HB3.out.mono (by omega)))
  have bc := bcellB HB3.out
  have Kx0 : (w2.alloc (.cells #[.int .i64 D, .int .i64 N, .slice (some ⟨b, off, none⟩) (allW D N).length cS] 64)).cell? ⟨w.heap.size, 0, none⟩ = some (.int .i64 D) := (bc.1 _ _ (by omega)).trans (by go_simp)
  have Kx1 : (w2.alloc (.cells #[.int .i64 D, .int .i64 N, .slice (some ⟨b, off, none⟩) (allW D N).length cS] 64)).cell? ⟨w.heap.size + 1, 0, none⟩ = some (.int .i64 N) := (bc.1 _ _ (by omega)).trans (by go_simp)
  have Kx2 : (w2.alloc (.cells #[.int .i64 D, .int .i64 N, .slice (some ⟨b, off, none⟩) (allW D N).length cS] 64)).cell? ⟨w.heap.size + 1 + 1, 0, none⟩ = some (.slice (some ⟨g, 0, none⟩) ts.length ts.length) := (bc.1 _ _ (by omega)).trans (by go_simp)
  have Ks0 : (w2.alloc (.cells #[.int .i64 D, .int .i64 N, .slice (some ⟨b, off, none⟩) (allW D N).length cS] 64)).cell? ⟨w2.heap.size, 0, none⟩ = some (.int .i64 D) := by go_simp
  have Ks1 : (w2.alloc (.cells #[.int .i64 D, .int .i64 N, .slice (some ⟨b, off, none⟩) (allW D N).length cS] 64)).cell? ⟨w2.heap.size, 1, none⟩ = some (.int .i64 N) := by go_simp
  have Ks2 : (w2.alloc (.cells #[.int .i64 D, .int .i64 N, .slice (some ⟨b, off, none⟩) (allW D N).length cS] 64)).cell? ⟨w2.heap.size, 2, none⟩ = some (.slice (some ⟨b, off, none⟩) (allW D N).length cS) := by go_simp
  have HNs := Lib.hid (show StrsIn (w2.alloc (.cells #[.int .i64 D, .int .i64 N, .slice (some ⟨b, off, none⟩) (allW D N).length cS] 64)) b off (allW D N) from hIS.below (below1 w2 (.cells #[.int .i64 D, .int .i64 N, .slice (some ⟨b, off, none⟩) (allW D N).length cS] 64)) hbS)
  have hzz : (w2.alloc (.cells #[.int .i64 D, .int .i64 N, .slice (some ⟨b, off, none⟩) (allW D N).length cS] 64)).heap.size = w2.heap.size + 1 := by simp
  have HR := Lib.hid (show Z3 w2 (w.heap.size + 1 + 1 + 1) from by
    have bc := bcellB HB2.out
    exact ⟨by omega, (bc.1 _ _ (by omega)).trans (by go_simp), (bc.1 _ _ (by omega)).trans (by go_simp), (bc.1 _ _ (by omega)).trans (by go_simp), (bc.2 _ _ (by omega)).trans (by go_simp), (bc.2 _ _ (by omega)).trans (by go_simp), (bc.2 _ _ (by omega)).trans (by go_simp)⟩)
  have HWork := Lib.hid (fun W (hW : Below (w2.alloc (.cells #[.int .i64 D, .int .i64 N, .slice (some ⟨b, off, none⟩) (allW D N).length cS] 64)).heap.size (w2.alloc (.cells #[.int .i64 D, .int .i64 N, .slice (some ⟨b, off, none⟩) (allW D N).length cS] 64)) W) => HDw.out w.heap.size (w.heap.size + 1) (w.heap.size + 1 + 1) w2.heap.size b off cS W (HW3.out.trans (hW.mono (by omega))) (by have := hW.size; omega) (by have := hW.size; omega) (by have := hW.size; omega) (by have := hW.size; omega) ((hW.cell (p := ⟨w.heap.size, 0, none⟩) (by show w.heap.size < _; omega)).trans Kx0) ((hW.cell (p := ⟨w.heap.size + 1, 0, none⟩) (by show w.heap.size + 1 < _; omega)).trans Kx1) ((hW.cell (p := ⟨w.heap.size + 1 + 1, 0, none⟩) (by show w.heap.size + 1 + 1 < _; omega)).trans Kx2) ((hW.cell (p := ⟨w2.heap.size, 0, none⟩) (by show w2.heap.size < _; omega)).trans Ks0) ((hW.cell (p := ⟨w2.heap.size, 1, none⟩) (by show w2.heap.size < _; omega)).trans Ks1) ((hW.cell (p := ⟨w2.heap.size, 2, none⟩) (by show w2.heap.size < _; omega)).trans Ks2) (by have := hW.size; omega) (HNs.out.below hW (by omega)))
  have HRs := Lib.hid (show SRow (w2.alloc (.cells #[.int .i64 D, .int .i64 N, .slice (some ⟨b, off, none⟩) (allW D N).length cS] 64)) (some ⟨b, off, none⟩) (allW D N) from .inr ⟨b, off, rfl, by omega, HNs.out⟩)
  clear bc hb2' hN2
  cases hv : serW (allW D N) ts with
  | none =>
    have HVv := Lib.hid hv
    have HDoor := Lib.hid (door_no D N (some ⟨b, off, none⟩) (allW D N).length cS 39 #[.pointer (some ⟨w.heap.size, 0, none⟩), .pointer (some ⟨w.heap.size + 1, 0, none⟩), .pointer (some ⟨w.heap.size + 1 + 1, 0, none⟩), .pointer (some ⟨w2.heap.size, 0, none⟩)] (fun _ => by kernel_rfl) (w2.alloc (.cells #[.int .i64 D, .int .i64 N, .slice (some ⟨b, off, none⟩) (allW D N).length cS] 64)) (fun W hW => by have hk := HWork.out W hW; rw [hv] at hk; exact hk))
    clear Kx0 Kx1 Kx2 Ks0 Ks1 Ks2 hv hIS
    go_wp2_with fail
    refine HDoor.out.mono ?_
    rintro e w4 ⟨rfl, hb4⟩
    have HZ := Lib.hid ((HR.out.below (below1 w2 (.cells #[.int .i64 D, .int .i64 N, .slice (some ⟨b, off, none⟩) (allW D N).length cS] 64)) HR.out.1).below hb4 (by omega))
    have r0 := HZ.out.2.1
    have r1 := HZ.out.2.2.1
    have r2 := HZ.out.2.2.2.1
    have z0 := HZ.out.2.2.2.2.1
    have z1 := HZ.out.2.2.2.2.2.1
    have z2 := HZ.out.2.2.2.2.2.2
    have HW4 := Lib.hid (HW3.out.trans (hb4.mono (by omega)))
    clear hb4
    go_wp2
    try rw [HVv.out]
    refine bodyPost_ret (v := .tuple #[.agg #[.int .i64 0, .int .i64 0, .slice none 0 0], .int .i64 3]) (by simp [results, Tryz.results11, go_sem, r0, r1, r2]) rfl (SerPost.err 3 rfl ?_)
    have hW := HW4.out
    go_grown
  | some h =>
    have HVv := Lib.hid hv
    have HDoor := Lib.hid (door_yes D N (some ⟨b, off, none⟩) cS (allW D N) HWl.out HWs.out h 39 #[.pointer (some ⟨w.heap.size, 0, none⟩), .pointer (some ⟨w.heap.size + 1, 0, none⟩), .pointer (some ⟨w.heap.size + 1 + 1, 0, none⟩), .pointer (some ⟨w2.heap.size, 0, none⟩)] (fun _ => by kernel_rfl) (w2.alloc (.cells #[.int .i64 D, .int .i64 N, .slice (some ⟨b, off, none⟩) (allW D N).length cS] 64)) (fun W hW => by have hk := HWork.out W hW; rw [hv] at hk; exact hk) HRs.out)
    clear Kx0 Kx1 Kx2 Ks0 Ks1 Ks2 hv hIS
    go_wp2_with fail
    refine HDoor.out.mono ?_
    rintro e w4 ⟨a4, c4, rfl, hb4, hN4⟩
    have HZ := Lib.hid ((HR.out.below (below1 w2 (.cells #[.int .i64 D, .int .i64 N, .slice (some ⟨b, off, none⟩) (allW D N).length cS] 64)) HR.out.1).below hb4 (by omega))
    have r0 := HZ.out.2.1
    have r1 := HZ.out.2.2.1
    have r2 := HZ.out.2.2.2.1
    have z0 := HZ.out.2.2.2.2.1
    have z1 := HZ.out.2.2.2.2.2.1
    have z2 := HZ.out.2.2.2.2.2.2
    have HW4 := Lib.hid (HW3.out.trans (hb4.mono (by omega)))
    have HN4 := Lib.hid hN4
    clear hb4 hN4
    go_wp2
    try rw [HVv.out]
    refine bodyPost_ret (v := .tuple #[.agg #[.int .i64 D, .int .i64 N, .slice a4 (termsOf h (allW D N)).length c4], .int .i64 0]) (by simp [results, Tryz.results11, go_sem, r0, r1, r2]) rfl ⟨a4, c4, rfl, ?_, ?_⟩
    · have hW := HW4.out
      go_grown
    · exact (((HN4.out.far1s (n := w.heap.size + 1 + 1 + 1) (i := 0) (x := .int .i64 D) (by omega)).far1s (n := w.heap.size + 1 + 1 + 1) (i := 1) (x := .int .i64 N) (by omega)).far1s (n := w.heap.size + 1 + 1 + 1) (i := 2) (x := .slice a4 (termsOf h (allW D N)).length c4) (by omega)).mono (by omega) (by simp)
end Go.Proofs.YtgcjpenlcokgjaaGreatDoor
