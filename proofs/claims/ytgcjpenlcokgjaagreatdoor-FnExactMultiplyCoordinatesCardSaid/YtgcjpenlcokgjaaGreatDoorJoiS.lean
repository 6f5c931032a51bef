/-
  Contracts of JoinedSeries, of the program and of its model: both return the same series and code.
-/
import Derived.Test.YtgcjpenlcokgjaaGreatDoorLogSer
import Derived.Test.YtgcjpenlcokgjaaGreatDoorSopF
import Derived.Test.YtgcjpenlcokgjaaGreatDoorGate
import Derived.Test.YtgcjpenlcokgjaaGreatDoorConst
import Derived.Deep.RegionHeld2
namespace Go.Proofs.YtgcjpenlcokgjaaGreatDoor
open Go.RowKit

/-- the logarithm of the product of the exponentials -/
def joinV (x y : VF) (ws : List ByteArray) (N : Nat) : Option VF := (expV x ws N).bind fun a => (expV y ws N).bind fun b => (prodV a b ws).bind fun p => logV p ws N
theorem join_1 {x y : VF} {ws : List ByteArray} {N : Nat} (h : expV x ws N = none) : joinV x y ws N = none := by unfold joinV; rw [h]; rfl
theorem join_2 {x y : VF} {ws : List ByteArray} {N : Nat} (h : expV y ws N = none) : joinV x y ws N = none := by
  unfold joinV
  rw [h]
  cases expV x ws N <;> rfl
theorem join_3 {x y a b : VF} {ws : List ByteArray} {N : Nat} (h1 : expV x ws N = some a) (h2 : expV y ws N = some b) (h3 : prodV a b ws = none) : joinV x y ws N = none := by unfold joinV; rw [h1, h2]; show (prodV a b ws).bind _ = none; rw [h3]; rfl
theorem join_4 {x y a b p : VF} {ws : List ByteArray} {N : Nat} (h1 : expV x ws N = some a) (h2 : expV y ws N = some b) (h3 : prodV a b ws = some p) : joinV x y ws N = logV p ws N := by unfold joinV; rw [h1, h2]; show (prodV a b ws).bind _ = _; rw [h3]; rfl
theorem expV_good {x a : VF} {ws : List ByteArray} {N : Nat} (h : expV x ws N = some a) : GoodV ws a := sumK_good (show sumK x ws expF (N + 1) = some a from h)

set_option maxRecDepth 100000 in
set_option maxHeartbeats 8000000 in
theorem l06Joined_c (D N : Nat) (hD : 1 ≤ D ∧ D ≤ 3) (hN : N ≤ 5) (a1 a2 : Option Addr) (cap1 cap2 : Nat) (f g : VF) (hf : GoodV (allW D N) f) (hg : GoodV (allW D N) g) (xs ys : List Tm) (hx : termsOf f (allW D N) = xs) (hy : termsOf g (allW D N) = ys) (w : World) (hr1 : Row w a1 xs) (hr2 : Row w a2 ys) :
    Calls Tryz.prog 58 #[.agg #[.int .i64 D, .int .i64 N, .slice a1 xs.length cap1], .agg #[.int .i64 D, .int .i64 N, .slice a2 ys.length cap2]] w (SumPost D N ((joinV f g (allW D N) N).map fun h => termsOf h (allW D N)) w) := by
  have hW := allW_asc hD.2 N
  have hfew := allW_few (D := D) hD.2 (n := N) hN
  have HR1 := Lib.hid hr1
  have HR2 := Lib.hid hr2
  have HE1 := Lib.hid (fun W r => l02Exp_c D N hD hN a1 cap1 f hf xs hx W r)
  have HE2 := Lib.hid (fun W r => l02Exp_c D N hD hN a2 cap2 g hg ys hy W r)
  have HTm := Lib.hid (fun aP cP p (hp : GoodV (allW D N) p) aQ cQ q (hq : GoodV (allW D N) q) W r1 r2 => (prodL_V p q (allW D N)) ▸ l02Times_c D N hD hN aP aQ cP cQ p q hp hq (termsOf p (allW D N)) (termsOf q (allW D N)) rfl rfl (by have := termsOf_len p (allW D N); omega) (by have := termsOf_len q (allW D N); omega) hW W r1 r2)
  have HLg := Lib.hid (fun aP cP p (hp : GoodV (allW D N) p) W r => l02Log_c D N hD hN aP cP p hp (termsOf p (allW D N)) rfl W r)
  obtain ⟨rx, hrx⟩ : ∃ rx, expV f (allW D N) N = rx := ⟨_, rfl⟩
  obtain ⟨ry, hry⟩ : ∃ ry, expV g (allW D N) N = ry := ⟨_, rfl⟩
  rw [hrx] at HE1
  rw [hry] at HE2
  have HX := Lib.hid hrx
  have HY := Lib.hid hry
  clear hr1 hr2 hf hg hx hy hrx hry hW hfew
  go_enter Tryz.func58, Tryz.ntmps58
  go_wp2_with fail
  have HWb := Lib.hid (below3 w (.cells #[.int .i64 D, .int .i64 N, .slice a1 xs.length cap1] 26) (.cells #[.int .i64 D, .int .i64 N, .slice a2 ys.length cap2] 26) (.cells #[.int .i64 0, .int .i64 0, .slice none 0 0] 26))
  refine (HE1.out _ (HR1.out.below HWb.out)).mono ?_
  rintro e w1 hpost
  obtain ⟨X1, Y1, b1, l1, c1, ok1, rfl, hb1, hU1⟩ := SumPost.u hpost
  have hT1 := (show T3 (((w.alloc (.cells #[.int .i64 D, .int .i64 N, .slice a1 xs.length cap1] 26)).alloc (.cells #[.int .i64 D, .int .i64 N, .slice a2 ys.length cap2] 26)).alloc (.cells #[.int .i64 0, .int .i64 0, .slice none 0 0] 26)) (w.heap.size + 2) (.int .i64 0) (.int .i64 0) (.slice none 0 0) from T3.newAt (by simp)).next hb1
  have bc := bcellB hb1
  have y0 : w1.cell? ⟨w.heap.size + 1, 0, none⟩ = some (.int .i64 D) := (bc.1 _ _ (by first | (simp; done) | (simp; omega))).trans (by go_simp)
  have y1 : w1.cell? ⟨w.heap.size + 1, 1, none⟩ = some (.int .i64 N) := (bc.1 _ _ (by first | (simp; done) | (simp; omega))).trans (by go_simp)
  have y2 : w1.cell? ⟨w.heap.size + 1, 2, none⟩ = some (.slice a2 ys.length cap2) := (bc.1 _ _ (by first | (simp; done) | (simp; omega))).trans (by go_simp)
  have HB1 := Lib.hid (HWb.out.trans (hb1.mono (by simp; omega)))
  have hz1 : w.heap.size + 2 < w1.heap.size := hT1.1
  have hq1 : w.heap.size + 1 < w1.heap.size := by omega
  have HT1 := Lib.hid hT1
  have HU1 := Lib.hid hU1
  clear hpost hb1 hU1 hT1 bc
  go_wp2_with fail
  have hv1 := below1 w1 (.cells #[.int .i64 X1, .int .i64 Y1, .slice b1 l1 c1] 26)
  have hBx := (T3.new w1 X1 Y1 b1 l1 c1 26)
  refine (HE2.out _ (HR2.out.below (HB1.out.trans (hv1.mono (by omega))))).mono ?_
  rintro e w2 hpost
  obtain ⟨X2, Y2, b2, l2, c2, ok2, rfl, hb2, hU2⟩ := SumPost.u hpost
  have hb12 : Below w1.heap.size w1 w2 := below_step hv1 hb2 (Nat.le_refl _)
  have hT2 := HT1.out.next hb12
  have HB2 := Lib.hid (HB1.out.trans (hb12.mono (by omega)))
  have HBx2 := Lib.hid (hBx.next hb2)
  have HU1' := Lib.hid ((HU1.out.below hv1).below hb2)
  have hz2 : w1.heap.size < w2.heap.size := (hBx.next hb2).1
  have HT2 := Lib.hid hT2
  have HU2 := Lib.hid hU2
  clear hpost hb2 hU2 hT2 hv1 hBx hb12 y0 y1 y2
  cases rx with
  | none =>
    obtain ⟨rfl, rfl, rfl, rfl, rfl, rfl⟩ := HU1.out
    have HJ := Lib.hid (join_1 (y := g) HX.out)
    have HBz := Lib.hid HB2.out
    obtain ⟨hq4, r0, r1, r2, z0, z1, z2⟩ := id HT2.out
    go_wp2
    rw [HJ.out]
    refine bodyPost_ret (v := .tuple #[.agg #[.int .i64 0, .int .i64 0, .slice none 0 0], .bool false]) (by simp [results, Tryz.results58, go_sem, r0, r1, r2, hq4]) rfl ⟨rfl, ?_⟩
    have hW := HBz.out
    go_grown
  | some a =>
    obtain ⟨rfl, rfl, rfl, rfl, hN1⟩ := HU1'.out
    have HN1 := Lib.hid hN1
    clear hN1
    cases ry with
    | none =>
      obtain ⟨rfl, rfl, rfl, rfl, rfl, rfl⟩ := HU2.out
      have HJ := Lib.hid (join_2 (x := f) HY.out)
      have HBz := Lib.hid HB2.out
      obtain ⟨hq4, r0, r1, r2, z0, z1, z2⟩ := id HT2.out
      go_wp2
      rw [HJ.out]
      refine bodyPost_ret (v := .tuple #[.agg #[.int .i64 0, .int .i64 0, .slice none 0 0], .bool false]) (by simp [results, Tryz.results58, go_sem, r0, r1, r2, hq4]) rfl ⟨rfl, ?_⟩
      have hW := HBz.out
      go_grown
    | some b =>
      obtain ⟨rfl, rfl, rfl, rfl, hN2⟩ := HU2.out
      obtain ⟨-, t0, t1, t2, -, -, -⟩ := id HBx2.out
      have HN2 := Lib.hid hN2
      have hv2 := below1 w2 (.cells #[.int .i64 D, .int .i64 N, .slice b2 (termsOf b (allW D N)).length c2] 26)
      have HTc := Lib.hid (HTm.out b1 c1 a (expV_good HX.out) b2 c2 b (expV_good HY.out) _ (HN1.out.row.below hv2) (HN2.out.row.below hv2))
      obtain ⟨rp, hrp⟩ : ∃ rp, prodV a b (allW D N) = rp := ⟨_, rfl⟩
      rw [hrp] at HTc
      have HP := Lib.hid hrp
      clear hN2 hrp
      go_wp2_with fail
      refine HTc.out.mono ?_
      cases rp with
      | none =>
        rintro e w3 ⟨rfl, hb3⟩
        have hb23 : Below w2.heap.size w2 w3 := below_step hv2 hb3 (Nat.le_refl _)
        have HJ := Lib.hid (join_3 HX.out HY.out HP.out)
        have HBz := Lib.hid (HB2.out.trans (hb23.mono (by omega)))
        obtain ⟨hq4, r0, r1, r2, z0, z1, z2⟩ := id (HT2.out.next hb23)
        clear hb3 hb23 hv2 t0 t1 t2
        go_wp2
        rw [HJ.out]
        refine bodyPost_ret (v := .tuple #[.agg #[.int .i64 0, .int .i64 0, .slice none 0 0], .bool false]) (by simp [results, Tryz.results58, go_sem, r0, r1, r2, hq4]) rfl ⟨rfl, ?_⟩
        have hW := HBz.out
        go_grown
      | some p =>
        rintro e w3 ⟨b3, c3, rfl, hb3, hN3⟩
        have hb23 : Below w2.heap.size w2 w3 := below_step hv2 hb3 (Nat.le_refl _)
        have HJ := Lib.hid (join_4 HX.out HY.out HP.out)
        have HB3 := Lib.hid (HB2.out.trans (hb23.mono (by omega)))
        have HT3 := Lib.hid (HT2.out.next hb23)
        have hv3 := below1 w3 (.cells #[.int .i64 D, .int .i64 N, .slice b3 (termsOf p (allW D N)).length c3] 26)
        have HLc := Lib.hid (HLg.out b3 c3 p (GoodV.prodV HP.out) _ (hN3.row.below hv3))
        have hz3 := hb23.size
        clear hb3 hb23 hv2 hN3 t0 t1 t2
        go_wp2_with fail
        refine HLc.out.mono ?_
        rintro e w4 hpost
        obtain ⟨X, Y, a5, l5, c5, ok, rfl, hb4, hU⟩ := SumPost.u hpost
        have hb34 : Below w3.heap.size w3 w4 := below_step hv3 hb4 (Nat.le_refl _)
        obtain ⟨hq4, r0, r1, r2, z0, z1, z2⟩ := id (HT3.out.next hb34)
        have HBz := Lib.hid (HB3.out.trans (hb34.mono (by omega)))
        have HU := Lib.hid hU
        have hz4 := hb34.size
        clear hpost hb4 hU hb34 hv3
        go_wp2
        rw [HJ.out]
        refine bodyPost_ret (v := .tuple #[.agg #[.int .i64 X, .int .i64 Y, .slice a5 l5 c5], .bool ok]) (by simp [results, Tryz.results58, go_sem, r0, r1, r2, hq4]) rfl ?_
        have hU := HU.out
        have hW := HBz.out
        simp only [World.size_alloc] at hU
        exact SumU.back (lo := w3.heap.size + 1) (by first | exact (((hU.far (by omega)).far (by omega)).far (by omega)).below (below1 _ _) | exact (((hU.below (below1 _ _)).far (by omega)).far (by omega)).far (by omega)) (by go_grown) (by omega)

set_option maxRecDepth 100000 in
set_option maxHeartbeats 8000000 in
theorem joinWork_1 (D N : Nat) (hD : 1 ≤ D ∧ D ≤ 3) (hN : N ≤ 5) (p pa pb m1 n1 m2 n2 : Nat) (aS : Option Addr) (cS : Nat) (f g : VF) (hf : GoodV (allW D N) f) (hg : GoodV (allW D N) g) (hx : expV f (allW D N) N = none) (w : World) (hp : p < w.heap.size) (hpa : pa < w.heap.size) (hpb : pb < w.heap.size) (s0 : w.cell? ⟨p, 0, none⟩ = some (.int .i64 D)) (s1 : w.cell? ⟨p, 1, none⟩ = some (.int .i64 N)) (s2 : w.cell? ⟨p, 2, none⟩ = some (.slice aS (allW D N).length cS)) (a0 : w.cell? ⟨pa, 0, none⟩ = some (.map (some m1))) (b0 : w.cell? ⟨pb, 0, none⟩ = some (.map (some m2))) (hrs : SRow w aS (allW D N)) (hM1 : MapV w m1 n1 f) (hM2 : MapV w m2 n2 g) :
    Calls Tryz.prog 103 #[.pointer (some ⟨p, 0, none⟩), .pointer (some ⟨pa, 0, none⟩), .pointer (some ⟨pb, 0, none⟩)] w (WorkPost (joinV f g (allW D N) N) w) := by
  have hfew := allW_few (D := D) hD.2 (n := N) hN
  have HWl := Lib.hid (show (allW D N).length ≤ 100000 by omega)
  have HWs := Lib.hid (show ∀ s ∈ allW D N, s.size ≤ 1000 from fun s hs => by have := allW_size D N s hs; omega)
  have HGu := Lib.hid (good_unit D N)
  have HAa := Lib.hid (show ∀ p, aS = some p → p.block < w.heap.size from fun p e => by
    rcases hrs with h | ⟨b, o, e2, h3, _⟩
    · obtain ⟨r, hr, _⟩ := allW_head D N
      rw [hr] at h
      cases h
    · rw [e2] at e
      injection e with e
      rw [← e]
      exact h3)
  have HRS := Lib.hid hrs
  have HM1 := Lib.hid hM1
  have HM2 := Lib.hid hM2
  have hl1 := hM1.lt
  have hl2 := hM2.lt
  have hcnt : (N + 1) * (allW D N).length ≤ 1048576 := Nat.le_trans (Nat.mul_le_mul (show N + 1 ≤ 6 by omega) (show (allW D N).length ≤ 1458 by omega)) (by omega)
  have KS := Lib.hid (show ∀ w', Below w.heap.size w w' → (w'.cell? ⟨p, 0, none⟩ = some (.int .i64 D) ∧ w'.cell? ⟨p, 1, none⟩ = some (.int .i64 N) ∧ w'.cell? ⟨p, 2, none⟩ = some (.slice aS (allW D N).length cS) ∧ w'.cell? ⟨pa, 0, none⟩ = some (.map (some m1)) ∧ w'.cell? ⟨pb, 0, none⟩ = some (.map (some m2))) from fun w' hb => ⟨(hb.cell (p := ⟨p, 0, none⟩) hp).trans s0, (hb.cell (p := ⟨p, 1, none⟩) hp).trans s1, (hb.cell (p := ⟨p, 2, none⟩) hp).trans s2, (hb.cell (p := ⟨pa, 0, none⟩) hpa).trans a0, (hb.cell (p := ⟨pb, 0, none⟩) hpb).trans b0⟩)
  have HE1 := Lib.hid (fun W (hW : Below w.heap.size w W) => exponential_c D N hN aS cS (allW D N) HWl.out HWs.out HGu.out f hf m1 n1 W (HRS.out.below hW (Nat.le_refl _)) (fun q e => Nat.lt_of_lt_of_le (HAa.out q e) hW.size) (HM1.out.below hW hl1))
  have HE2 := Lib.hid (fun W (hW : Below w.heap.size w W) => exponential_c D N hN aS cS (allW D N) HWl.out HWs.out HGu.out g hg m2 n2 W (HRS.out.below hW (Nat.le_refl _)) (fun q e => Nat.lt_of_lt_of_le (HAa.out q e) hW.size) (HM2.out.below hW hl2))
  rw [hx] at HE1
  have HV := Lib.hid (show joinV f g (allW D N) N = none from join_1 hx)
  clear hrs hM1 hM2 s0 s1 s2 a0 b0 hf hg hx
  go_enter Tryz.func103, Tryz.ntmps103
  go_upto_region 1 with fail
  go_region_held2 (fun w' => w'.cell? ⟨p, 0, none⟩ = some (.int .i64 D) ∧ w'.cell? ⟨p, 1, none⟩ = some (.int .i64 N) ∧ w'.cell? ⟨p, 2, none⟩ = some (.slice aS (allW D N).length cS) ∧ w'.cell? ⟨pa, 0, none⟩ = some (.map (some m1)) ∧ w'.cell? ⟨pb, 0, none⟩ = some (.map (some m2)))
    ((refine KS.out _ ?_; repeat' (first | with_reducible assumption | with_reducible exact Below.refl _ _ | (with_reducible refine Below.drew ?_) | (with_reducible refine Below.setCell ?_ (by (try dsimp only); omega) _) | (with_reducible refine Below.alloc ?_ (by (try simp only [World.size_setCell]); (try simp only [World.size_drew]); (try simp only [World.size_alloc]); (try simp only [World.size_setCell]); (try simp only [World.size_alloc]); omega) _))))
    (first
      | (go_at_call 88; have hPr := HE1.out w.drew (by repeat' (first | with_reducible assumption | with_reducible exact Below.refl _ _ | (with_reducible refine Below.drew ?_) | (with_reducible refine Below.setCell ?_ (by (try dsimp only); omega) _) | (with_reducible refine Below.alloc ?_ (by (try simp only [World.size_setCell]); (try simp only [World.size_drew]); (try simp only [World.size_alloc]); (try simp only [World.size_setCell]); (try simp only [World.size_alloc]); omega) _))); refine dead_few (.map none) hPr (fun w9 hb9 => ⟨rfl, by rw [HV.out]; exact ⟨rfl, below_step (by repeat' (first | with_reducible assumption | with_reducible exact Below.refl _ _ | (with_reducible refine Below.drew ?_) | (with_reducible refine Below.setCell ?_ (by (try dsimp only); omega) _) | (with_reducible refine Below.alloc ?_ (by (try simp only [World.size_setCell]); (try simp only [World.size_drew]); (try simp only [World.size_alloc]); (try simp only [World.size_setCell]); (try simp only [World.size_alloc]); omega) _))) hb9 (Nat.le_refl _)⟩⟩) ?_; intro hF)
      | (go_at_call 88; refine dead_call hF (.map none) ?_)
      | (go_at_call 105; refine dead_call hF (.map none) ?_)
      | (go_at_call 104; refine dead_call hF (.map none) ?_)
      | fail)
  all_goals exact hF.out.elim

set_option maxRecDepth 100000 in
set_option maxHeartbeats 8000000 in
theorem joinWork_2 (D N : Nat) (hD : 1 ≤ D ∧ D ≤ 3) (hN : N ≤ 5) (p pa pb m1 n1 m2 n2 : Nat) (aS : Option Addr) (cS : Nat) (f g : VF) (hf : GoodV (allW D N) f) (hg : GoodV (allW D N) g) (a : VF) (hx : expV f (allW D N) N = some a) (hy : expV g (allW D N) N = none) (w : World) (hp : p < w.heap.size) (hpa : pa < w.heap.size) (hpb : pb < w.heap.size) (s0 : w.cell? ⟨p, 0, none⟩ = some (.int .i64 D)) (s1 : w.cell? ⟨p, 1, none⟩ = some (.int .i64 N)) (s2 : w.cell? ⟨p, 2, none⟩ = some (.slice aS (allW D N).length cS)) (a0 : w.cell? ⟨pa, 0, none⟩ = some (.map (some m1))) (b0 : w.cell? ⟨pb, 0, none⟩ = some (.map (some m2))) (hrs : SRow w aS (allW D N)) (hM1 : MapV w m1 n1 f) (hM2 : MapV w m2 n2 g) :
    Calls Tryz.prog 103 #[.pointer (some ⟨p, 0, none⟩), .pointer (some ⟨pa, 0, none⟩), .pointer (some ⟨pb, 0, none⟩)] w (WorkPost (joinV f g (allW D N) N) w) := by
  have hfew := allW_few (D := D) hD.2 (n := N) hN
  have HWl := Lib.hid (show (allW D N).length ≤ 100000 by omega)
  have HWs := Lib.hid (show ∀ s ∈ allW D N, s.size ≤ 1000 from fun s hs => by have := allW_size D N s hs; omega)
  have HGu := Lib.hid (good_unit D N)
  have HAa := Lib.hid (show ∀ p, aS = some p → p.block < w.heap.size from fun p e => by
    rcases hrs with h | ⟨b, o, e2, h3, _⟩
    · obtain ⟨r, hr, _⟩ := allW_head D N
      rw [hr] at h
      cases h
    · rw [e2] at e
      injection e with e
      rw [← e]
      exact h3)
  have HRS := Lib.hid hrs
  have HM1 := Lib.hid hM1
  have HM2 := Lib.hid hM2
  have hl1 := hM1.lt
  have hl2 := hM2.lt
  have hcnt : (N + 1) * (allW D N).length ≤ 1048576 := Nat.le_trans (Nat.mul_le_mul (show N + 1 ≤ 6 by omega) (show (allW D N).length ≤ 1458 by omega)) (by omega)
  have KS := Lib.hid (show ∀ w', Below w.heap.size w w' → (w'.cell? ⟨p, 0, none⟩ = some (.int .i64 D) ∧ w'.cell? ⟨p, 1, none⟩ = some (.int .i64 N) ∧ w'.cell? ⟨p, 2, none⟩ = some (.slice aS (allW D N).length cS) ∧ w'.cell? ⟨pa, 0, none⟩ = some (.map (some m1)) ∧ w'.cell? ⟨pb, 0, none⟩ = some (.map (some m2))) from fun w' hb => ⟨(hb.cell (p := ⟨p, 0, none⟩) hp).trans s0, (hb.cell (p := ⟨p, 1, none⟩) hp).trans s1, (hb.cell (p := ⟨p, 2, none⟩) hp).trans s2, (hb.cell (p := ⟨pa, 0, none⟩) hpa).trans a0, (hb.cell (p := ⟨pb, 0, none⟩) hpb).trans b0⟩)
  have HE1 := Lib.hid (fun W (hW : Below w.heap.size w W) => exponential_c D N hN aS cS (allW D N) HWl.out HWs.out HGu.out f hf m1 n1 W (HRS.out.below hW (Nat.le_refl _)) (fun q e => Nat.lt_of_lt_of_le (HAa.out q e) hW.size) (HM1.out.below hW hl1))
  have HE2 := Lib.hid (fun W (hW : Below w.heap.size w W) => exponential_c D N hN aS cS (allW D N) HWl.out HWs.out HGu.out g hg m2 n2 W (HRS.out.below hW (Nat.le_refl _)) (fun q e => Nat.lt_of_lt_of_le (HAa.out q e) hW.size) (HM2.out.below hW hl2))
  rw [hx] at HE1
  rw [hy] at HE2
  have HV := Lib.hid (show joinV f g (allW D N) N = none from join_2 hy)
  clear hrs hM1 hM2 s0 s1 s2 a0 b0 hf hg hx hy
  go_enter Tryz.func103, Tryz.ntmps103
  go_upto_region 1 with fail
  go_region_held2 (fun w' => w'.cell? ⟨p, 0, none⟩ = some (.int .i64 D) ∧ w'.cell? ⟨p, 1, none⟩ = some (.int .i64 N) ∧ w'.cell? ⟨p, 2, none⟩ = some (.slice aS (allW D N).length cS) ∧ w'.cell? ⟨pa, 0, none⟩ = some (.map (some m1)) ∧ w'.cell? ⟨pb, 0, none⟩ = some (.map (some m2)))
    ((refine KS.out _ ?_; repeat' (first | with_reducible assumption | with_reducible exact Below.refl _ _ | (with_reducible refine Below.drew ?_) | (with_reducible refine Below.setCell ?_ (by (try dsimp only); omega) _) | (with_reducible refine Below.alloc ?_ (by (try simp only [World.size_setCell]); (try simp only [World.size_drew]); (try simp only [World.size_alloc]); (try simp only [World.size_setCell]); (try simp only [World.size_alloc]); omega) _))))
    (first
      | (go_at_call 88; (with_reducible refine (HE1.out _ ?_).mono ?_); (focus repeat' (first | with_reducible assumption | with_reducible exact Below.refl _ _ | (with_reducible refine Below.drew ?_) | (with_reducible refine Below.setCell ?_ (by (try dsimp only); omega) _) | (with_reducible refine Below.alloc ?_ (by (try simp only [World.size_setCell]); (try simp only [World.size_drew]); (try simp only [World.size_alloc]); (try simp only [World.size_setCell]); (try simp only [World.size_alloc]); omega) _))); rintro e w1 ⟨q1, k1, rfl, hq1, hb0, hk1, hQ1⟩; have hb1 : Below w.heap.size w w1 := below_step (by repeat' (first | with_reducible assumption | with_reducible exact Below.refl _ _ | (with_reducible refine Below.drew ?_) | (with_reducible refine Below.setCell ?_ (by (try dsimp only); omega) _) | (with_reducible refine Below.alloc ?_ (by (try simp only [World.size_setCell]); (try simp only [World.size_drew]); (try simp only [World.size_alloc]); (try simp only [World.size_setCell]); (try simp only [World.size_alloc]); omega) _))) hb0 (Nat.le_refl _); have hz1 := hb1.size)
      | (go_at_call 88; have hPr := HE2.out w1 (by repeat' (first | with_reducible assumption | with_reducible exact Below.refl _ _ | (with_reducible refine Below.drew ?_) | (with_reducible refine Below.setCell ?_ (by (try dsimp only); omega) _) | (with_reducible refine Below.alloc ?_ (by (try simp only [World.size_setCell]); (try simp only [World.size_drew]); (try simp only [World.size_alloc]); (try simp only [World.size_setCell]); (try simp only [World.size_alloc]); omega) _))); refine dead_few (.map none) hPr (fun w9 hb9 => ⟨rfl, by rw [HV.out]; exact ⟨rfl, below_step (by repeat' (first | with_reducible assumption | with_reducible exact Below.refl _ _ | (with_reducible refine Below.drew ?_) | (with_reducible refine Below.setCell ?_ (by (try dsimp only); omega) _) | (with_reducible refine Below.alloc ?_ (by (try simp only [World.size_setCell]); (try simp only [World.size_drew]); (try simp only [World.size_alloc]); (try simp only [World.size_setCell]); (try simp only [World.size_alloc]); omega) _))) hb9 (Nat.le_refl _)⟩⟩) ?_; intro hF)
      | (go_at_call 105; refine dead_call hF (.map none) ?_)
      | (go_at_call 104; refine dead_call hF (.map none) ?_)
      | fail)
  all_goals exact hF.out.elim

set_option maxRecDepth 100000 in
set_option maxHeartbeats 8000000 in
theorem joinWork_3 (D N : Nat) (hD : 1 ≤ D ∧ D ≤ 3) (hN : N ≤ 5) (p pa pb m1 n1 m2 n2 : Nat) (aS : Option Addr) (cS : Nat) (f g : VF) (hf : GoodV (allW D N) f) (hg : GoodV (allW D N) g) (a b : VF) (hx : expV f (allW D N) N = some a) (hy : expV g (allW D N) N = some b) (hz : prodV a b (allW D N) = none) (w : World) (hp : p < w.heap.size) (hpa : pa < w.heap.size) (hpb : pb < w.heap.size) (s0 : w.cell? ⟨p, 0, none⟩ = some (.int .i64 D)) (s1 : w.cell? ⟨p, 1, none⟩ = some (.int .i64 N)) (s2 : w.cell? ⟨p, 2, none⟩ = some (.slice aS (allW D N).length cS)) (a0 : w.cell? ⟨pa, 0, none⟩ = some (.map (some m1))) (b0 : w.cell? ⟨pb, 0, none⟩ = some (.map (some m2))) (hrs : SRow w aS (allW D N)) (hM1 : MapV w m1 n1 f) (hM2 : MapV w m2 n2 g) :
    Calls Tryz.prog 103 #[.pointer (some ⟨p, 0, none⟩), .pointer (some ⟨pa, 0, none⟩), .pointer (some ⟨pb, 0, none⟩)] w (WorkPost (joinV f g (allW D N) N) w) := by
  have hfew := allW_few (D := D) hD.2 (n := N) hN
  have HWl := Lib.hid (show (allW D N).length ≤ 100000 by omega)
  have HWs := Lib.hid (show ∀ s ∈ allW D N, s.size ≤ 1000 from fun s hs => by have := allW_size D N s hs; omega)
  have HGu := Lib.hid (good_unit D N)
  have HAa := Lib.hid (show ∀ p, aS = some p → p.block < w.heap.size from fun p e => by
    rcases hrs with h | ⟨b, o, e2, h3, _⟩
    · obtain ⟨r, hr, _⟩ := allW_head D N
      rw [hr] at h
      cases h
    · rw [e2] at e
      injection e with e
      rw [← e]
      exact h3)
  have HRS := Lib.hid hrs
  have HM1 := Lib.hid hM1
  have HM2 := Lib.hid hM2
  have hl1 := hM1.lt
  have hl2 := hM2.lt
  have hcnt : (N + 1) * (allW D N).length ≤ 1048576 := Nat.le_trans (Nat.mul_le_mul (show N + 1 ≤ 6 by omega) (show (allW D N).length ≤ 1458 by omega)) (by omega)
  have KS := Lib.hid (show ∀ w', Below w.heap.size w w' → (w'.cell? ⟨p, 0, none⟩ = some (.int .i64 D) ∧ w'.cell? ⟨p, 1, none⟩ = some (.int .i64 N) ∧ w'.cell? ⟨p, 2, none⟩ = some (.slice aS (allW D N).length cS) ∧ w'.cell? ⟨pa, 0, none⟩ = some (.map (some m1)) ∧ w'.cell? ⟨pb, 0, none⟩ = some (.map (some m2))) from fun w' hb => ⟨(hb.cell (p := ⟨p, 0, none⟩) hp).trans s0, (hb.cell (p := ⟨p, 1, none⟩) hp).trans s1, (hb.cell (p := ⟨p, 2, none⟩) hp).trans s2, (hb.cell (p := ⟨pa, 0, none⟩) hpa).trans a0, (hb.cell (p := ⟨pb, 0, none⟩) hpb).trans b0⟩)
  have HE1 := Lib.hid (fun W (hW : Below w.heap.size w W) => exponential_c D N hN aS cS (allW D N) HWl.out HWs.out HGu.out f hf m1 n1 W (HRS.out.below hW (Nat.le_refl _)) (fun q e => Nat.lt_of_lt_of_le (HAa.out q e) hW.size) (HM1.out.below hW hl1))
  have HE2 := Lib.hid (fun W (hW : Below w.heap.size w W) => exponential_c D N hN aS cS (allW D N) HWl.out HWs.out HGu.out g hg m2 n2 W (HRS.out.below hW (Nat.le_refl _)) (fun q e => Nat.lt_of_lt_of_le (HAa.out q e) hW.size) (HM2.out.below hW hl2))
  have HPr := Lib.hid (fun q1 k1 q2 k2 W (hW : Below w.heap.size w W) h1 h2 => productFew_c D N aS cS (allW D N) (by omega) HWs.out a b (fun s r e => (expV_good hx s r e).2.1) (fun s r e => (expV_good hy s r e).2.1) q1 k1 q2 k2 W (HRS.out.below hW (Nat.le_refl _)) h1 h2)
  rw [hx] at HE1
  rw [hy] at HE2
  rw [hz] at HPr
  have HV := Lib.hid (show joinV f g (allW D N) N = none from join_3 hx hy hz)
  clear hrs hM1 hM2 s0 s1 s2 a0 b0 hf hg hx hy hz
  go_enter Tryz.func103, Tryz.ntmps103
  go_upto_region 1 with fail
  go_region_held2 (fun w' => w'.cell? ⟨p, 0, none⟩ = some (.int .i64 D) ∧ w'.cell? ⟨p, 1, none⟩ = some (.int .i64 N) ∧ w'.cell? ⟨p, 2, none⟩ = some (.slice aS (allW D N).length cS) ∧ w'.cell? ⟨pa, 0, none⟩ = some (.map (some m1)) ∧ w'.cell? ⟨pb, 0, none⟩ = some (.map (some m2)))
    ((refine KS.out _ ?_; repeat' (first | with_reducible assumption | with_reducible exact Below.refl _ _ | (with_reducible refine Below.drew ?_) | (with_reducible refine Below.setCell ?_ (by (try dsimp only); omega) _) | (with_reducible refine Below.alloc ?_ (by (try simp only [World.size_setCell]); (try simp only [World.size_drew]); (try simp only [World.size_alloc]); (try simp only [World.size_setCell]); (try simp only [World.size_alloc]); omega) _))))
    (first
      | (go_at_call 88; (with_reducible refine (HE1.out _ ?_).mono ?_); (focus repeat' (first | with_reducible assumption | with_reducible exact Below.refl _ _ | (with_reducible refine Below.drew ?_) | (with_reducible refine Below.setCell ?_ (by (try dsimp only); omega) _) | (with_reducible refine Below.alloc ?_ (by (try simp only [World.size_setCell]); (try simp only [World.size_drew]); (try simp only [World.size_alloc]); (try simp only [World.size_setCell]); (try simp only [World.size_alloc]); omega) _))); rintro e w1 ⟨q1, k1, rfl, hq1, hb0, hk1, hQ1⟩; have hb1 : Below w.heap.size w w1 := below_step (by repeat' (first | with_reducible assumption | with_reducible exact Below.refl _ _ | (with_reducible refine Below.drew ?_) | (with_reducible refine Below.setCell ?_ (by (try dsimp only); omega) _) | (with_reducible refine Below.alloc ?_ (by (try simp only [World.size_setCell]); (try simp only [World.size_drew]); (try simp only [World.size_alloc]); (try simp only [World.size_setCell]); (try simp only [World.size_alloc]); omega) _))) hb0 (Nat.le_refl _); have hz1 := hb1.size)
      | (go_at_call 88; (with_reducible refine (HE2.out _ ?_).mono ?_); (focus repeat' (first | with_reducible assumption | with_reducible exact Below.refl _ _ | (with_reducible refine Below.drew ?_) | (with_reducible refine Below.setCell ?_ (by (try dsimp only); omega) _) | (with_reducible refine Below.alloc ?_ (by (try simp only [World.size_setCell]); (try simp only [World.size_drew]); (try simp only [World.size_alloc]); (try simp only [World.size_setCell]); (try simp only [World.size_alloc]); omega) _))); rintro e w2 ⟨q2, k2, rfl, hq2, hb0, hk2, hQ2⟩; have hb2 : Below w.heap.size w w2 := below_step (by repeat' (first | with_reducible assumption | with_reducible exact Below.refl _ _ | (with_reducible refine Below.drew ?_) | (with_reducible refine Below.setCell ?_ (by (try dsimp only); omega) _) | (with_reducible refine Below.alloc ?_ (by (try simp only [World.size_setCell]); (try simp only [World.size_drew]); (try simp only [World.size_alloc]); (try simp only [World.size_setCell]); (try simp only [World.size_alloc]); omega) _))) hb0 (Nat.le_refl _); have hz2 := hb2.size; have hQ1 := hQ1.below hb0 hQ1.lt)
      | (go_at_call 105; have hPr := HPr.out q1 k1 q2 k2 w2 (by repeat' (first | with_reducible assumption | with_reducible exact Below.refl _ _ | (with_reducible refine Below.drew ?_) | (with_reducible refine Below.setCell ?_ (by (try dsimp only); omega) _) | (with_reducible refine Below.alloc ?_ (by (try simp only [World.size_setCell]); (try simp only [World.size_drew]); (try simp only [World.size_alloc]); (try simp only [World.size_setCell]); (try simp only [World.size_alloc]); omega) _))) hQ1 hQ2; refine dead_few (.map none) hPr (fun w9 hb9 => ⟨rfl, by rw [HV.out]; exact ⟨rfl, below_step (by repeat' (first | with_reducible assumption | with_reducible exact Below.refl _ _ | (with_reducible refine Below.drew ?_) | (with_reducible refine Below.setCell ?_ (by (try dsimp only); omega) _) | (with_reducible refine Below.alloc ?_ (by (try simp only [World.size_setCell]); (try simp only [World.size_drew]); (try simp only [World.size_alloc]); (try simp only [World.size_setCell]); (try simp only [World.size_alloc]); omega) _))) hb9 (Nat.le_refl _)⟩⟩) ?_; intro hF)
      | (go_at_call 104; refine dead_call hF (.map none) ?_)
      | fail)
  all_goals exact hF.out.elim

set_option maxRecDepth 100000 in
set_option maxHeartbeats 8000000 in
theorem joinWork_4 (D N : Nat) (hD : 1 ≤ D ∧ D ≤ 3) (hN : N ≤ 5) (p pa pb m1 n1 m2 n2 : Nat) (aS : Option Addr) (cS : Nat) (f g : VF) (hf : GoodV (allW D N) f) (hg : GoodV (allW D N) g) (a b z : VF) (hx : expV f (allW D N) N = some a) (hy : expV g (allW D N) N = some b) (hz : prodV a b (allW D N) = some z) (hl : logV z (allW D N) N = none) (w : World) (hp : p < w.heap.size) (hpa : pa < w.heap.size) (hpb : pb < w.heap.size) (s0 : w.cell? ⟨p, 0, none⟩ = some (.int .i64 D)) (s1 : w.cell? ⟨p, 1, none⟩ = some (.int .i64 N)) (s2 : w.cell? ⟨p, 2, none⟩ = some (.slice aS (allW D N).length cS)) (a0 : w.cell? ⟨pa, 0, none⟩ = some (.map (some m1))) (b0 : w.cell? ⟨pb, 0, none⟩ = some (.map (some m2))) (hrs : SRow w aS (allW D N)) (hM1 : MapV w m1 n1 f) (hM2 : MapV w m2 n2 g) :
    Calls Tryz.prog 103 #[.pointer (some ⟨p, 0, none⟩), .pointer (some ⟨pa, 0, none⟩), .pointer (some ⟨pb, 0, none⟩)] w (WorkPost (joinV f g (allW D N) N) w) := by
  have hfew := allW_few (D := D) hD.2 (n := N) hN
  have HWl := Lib.hid (show (allW D N).length ≤ 100000 by omega)
  have HWs := Lib.hid (show ∀ s ∈ allW D N, s.size ≤ 1000 from fun s hs => by have := allW_size D N s hs; omega)
  have HGu := Lib.hid (good_unit D N)
  have HAa := Lib.hid (show ∀ p, aS = some p → p.block < w.heap.size from fun p e => by
    rcases hrs with h | ⟨b, o, e2, h3, _⟩
    · obtain ⟨r, hr, _⟩ := allW_head D N
      rw [hr] at h
      cases h
    · rw [e2] at e
      injection e with e
      rw [← e]
      exact h3)
  have HRS := Lib.hid hrs
  have HM1 := Lib.hid hM1
  have HM2 := Lib.hid hM2
  have hl1 := hM1.lt
  have hl2 := hM2.lt
  have hcnt : (N + 1) * (allW D N).length ≤ 1048576 := Nat.le_trans (Nat.mul_le_mul (show N + 1 ≤ 6 by omega) (show (allW D N).length ≤ 1458 by omega)) (by omega)
  have KS := Lib.hid (show ∀ w', Below w.heap.size w w' → (w'.cell? ⟨p, 0, none⟩ = some (.int .i64 D) ∧ w'.cell? ⟨p, 1, none⟩ = some (.int .i64 N) ∧ w'.cell? ⟨p, 2, none⟩ = some (.slice aS (allW D N).length cS) ∧ w'.cell? ⟨pa, 0, none⟩ = some (.map (some m1)) ∧ w'.cell? ⟨pb, 0, none⟩ = some (.map (some m2))) from fun w' hb => ⟨(hb.cell (p := ⟨p, 0, none⟩) hp).trans s0, (hb.cell (p := ⟨p, 1, none⟩) hp).trans s1, (hb.cell (p := ⟨p, 2, none⟩) hp).trans s2, (hb.cell (p := ⟨pa, 0, none⟩) hpa).trans a0, (hb.cell (p := ⟨pb, 0, none⟩) hpb).trans b0⟩)
  have HE1 := Lib.hid (fun W (hW : Below w.heap.size w W) => exponential_c D N hN aS cS (allW D N) HWl.out HWs.out HGu.out f hf m1 n1 W (HRS.out.below hW (Nat.le_refl _)) (fun q e => Nat.lt_of_lt_of_le (HAa.out q e) hW.size) (HM1.out.below hW hl1))
  have HE2 := Lib.hid (fun W (hW : Below w.heap.size w W) => exponential_c D N hN aS cS (allW D N) HWl.out HWs.out HGu.out g hg m2 n2 W (HRS.out.below hW (Nat.le_refl _)) (fun q e => Nat.lt_of_lt_of_le (HAa.out q e) hW.size) (HM2.out.below hW hl2))
  have HPr := Lib.hid (fun q1 k1 q2 k2 W (hW : Below w.heap.size w W) h1 h2 => productFew_c D N aS cS (allW D N) (by omega) HWs.out a b (fun s r e => (expV_good hx s r e).2.1) (fun s r e => (expV_good hy s r e).2.1) q1 k1 q2 k2 W (HRS.out.below hW (Nat.le_refl _)) h1 h2)
  have HLo := Lib.hid (fun q3 k3 W (hW : Below w.heap.size w W) h1 => logarithm_c D N hN aS cS (allW D N) HWl.out HWs.out HGu.out z (GoodV.prodV hz) q3 k3 W (HRS.out.below hW (Nat.le_refl _)) (fun q e => Nat.lt_of_lt_of_le (HAa.out q e) hW.size) h1)
  rw [hx] at HE1
  rw [hy] at HE2
  rw [hz] at HPr
  rw [hl] at HLo
  have HV := Lib.hid (show joinV f g (allW D N) N = none from (join_4 hx hy hz).trans hl)
  clear hrs hM1 hM2 s0 s1 s2 a0 b0 hf hg hx hy hz hl
  go_enter Tryz.func103, Tryz.ntmps103
  go_upto_region 1 with fail
  go_region_held2 (fun w' => w'.cell? ⟨p, 0, none⟩ = some (.int .i64 D) ∧ w'.cell? ⟨p, 1, none⟩ = some (.int .i64 N) ∧ w'.cell? ⟨p, 2, none⟩ = some (.slice aS (allW D N).length cS) ∧ w'.cell? ⟨pa, 0, none⟩ = some (.map (some m1)) ∧ w'.cell? ⟨pb, 0, none⟩ = some (.map (some m2)))
    ((refine KS.out _ ?_; repeat' (first | with_reducible assumption | with_reducible exact Below.refl _ _ | (with_reducible refine Below.drew ?_) | (with_reducible refine Below.setCell ?_ (by (try dsimp only); omega) _) | (with_reducible refine Below.alloc ?_ (by (try simp only [World.size_setCell]); (try simp only [World.size_drew]); (try simp only [World.size_alloc]); (try simp only [World.size_setCell]); (try simp only [World.size_alloc]); omega) _))))
    (first
      | (go_at_call 88; (with_reducible refine (HE1.out _ ?_).mono ?_); (focus repeat' (first | with_reducible assumption | with_reducible exact Below.refl _ _ | (with_reducible refine Below.drew ?_) | (with_reducible refine Below.setCell ?_ (by (try dsimp only); omega) _) | (with_reducible refine Below.alloc ?_ (by (try simp only [World.size_setCell]); (try simp only [World.size_drew]); (try simp only [World.size_alloc]); (try simp only [World.size_setCell]); (try simp only [World.size_alloc]); omega) _))); rintro e w1 ⟨q1, k1, rfl, hq1, hb0, hk1, hQ1⟩; have hb1 : Below w.heap.size w w1 := below_step (by repeat' (first | with_reducible assumption | with_reducible exact Below.refl _ _ | (with_reducible refine Below.drew ?_) | (with_reducible refine Below.setCell ?_ (by (try dsimp only); omega) _) | (with_reducible refine Below.alloc ?_ (by (try simp only [World.size_setCell]); (try simp only [World.size_drew]); (try simp only [World.size_alloc]); (try simp only [World.size_setCell]); (try simp only [World.size_alloc]); omega) _))) hb0 (Nat.le_refl _); have hz1 := hb1.size)
      | (go_at_call 88; (with_reducible refine (HE2.out _ ?_).mono ?_); (focus repeat' (first | with_reducible assumption | with_reducible exact Below.refl _ _ | (with_reducible refine Below.drew ?_) | (with_reducible refine Below.setCell ?_ (by (try dsimp only); omega) _) | (with_reducible refine Below.alloc ?_ (by (try simp only [World.size_setCell]); (try simp only [World.size_drew]); (try simp only [World.size_alloc]); (try simp only [World.size_setCell]); (try simp only [World.size_alloc]); omega) _))); rintro e w2 ⟨q2, k2, rfl, hq2, hb0, hk2, hQ2⟩; have hb2 : Below w.heap.size w w2 := below_step (by repeat' (first | with_reducible assumption | with_reducible exact Below.refl _ _ | (with_reducible refine Below.drew ?_) | (with_reducible refine Below.setCell ?_ (by (try dsimp only); omega) _) | (with_reducible refine Below.alloc ?_ (by (try simp only [World.size_setCell]); (try simp only [World.size_drew]); (try simp only [World.size_alloc]); (try simp only [World.size_setCell]); (try simp only [World.size_alloc]); omega) _))) hb0 (Nat.le_refl _); have hz2 := hb2.size; have hQ1 := hQ1.below hb0 hQ1.lt)
      | (go_at_call 105; (with_reducible refine (HPr.out q1 k1 q2 k2 _ ?_ ?_ ?_).mono ?_); (focus repeat' (first | with_reducible assumption | with_reducible exact Below.refl _ _ | (with_reducible refine Below.drew ?_) | (with_reducible refine Below.setCell ?_ (by (try dsimp only); omega) _) | (with_reducible refine Below.alloc ?_ (by (try simp only [World.size_setCell]); (try simp only [World.size_drew]); (try simp only [World.size_alloc]); (try simp only [World.size_setCell]); (try simp only [World.size_alloc]); omega) _))); (focus with_reducible assumption); (focus with_reducible assumption); rintro e w3 ⟨q3, k3, rfl, hq3, hb0, hk3, hQ3⟩; have hb3 : Below w.heap.size w w3 := below_step (by repeat' (first | with_reducible assumption | with_reducible exact Below.refl _ _ | (with_reducible refine Below.drew ?_) | (with_reducible refine Below.setCell ?_ (by (try dsimp only); omega) _) | (with_reducible refine Below.alloc ?_ (by (try simp only [World.size_setCell]); (try simp only [World.size_drew]); (try simp only [World.size_alloc]); (try simp only [World.size_setCell]); (try simp only [World.size_alloc]); omega) _))) hb0 (Nat.le_refl _); have hz3 := hb3.size; have hQ1 := hQ1.below hb0 hQ1.lt; have hQ2 := hQ2.below hb0 hQ2.lt)
      | (go_at_call 104; have hPr := HLo.out q3 k3 w3 (by repeat' (first | with_reducible assumption | with_reducible exact Below.refl _ _ | (with_reducible refine Below.drew ?_) | (with_reducible refine Below.setCell ?_ (by (try dsimp only); omega) _) | (with_reducible refine Below.alloc ?_ (by (try simp only [World.size_setCell]); (try simp only [World.size_drew]); (try simp only [World.size_alloc]); (try simp only [World.size_setCell]); (try simp only [World.size_alloc]); omega) _))) hQ3; refine dead_few (.map none) hPr (fun w9 hb9 => ⟨rfl, by rw [HV.out]; exact ⟨rfl, below_step (by repeat' (first | with_reducible assumption | with_reducible exact Below.refl _ _ | (with_reducible refine Below.drew ?_) | (with_reducible refine Below.setCell ?_ (by (try dsimp only); omega) _) | (with_reducible refine Below.alloc ?_ (by (try simp only [World.size_setCell]); (try simp only [World.size_drew]); (try simp only [World.size_alloc]); (try simp only [World.size_setCell]); (try simp only [World.size_alloc]); omega) _))) hb9 (Nat.le_refl _)⟩⟩) ?_; intro hF)
      | fail)
  all_goals exact hF.out.elim

set_option maxRecDepth 100000 in
set_option maxHeartbeats 8000000 in
theorem joinWork_5 (D N : Nat) (hD : 1 ≤ D ∧ D ≤ 3) (hN : N ≤ 5) (p pa pb m1 n1 m2 n2 : Nat) (aS : Option Addr) (cS : Nat) (f g : VF) (hf : GoodV (allW D N) f) (hg : GoodV (allW D N) g) (a b z h : VF) (hx : expV f (allW D N) N = some a) (hy : expV g (allW D N) N = some b) (hz : prodV a b (allW D N) = some z) (hl : logV z (allW D N) N = some h) (w : World) (hp : p < w.heap.size) (hpa : pa < w.heap.size) (hpb : pb < w.heap.size) (s0 : w.cell? ⟨p, 0, none⟩ = some (.int .i64 D)) (s1 : w.cell? ⟨p, 1, none⟩ = some (.int .i64 N)) (s2 : w.cell? ⟨p, 2, none⟩ = some (.slice aS (allW D N).length cS)) (a0 : w.cell? ⟨pa, 0, none⟩ = some (.map (some m1))) (b0 : w.cell? ⟨pb, 0, none⟩ = some (.map (some m2))) (hrs : SRow w aS (allW D N)) (hM1 : MapV w m1 n1 f) (hM2 : MapV w m2 n2 g) :
    Calls Tryz.prog 103 #[.pointer (some ⟨p, 0, none⟩), .pointer (some ⟨pa, 0, none⟩), .pointer (some ⟨pb, 0, none⟩)] w (WorkPost (joinV f g (allW D N) N) w) := by
  have hfew := allW_few (D := D) hD.2 (n := N) hN
  have HWl := Lib.hid (show (allW D N).length ≤ 100000 by omega)
  have HWs := Lib.hid (show ∀ s ∈ allW D N, s.size ≤ 1000 from fun s hs => by have := allW_size D N s hs; omega)
  have HGu := Lib.hid (good_unit D N)
  have HAa := Lib.hid (show ∀ p, aS = some p → p.block < w.heap.size from fun p e => by
    rcases hrs with h | ⟨b, o, e2, h3, _⟩
    · obtain ⟨r, hr, _⟩ := allW_head D N
      rw [hr] at h
      cases h
    · rw [e2] at e
      injection e with e
      rw [← e]
      exact h3)
  have HRS := Lib.hid hrs
  have HM1 := Lib.hid hM1
  have HM2 := Lib.hid hM2
  have hl1 := hM1.lt
  have hl2 := hM2.lt
  have hcnt : (N + 1) * (allW D N).length ≤ 1048576 := Nat.le_trans (Nat.mul_le_mul (show N + 1 ≤ 6 by omega) (show (allW D N).length ≤ 1458 by omega)) (by omega)
  have KS := Lib.hid (show ∀ w', Below w.heap.size w w' → (w'.cell? ⟨p, 0, none⟩ = some (.int .i64 D) ∧ w'.cell? ⟨p, 1, none⟩ = some (.int .i64 N) ∧ w'.cell? ⟨p, 2, none⟩ = some (.slice aS (allW D N).length cS) ∧ w'.cell? ⟨pa, 0, none⟩ = some (.map (some m1)) ∧ w'.cell? ⟨pb, 0, none⟩ = some (.map (some m2))) from fun w' hb => ⟨(hb.cell (p := ⟨p, 0, none⟩) hp).trans s0, (hb.cell (p := ⟨p, 1, none⟩) hp).trans s1, (hb.cell (p := ⟨p, 2, none⟩) hp).trans s2, (hb.cell (p := ⟨pa, 0, none⟩) hpa).trans a0, (hb.cell (p := ⟨pb, 0, none⟩) hpb).trans b0⟩)
  have HE1 := Lib.hid (fun W (hW : Below w.heap.size w W) => exponential_c D N hN aS cS (allW D N) HWl.out HWs.out HGu.out f hf m1 n1 W (HRS.out.below hW (Nat.le_refl _)) (fun q e => Nat.lt_of_lt_of_le (HAa.out q e) hW.size) (HM1.out.below hW hl1))
  have HE2 := Lib.hid (fun W (hW : Below w.heap.size w W) => exponential_c D N hN aS cS (allW D N) HWl.out HWs.out HGu.out g hg m2 n2 W (HRS.out.below hW (Nat.le_refl _)) (fun q e => Nat.lt_of_lt_of_le (HAa.out q e) hW.size) (HM2.out.below hW hl2))
  have HPr := Lib.hid (fun q1 k1 q2 k2 W (hW : Below w.heap.size w W) h1 h2 => productFew_c D N aS cS (allW D N) (by omega) HWs.out a b (fun s r e => (expV_good hx s r e).2.1) (fun s r e => (expV_good hy s r e).2.1) q1 k1 q2 k2 W (HRS.out.below hW (Nat.le_refl _)) h1 h2)
  have HLo := Lib.hid (fun q3 k3 W (hW : Below w.heap.size w W) h1 => logarithm_c D N hN aS cS (allW D N) HWl.out HWs.out HGu.out z (GoodV.prodV hz) q3 k3 W (HRS.out.below hW (Nat.le_refl _)) (fun q e => Nat.lt_of_lt_of_le (HAa.out q e) hW.size) h1)
  rw [hx] at HE1
  rw [hy] at HE2
  rw [hz] at HPr
  rw [hl] at HLo
  have HV := Lib.hid (show joinV f g (allW D N) N = some h from (join_4 hx hy hz).trans hl)
  clear hrs hM1 hM2 s0 s1 s2 a0 b0 hf hg hx hy hz hl
  go_enter Tryz.func103, Tryz.ntmps103
  go_upto_region 1 with fail
  go_region_held3 (fun w' => w'.cell? ⟨p, 0, none⟩ = some (.int .i64 D) ∧ w'.cell? ⟨p, 1, none⟩ = some (.int .i64 N) ∧ w'.cell? ⟨p, 2, none⟩ = some (.slice aS (allW D N).length cS) ∧ w'.cell? ⟨pa, 0, none⟩ = some (.map (some m1)) ∧ w'.cell? ⟨pb, 0, none⟩ = some (.map (some m2)))
    ((refine KS.out _ ?_; repeat' (first | with_reducible assumption | with_reducible exact Below.refl _ _ | (with_reducible refine Below.drew ?_) | (with_reducible refine Below.setCell ?_ (by (try dsimp only); omega) _) | (with_reducible refine Below.alloc ?_ (by (try simp only [World.size_setCell]); (try simp only [World.size_drew]); (try simp only [World.size_alloc]); (try simp only [World.size_setCell]); (try simp only [World.size_alloc]); omega) _))))
    (first
      | (go_at_call 88; (with_reducible refine (HE1.out _ ?_).mono ?_); (focus repeat' (first | with_reducible assumption | with_reducible exact Below.refl _ _ | (with_reducible refine Below.drew ?_) | (with_reducible refine Below.setCell ?_ (by (try dsimp only); omega) _) | (with_reducible refine Below.alloc ?_ (by (try simp only [World.size_setCell]); (try simp only [World.size_drew]); (try simp only [World.size_alloc]); (try simp only [World.size_setCell]); (try simp only [World.size_alloc]); omega) _))); rintro e w1 ⟨q1, k1, rfl, hq1, hb0, hk1, hQ1⟩; have hb1 : Below w.heap.size w w1 := below_step (by repeat' (first | with_reducible assumption | with_reducible exact Below.refl _ _ | (with_reducible refine Below.drew ?_) | (with_reducible refine Below.setCell ?_ (by (try dsimp only); omega) _) | (with_reducible refine Below.alloc ?_ (by (try simp only [World.size_setCell]); (try simp only [World.size_drew]); (try simp only [World.size_alloc]); (try simp only [World.size_setCell]); (try simp only [World.size_alloc]); omega) _))) hb0 (Nat.le_refl _); have hz1 := hb1.size)
      | (go_at_call 88; (with_reducible refine (HE2.out _ ?_).mono ?_); (focus repeat' (first | with_reducible assumption | with_reducible exact Below.refl _ _ | (with_reducible refine Below.drew ?_) | (with_reducible refine Below.setCell ?_ (by (try dsimp only); omega) _) | (with_reducible refine Below.alloc ?_ (by (try simp only [World.size_setCell]); (try simp only [World.size_drew]); (try simp only [World.size_alloc]); (try simp only [World.size_setCell]); (try simp only [World.size_alloc]); omega) _))); rintro e w2 ⟨q2, k2, rfl, hq2, hb0, hk2, hQ2⟩; have hb2 : Below w.heap.size w w2 := below_step (by repeat' (first | with_reducible assumption | with_reducible exact Below.refl _ _ | (with_reducible refine Below.drew ?_) | (with_reducible refine Below.setCell ?_ (by (try dsimp only); omega) _) | (with_reducible refine Below.alloc ?_ (by (try simp only [World.size_setCell]); (try simp only [World.size_drew]); (try simp only [World.size_alloc]); (try simp only [World.size_setCell]); (try simp only [World.size_alloc]); omega) _))) hb0 (Nat.le_refl _); have hz2 := hb2.size; have hQ1 := hQ1.below hb0 hQ1.lt)
      | (go_at_call 105; (with_reducible refine (HPr.out q1 k1 q2 k2 _ ?_ ?_ ?_).mono ?_); (focus repeat' (first | with_reducible assumption | with_reducible exact Below.refl _ _ | (with_reducible refine Below.drew ?_) | (with_reducible refine Below.setCell ?_ (by (try dsimp only); omega) _) | (with_reducible refine Below.alloc ?_ (by (try simp only [World.size_setCell]); (try simp only [World.size_drew]); (try simp only [World.size_alloc]); (try simp only [World.size_setCell]); (try simp only [World.size_alloc]); omega) _))); (focus with_reducible assumption); (focus with_reducible assumption); rintro e w3 ⟨q3, k3, rfl, hq3, hb0, hk3, hQ3⟩; have hb3 : Below w.heap.size w w3 := below_step (by repeat' (first | with_reducible assumption | with_reducible exact Below.refl _ _ | (with_reducible refine Below.drew ?_) | (with_reducible refine Below.setCell ?_ (by (try dsimp only); omega) _) | (with_reducible refine Below.alloc ?_ (by (try simp only [World.size_setCell]); (try simp only [World.size_drew]); (try simp only [World.size_alloc]); (try simp only [World.size_setCell]); (try simp only [World.size_alloc]); omega) _))) hb0 (Nat.le_refl _); have hz3 := hb3.size; have hQ1 := hQ1.below hb0 hQ1.lt; have hQ2 := hQ2.below hb0 hQ2.lt)
      | (go_at_call 104; (with_reducible refine (HLo.out q3 k3 _ ?_ ?_).mono ?_); (focus repeat' (first | with_reducible assumption | with_reducible exact Below.refl _ _ | (with_reducible refine Below.drew ?_) | (with_reducible refine Below.setCell ?_ (by (try dsimp only); omega) _) | (with_reducible refine Below.alloc ?_ (by (try simp only [World.size_setCell]); (try simp only [World.size_drew]); (try simp only [World.size_alloc]); (try simp only [World.size_setCell]); (try simp only [World.size_alloc]); omega) _))); (focus with_reducible assumption); rintro e w4 ⟨q4, k4, rfl, hq4, hb0, hk4, hQ4⟩; have hb4 : Below w.heap.size w w4 := below_step (by repeat' (first | with_reducible assumption | with_reducible exact Below.refl _ _ | (with_reducible refine Below.drew ?_) | (with_reducible refine Below.setCell ?_ (by (try dsimp only); omega) _) | (with_reducible refine Below.alloc ?_ (by (try simp only [World.size_setCell]); (try simp only [World.size_drew]); (try simp only [World.size_alloc]); (try simp only [World.size_setCell]); (try simp only [World.size_alloc]); omega) _))) hb0 (Nat.le_refl _); have hz4 := hb4.size; have hQ1 := hQ1.below hb0 hQ1.lt; have hQ2 := hQ2.below hb0 hQ2.lt; have hQ3 := hQ3.below hb0 hQ3.lt)
      | fail)
  all_goals
    have HQ4 := Lib.hid hQ4
    have HB4 := Lib.hid hb4
    clear hQ1 hQ2 hQ3 hQ4 hb1 hb2 hb3 hb4
    go_wp2
    rw [HV.out]
    go_ret
    exact ⟨q4, k4, rfl, by omega, HB4.out, by omega, HQ4.out⟩

theorem joinWork (D N : Nat) (hD : 1 ≤ D ∧ D ≤ 3) (hN : N ≤ 5) (p pa pb m1 n1 m2 n2 : Nat) (aS : Option Addr) (cS : Nat) (f g : VF) (hf : GoodV (allW D N) f) (hg : GoodV (allW D N) g) (w : World) (hp : p < w.heap.size) (hpa : pa < w.heap.size) (hpb : pb < w.heap.size) (s0 : w.cell? ⟨p, 0, none⟩ = some (.int .i64 D)) (s1 : w.cell? ⟨p, 1, none⟩ = some (.int .i64 N)) (s2 : w.cell? ⟨p, 2, none⟩ = some (.slice aS (allW D N).length cS)) (a0 : w.cell? ⟨pa, 0, none⟩ = some (.map (some m1))) (b0 : w.cell? ⟨pb, 0, none⟩ = some (.map (some m2))) (hrs : SRow w aS (allW D N)) (hM1 : MapV w m1 n1 f) (hM2 : MapV w m2 n2 g) :
    Calls Tryz.prog 103 #[.pointer (some ⟨p, 0, none⟩), .pointer (some ⟨pa, 0, none⟩), .pointer (some ⟨pb, 0, none⟩)] w (WorkPost (joinV f g (allW D N) N) w) := by
  cases hx : expV f (allW D N) N with
  | none => exact joinWork_1 D N hD hN p pa pb m1 n1 m2 n2 aS cS f g hf hg hx w hp hpa hpb s0 s1 s2 a0 b0 hrs hM1 hM2
  | some a =>
    cases hy : expV g (allW D N) N with
    | none => exact joinWork_2 D N hD hN p pa pb m1 n1 m2 n2 aS cS f g hf hg a hx hy w hp hpa hpb s0 s1 s2 a0 b0 hrs hM1 hM2
    | some b =>
      cases hz : prodV a b (allW D N) with
      | none => exact joinWork_3 D N hD hN p pa pb m1 n1 m2 n2 aS cS f g hf hg a b hx hy hz w hp hpa hpb s0 s1 s2 a0 b0 hrs hM1 hM2
      | some z =>
        cases hl : logV z (allW D N) N with
        | none => exact joinWork_4 D N hD hN p pa pb m1 n1 m2 n2 aS cS f g hf hg a b z hx hy hz hl w hp hpa hpb s0 s1 s2 a0 b0 hrs hM1 hM2
        | some h => exact joinWork_5 D N hD hN p pa pb m1 n1 m2 n2 aS cS f g hf hg a b z h hx hy hz hl w hp hpa hpb s0 s1 s2 a0 b0 hrs hM1 hM2

end Go.Proofs.YtgcjpenlcokgjaaGreatDoor
