/-
  Contracts of the model's logarithm, and of what it takes the unit from.
  Contracts of LogarithmOf, of the program and of its model: both return the same series and code.
-/
import Derived.Test.YtgcjpenlcokgjaaGreatDoorExpM
import Derived.Test.YtgcjpenlcokgjaaGreatDoorSopF
import Derived.Test.YtgcjpenlcokgjaaGreatDoorGate
import Derived.Test.YtgcjpenlcokgjaaGreatDoorConst
import Derived.Deep.RegionHeld3
import Derived.Deep.RegionHeld2
namespace Go.Proofs.YtgcjpenlcokgjaaGreatDoor
open Go.RowKit

set_option maxRecDepth 100000 in
set_option maxHeartbeats 8000000 in
theorem l02Less_c (D N : Nat) (hD : 1 ≤ D ∧ D ≤ 3) (hN : N ≤ 5) (a1 : Option Addr) (cap1 : Nat) (y : VF) (hy : GoodV (allW D N) y) (xs : List Tm) (hx : termsOf y (allW D N) = xs) (ka kb : Int) (hk : isF ka kb = true) (w : World) (hr1 : Row w a1 xs) :
    Calls Tryz.prog 133 #[.agg #[.int .i64 D, .int .i64 N, .slice a1 xs.length cap1], .agg #[.int .i64 ka, .int .i64 kb]] w (SumPost D N ((lessV y ka kb (allW D N)).map fun h => termsOf h (allW D N)) w) := by
  have hW := allW_asc hD.2 N
  have hfew := allW_few (D := D) hD.2 (n := N) hN
  have hl1 : xs.length ≤ 1048576 := by rw [← hx]; have := termsOf_len y (allW D N); omega
  have HR1 := Lib.hid hr1
  have hka := isF_abs hk
  have he1 : ((scaledL ka kb xs).bind fun us => putAll [] us) = (addK y ka kb (allW D N) noneF).map fun h => termsOf h (allW D N) := by
    have h := addK_put hW (g := y) (a := ka) (b := kb) (ws := allW D N) (fun _ h => h) noneF
    rw [termsOf_noneF, hx] at h
    exact h
  have HPut2 := Lib.hid (fun h => (show ((scaledL (-1) 1 [⟨ByteArray.empty, 1, 1⟩]).bind fun us => putAll (termsOf h (allW D N)) us) = (addK unitF (-1) 1 (allW D N) h).map fun h => termsOf h (allW D N) from by
    have e := addK_put hW (g := unitF) (a := -1) (b := 1) (ws := allW D N) (fun _ h => h) h
    rw [unit_terms] at e
    exact e))
  have HL0 := Lib.hid (fun h => lessV_none (x := y) (a := ka) (b := kb) (ws := allW D N) h)
  have HLs := Lib.hid (fun h e => lessV_some (x := y) (h := h) (a := ka) (b := kb) (ws := allW D N) e)
  have HGd := Lib.hid (fun h (e : addK y ka kb (allW D N) noneF = some h) => GoodV.addK (good_none (allW D N)) (fun _ h => h) e)
  have hbd : ∀ t ∈ xs, bdT t := by rw [← hx]; exact termsOf_bd hy
  have HAd1 := Lib.hid (fun g3 W (hr : Row W a1 xs) => (show Calls Tryz.prog 68 #[.agg #[.int .i64 D, .int .i64 N, .slice (some ⟨g3, 0, none⟩) 0 0], .agg #[.int .i64 D, .int .i64 N, .slice a1 xs.length cap1], .agg #[.int .i64 ka, .int .i64 kb]] W (SumPost D N ((addK y ka kb (allW D N) noneF).map fun h => termsOf h (allW D N)) W) from he1 ▸ l02Add_c D N D N ka kb hka.1 hka.2.1 (some ⟨g3, 0, none⟩) a1 0 cap1 [] xs (by simp) hl1 (fun t ht => by cases ht) hbd W (.inl rfl) hr))
  have HAd2 := Lib.hid (fun a5 c5 h (hg : GoodV (allW D N) h) a2 c2 W r1 r2 => (show Calls Tryz.prog 68 #[.agg #[.int .i64 D, .int .i64 N, .slice a5 (termsOf h (allW D N)).length c5], .agg #[.int .i64 D, .int .i64 N, .slice a2 1 c2], .agg #[.int .i64 (-1), .int .i64 1]] W (SumPost D N ((addK unitF (-1) 1 (allW D N) h).map fun h => termsOf h (allW D N)) W) from HPut2.out h ▸ l02Add_c D N D N (-1) 1 (by decide) (by decide) a5 a2 c5 c2 (termsOf h (allW D N)) [⟨ByteArray.empty, 1, 1⟩] (by have := termsOf_len h (allW D N); omega) (by simp) (termsOf_bd hg) (fun t ht => by
    have e : t = ⟨ByteArray.empty, 1, 1⟩ := by simpa using ht
    subst e
    exact ⟨by decide, by decide⟩) W r1 r2))
  obtain ⟨r, hr⟩ : ∃ r, addK y ka kb (allW D N) noneF = r := ⟨_, rfl⟩
  rw [hr] at HAd1
  have HRr := Lib.hid hr
  clear hr1 hk hka he1 hbd hW hfew hr hy hx
  go_enter Tryz.func133, Tryz.ntmps133
  go_upto_region 1 with fail
  have HT4 := Lib.hid (show T3 (((w.alloc (.cells #[.int .i64 D, .int .i64 N, .slice a1 xs.length cap1] 26)).alloc (.cells #[.int .i64 ka, .int .i64 kb] 58)).alloc (.cells #[.int .i64 0, .int .i64 0, .slice none 0 0] 26)) (w.heap.size + 2) (.int .i64 0) (.int .i64 0) (.slice none 0 0) from T3.newAt (by simp))
  have x0 : (((w.alloc (.cells #[.int .i64 D, .int .i64 N, .slice a1 xs.length cap1] 26)).alloc (.cells #[.int .i64 ka, .int .i64 kb] 58)).alloc (.cells #[.int .i64 0, .int .i64 0, .slice none 0 0] 26)).cell? ⟨w.heap.size, 0, none⟩ = some (.int .i64 D) := by go_simp
  have x1 : (((w.alloc (.cells #[.int .i64 D, .int .i64 N, .slice a1 xs.length cap1] 26)).alloc (.cells #[.int .i64 ka, .int .i64 kb] 58)).alloc (.cells #[.int .i64 0, .int .i64 0, .slice none 0 0] 26)).cell? ⟨w.heap.size, 1, none⟩ = some (.int .i64 N) := by go_simp
  have x2 : (((w.alloc (.cells #[.int .i64 D, .int .i64 N, .slice a1 xs.length cap1] 26)).alloc (.cells #[.int .i64 ka, .int .i64 kb] 58)).alloc (.cells #[.int .i64 0, .int .i64 0, .slice none 0 0] 26)).cell? ⟨w.heap.size, 2, none⟩ = some (.slice a1 xs.length cap1) := by go_simp
  have k0 : (((w.alloc (.cells #[.int .i64 D, .int .i64 N, .slice a1 xs.length cap1] 26)).alloc (.cells #[.int .i64 ka, .int .i64 kb] 58)).alloc (.cells #[.int .i64 0, .int .i64 0, .slice none 0 0] 26)).cell? ⟨w.heap.size + 1, 0, none⟩ = some (.int .i64 ka) := by go_simp
  have k1 : (((w.alloc (.cells #[.int .i64 D, .int .i64 N, .slice a1 xs.length cap1] 26)).alloc (.cells #[.int .i64 ka, .int .i64 kb] 58)).alloc (.cells #[.int .i64 0, .int .i64 0, .slice none 0 0] 26)).cell? ⟨w.heap.size + 1, 1, none⟩ = some (.int .i64 kb) := by go_simp
  have HWb := Lib.hid (below3 w (.cells #[.int .i64 D, .int .i64 N, .slice a1 xs.length cap1] 26) (.cells #[.int .i64 ka, .int .i64 kb] 58) (.cells #[.int .i64 0, .int .i64 0, .slice none 0 0] 26))
  have hwb : (((w.alloc (.cells #[.int .i64 D, .int .i64 N, .slice a1 xs.length cap1] 26)).alloc (.cells #[.int .i64 ka, .int .i64 kb] 58)).alloc (.cells #[.int .i64 0, .int .i64 0, .slice none 0 0] 26)).heap.size = w.heap.size + 3 := by simp
  generalize (((w.alloc (.cells #[.int .i64 D, .int .i64 N, .slice a1 xs.length cap1] 26)).alloc (.cells #[.int .i64 ka, .int .i64 kb] 58)).alloc (.cells #[.int .i64 0, .int .i64 0, .slice none 0 0] 26)) = wb at *
  have hww : w.heap.size < wb.heap.size := by omega
  have hwk : w.heap.size + 1 < wb.heap.size := by omega
  have KS := Lib.hid (show ∀ w', Below wb.heap.size wb w' → (w'.cell? ⟨w.heap.size, 0, none⟩ = some (.int .i64 D) ∧ w'.cell? ⟨w.heap.size, 1, none⟩ = some (.int .i64 N) ∧ w'.cell? ⟨w.heap.size, 2, none⟩ = some (.slice a1 xs.length cap1) ∧ w'.cell? ⟨w.heap.size + 1, 0, none⟩ = some (.int .i64 ka) ∧ w'.cell? ⟨w.heap.size + 1, 1, none⟩ = some (.int .i64 kb)) from fun w' hb => ⟨(hb.cell (p := ⟨w.heap.size, 0, none⟩) hww).trans x0, (hb.cell (p := ⟨w.heap.size, 1, none⟩) hww).trans x1, (hb.cell (p := ⟨w.heap.size, 2, none⟩) hww).trans x2, (hb.cell (p := ⟨w.heap.size + 1, 0, none⟩) hwk).trans k0, (hb.cell (p := ⟨w.heap.size + 1, 1, none⟩) hwk).trans k1⟩)
  have HWZ := Lib.hid hwb
  have HEm := Lib.hid (fun W (_ : Below wb.heap.size wb W) => l01Empty_c D N (.slice a1 xs.length cap1) rfl W)
  have HA1 := Lib.hid (fun g3 W (hW : Below wb.heap.size wb W) => HAd1.out g3 W (HR1.out.below (HWb.out.trans (hW.mono (by omega)))))
  clear x0 x1 x2 k0 k1 hwb
  go_upto_region 1 with fail
  go_cut [6, 7] (SerCut wb D N (r.map fun h => termsOf h (allW D N)))
  case first =>
    go_region_held3 (fun w' => w'.cell? ⟨w.heap.size, 0, none⟩ = some (.int .i64 D) ∧ w'.cell? ⟨w.heap.size, 1, none⟩ = some (.int .i64 N) ∧ w'.cell? ⟨w.heap.size, 2, none⟩ = some (.slice a1 xs.length cap1) ∧ w'.cell? ⟨w.heap.size + 1, 0, none⟩ = some (.int .i64 ka) ∧ w'.cell? ⟨w.heap.size + 1, 1, none⟩ = some (.int .i64 kb))
      ((refine KS.out _ ?_; repeat' (first | with_reducible assumption | with_reducible exact Below.refl _ _ | (with_reducible refine Below.drew ?_) | (with_reducible refine Below.setCell ?_ (by (try dsimp only); omega) _) | (with_reducible refine Below.alloc ?_ (by (try simp only [World.size_setCell]); (try simp only [World.size_drew]); (try simp only [World.size_alloc]); (try simp only [World.size_setCell]); (try simp only [World.size_alloc]); omega) _))))
      (first
        | (go_at_call 66; (with_reducible refine (HEm.out _ ?_).mono ?_); (focus repeat' (first | with_reducible assumption | with_reducible exact Below.refl _ _ | (with_reducible refine Below.drew ?_) | (with_reducible refine Below.setCell ?_ (by (try dsimp only); omega) _) | (with_reducible refine Below.alloc ?_ (by (try simp only [World.size_setCell]); (try simp only [World.size_drew]); (try simp only [World.size_alloc]); (try simp only [World.size_setCell]); (try simp only [World.size_alloc]); omega) _))); rintro e w2 ⟨g3, rfl, -, hb0⟩; have hbw2 : Below wb.heap.size wb w2 := below_step (by repeat' (first | with_reducible assumption | with_reducible exact Below.refl _ _ | (with_reducible refine Below.drew ?_) | (with_reducible refine Below.setCell ?_ (by (try dsimp only); omega) _) | (with_reducible refine Below.alloc ?_ (by (try simp only [World.size_setCell]); (try simp only [World.size_drew]); (try simp only [World.size_alloc]); (try simp only [World.size_setCell]); (try simp only [World.size_alloc]); omega) _))) hb0 (Nat.le_refl _); have hzw2 := hbw2.size; (try have B0 : T3 w2 wb.heap.size (.int .i64 0) (.int .i64 0) (.slice none 0 0) := T3.next (by exact (T3.new wb 0 0 none 0 0 _).drew) hb0); (try have L00 := B0.1))
        | (go_at_call 68; (with_reducible refine (HA1.out _ _ ?_).mono ?_); (focus repeat' (first | with_reducible assumption | with_reducible exact Below.refl _ _ | (with_reducible refine Below.drew ?_) | (with_reducible refine Below.setCell ?_ (by (try dsimp only); omega) _) | (with_reducible refine Below.alloc ?_ (by (try simp only [World.size_setCell]); (try simp only [World.size_drew]); (try simp only [World.size_alloc]); (try simp only [World.size_setCell]); (try simp only [World.size_alloc]); omega) _))); rintro e w3 hpost; obtain ⟨X, Y, a5, l5, c5, ok, rfl, hb0, hU⟩ := SumPost.u hpost; (try simp only [World.size_drew] at hU); (try simp only [World.size_alloc] at hU); have hbw3 : Below wb.heap.size wb w3 := below_step (by repeat' (first | with_reducible assumption | with_reducible exact Below.refl _ _ | (with_reducible refine Below.drew ?_) | (with_reducible refine Below.setCell ?_ (by (try dsimp only); omega) _) | (with_reducible refine Below.alloc ?_ (by (try simp only [World.size_setCell]); (try simp only [World.size_drew]); (try simp only [World.size_alloc]); (try simp only [World.size_setCell]); (try simp only [World.size_alloc]); omega) _))) hb0 (Nat.le_refl _); have hzw3 := hbw3.size; have hbw2w3 : Below w2.heap.size w2 w3 := below_step (by repeat' (first | with_reducible assumption | with_reducible exact Below.refl _ _ | (with_reducible refine Below.drew ?_) | (with_reducible refine Below.setCell ?_ (by (try dsimp only); omega) _) | (with_reducible refine Below.alloc ?_ (by (try simp only [World.size_setCell]); (try simp only [World.size_drew]); (try simp only [World.size_alloc]); (try simp only [World.size_setCell]); (try simp only [World.size_alloc]); omega) _))) hb0 (Nat.le_refl _); have hzw2w3 := hbw2w3.size; (try have B0 := B0.next hbw2w3); (try have B1 : T3 w3 w2.heap.size (.int .i64 0) (.int .i64 0) (.slice none 0 0) := T3.next (by exact T3.new w2 0 0 none 0 0 _) hb0); (try have L01 := B0.1); (try have L11 := B1.1); (try obtain ⟨-, b00, b01, b02, b03, b04, b05⟩ := id B0); (try obtain ⟨-, b10, b11, b12, b13, b14, b15⟩ := id B1))
        | fail)
    all_goals (go_wp2_with fail; go_meet)
    all_goals (refine ⟨_, X, Y, a5, l5, c5, ok, rfl, rfl, ?_, ?_, ?_, ?_⟩)
    all_goals (first | (with_reducible assumption) | (with_reducible exact Nat.le_refl _) | ((repeat' (first | with_reducible assumption | with_reducible exact Below.refl _ _ | (with_reducible refine Below.drew ?_) | (with_reducible refine Below.setCell ?_ (by (try dsimp only); omega) _) | (with_reducible refine Below.alloc ?_ (by (try simp only [World.size_setCell]); (try simp only [World.size_drew]); (try simp only [World.size_alloc]); (try simp only [World.size_setCell]); (try simp only [World.size_alloc]); omega) _))); done) | ((repeat' (first | with_reducible assumption | (with_reducible refine T3.newAt ?_; first | with_reducible rfl | (simp only [World.size_setCell]; done) | (simp only [World.size_alloc]; done) | (simp only [World.size_alloc, World.size_setCell]; done)) | (with_reducible refine T3.fill ?_) | (with_reducible refine T3.far ?_ (by first | with_reducible assumption | omega)) | (with_reducible refine T3.alloc ?_ _))); done) | omega | (with_reducible exact (hU.below (below1 _ _)).mono (by omega)) | (with_reducible exact (((hU.far (by omega)).far (by omega)).far (by omega)).mono (by omega)))
  case rest =>
    obtain ⟨g, X, Y, a5, l5, c5, ok, rfl, rfl, hg, hbc, hT5, hU⟩ := hcut
    obtain ⟨wq, rfl⟩ : ∃ wq : World, wq = wc := ⟨_, rfl⟩
    have hzq := hbc.size
    have HTq := Lib.hid (HT4.out.below hbc (by have := HWZ.out; omega))
    have HWq := Lib.hid (HWb.out.trans (hbc.mono (by omega)))
    cases r with
    | none =>
      obtain ⟨rfl, rfl, rfl, rfl, rfl, rfl⟩ := hU
      have HLn := Lib.hid (HL0.out HRr.out)
      obtain ⟨hq4, r0, r1, r2, z0, z1, z2⟩ := id HTq.out
      clear hbc hT5
      go_wp2_with fail
      rw [HLn.out]
      refine bodyPost_ret (v := .tuple #[.agg #[.int .i64 0, .int .i64 0, .slice none 0 0], .bool false]) (by simp [results, Tryz.results133, go_sem, r0, r1, r2]) rfl ⟨rfl, ?_⟩
      have hW := HWq.out
      go_grown
    | some h =>
      obtain ⟨rfl, rfl, rfl, rfl, hN5⟩ := hU
      have HLn := Lib.hid (HLs.out h HRr.out)
      have HN5 := Lib.hid hN5
      obtain ⟨x0, x1, x2, k0, k1⟩ := KS.out wq hbc
      obtain ⟨hgq, t0, t1, t2, -, -, -⟩ := id hT5
      have hwq : w.heap.size < wq.heap.size := by omega
      have KS2 := Lib.hid (show ∀ w', Below wq.heap.size wq w' → (w'.cell? ⟨g, 0, none⟩ = some (.int .i64 D) ∧ w'.cell? ⟨g, 1, none⟩ = some (.int .i64 N) ∧ w'.cell? ⟨g, 2, none⟩ = some (.slice a5 (termsOf h (allW D N)).length c5) ∧ w'.cell? ⟨w.heap.size, 0, none⟩ = some (.int .i64 D) ∧ w'.cell? ⟨w.heap.size, 1, none⟩ = some (.int .i64 N) ∧ w'.cell? ⟨w.heap.size, 2, none⟩ = some (.slice a1 xs.length cap1)) from fun w' hb => ⟨(hb.cell (p := ⟨g, 0, none⟩) hgq).trans t0, (hb.cell (p := ⟨g, 1, none⟩) hgq).trans t1, (hb.cell (p := ⟨g, 2, none⟩) hgq).trans t2, (hb.cell (p := ⟨w.heap.size, 0, none⟩) hwq).trans x0, (hb.cell (p := ⟨w.heap.size, 1, none⟩) hwq).trans x1, (hb.cell (p := ⟨w.heap.size, 2, none⟩) hwq).trans x2⟩)
      have HUn := Lib.hid (fun W (_ : Below wq.heap.size wq W) => l02Unit_c D N a1 xs.length cap1 W)
      have HOn := Lib.hid (fun W (_ : Below wq.heap.size wq W) => l02One_c (-1) W)
      have HA2 := Lib.hid (fun a2 c2 W (hW : Below wq.heap.size wq W) hrow => HAd2.out a5 c5 h (HGd.out h HRr.out) a2 c2 W (HN5.out.row.below hW) hrow)
      clear hbc hT5 hN5 x0 x1 x2 k0 k1 t0 t1 t2
      go_upto_region 4 with fail
      go_cut [8, 9] (SerCut wq D N ((addK unitF (-1) 1 (allW D N) h).map fun h => termsOf h (allW D N)))
      case first =>
        go_region_held3 (fun w' => w'.cell? ⟨g, 0, none⟩ = some (.int .i64 D) ∧ w'.cell? ⟨g, 1, none⟩ = some (.int .i64 N) ∧ w'.cell? ⟨g, 2, none⟩ = some (.slice a5 (termsOf h (allW D N)).length c5) ∧ w'.cell? ⟨w.heap.size, 0, none⟩ = some (.int .i64 D) ∧ w'.cell? ⟨w.heap.size, 1, none⟩ = some (.int .i64 N) ∧ w'.cell? ⟨w.heap.size, 2, none⟩ = some (.slice a1 xs.length cap1))
          ((refine KS2.out _ ?_; repeat' (first | with_reducible assumption | with_reducible exact Below.refl _ _ | (with_reducible refine Below.drew ?_) | (with_reducible refine Below.setCell ?_ (by (try dsimp only); omega) _) | (with_reducible refine Below.alloc ?_ (by (try simp only [World.size_setCell]); (try simp only [World.size_drew]); (try simp only [World.size_alloc]); (try simp only [World.size_setCell]); (try simp only [World.size_alloc]); omega) _))))
          (first
            | (go_at_call 121; (with_reducible refine (HUn.out _ ?_).mono ?_); (focus repeat' (first | with_reducible assumption | with_reducible exact Below.refl _ _ | (with_reducible refine Below.drew ?_) | (with_reducible refine Below.setCell ?_ (by (try dsimp only); omega) _) | (with_reducible refine Below.alloc ?_ (by (try simp only [World.size_setCell]); (try simp only [World.size_drew]); (try simp only [World.size_alloc]); (try simp only [World.size_setCell]); (try simp only [World.size_alloc]); omega) _))); rintro e w2 ⟨a2, c2, rfl, hb0, hN2⟩; have hbw2 : Below wq.heap.size wq w2 := below_step (by repeat' (first | with_reducible assumption | with_reducible exact Below.refl _ _ | (with_reducible refine Below.drew ?_) | (with_reducible refine Below.setCell ?_ (by (try dsimp only); omega) _) | (with_reducible refine Below.alloc ?_ (by (try simp only [World.size_setCell]); (try simp only [World.size_drew]); (try simp only [World.size_alloc]); (try simp only [World.size_setCell]); (try simp only [World.size_alloc]); omega) _))) hb0 (Nat.le_refl _); have hzw2 := hbw2.size; (try have B0 : T3 w2 wq.heap.size (.int .i64 0) (.int .i64 0) (.slice none 0 0) := T3.next (by exact (T3.new wq 0 0 none 0 0 _).drew) hb0); (try have L00 := B0.1))
            | (go_at_call 134; (with_reducible refine (HOn.out _ ?_).mono ?_); (focus repeat' (first | with_reducible assumption | with_reducible exact Below.refl _ _ | (with_reducible refine Below.drew ?_) | (with_reducible refine Below.setCell ?_ (by (try dsimp only); omega) _) | (with_reducible refine Below.alloc ?_ (by (try simp only [World.size_setCell]); (try simp only [World.size_drew]); (try simp only [World.size_alloc]); (try simp only [World.size_setCell]); (try simp only [World.size_alloc]); omega) _))); rintro e w3 ⟨rfl, hb0⟩; have hbw3 : Below wq.heap.size wq w3 := below_step (by repeat' (first | with_reducible assumption | with_reducible exact Below.refl _ _ | (with_reducible refine Below.drew ?_) | (with_reducible refine Below.setCell ?_ (by (try dsimp only); omega) _) | (with_reducible refine Below.alloc ?_ (by (try simp only [World.size_setCell]); (try simp only [World.size_drew]); (try simp only [World.size_alloc]); (try simp only [World.size_setCell]); (try simp only [World.size_alloc]); omega) _))) hb0 (Nat.le_refl _); have hzw3 := hbw3.size; have hbw2w3 : Below w2.heap.size w2 w3 := below_step (by repeat' (first | with_reducible assumption | with_reducible exact Below.refl _ _ | (with_reducible refine Below.drew ?_) | (with_reducible refine Below.setCell ?_ (by (try dsimp only); omega) _) | (with_reducible refine Below.alloc ?_ (by (try simp only [World.size_setCell]); (try simp only [World.size_drew]); (try simp only [World.size_alloc]); (try simp only [World.size_setCell]); (try simp only [World.size_alloc]); omega) _))) hb0 (Nat.le_refl _); have hzw2w3 := hbw2w3.size; (try have B0 := B0.next hbw2w3); (try have B1 : T3 w3 w2.heap.size (.int .i64 0) (.int .i64 0) (.slice none 0 0) := T3.next (by exact T3.new w2 0 0 none 0 0 _) hb0); (try have L01 := B0.1); (try have L11 := B1.1))
            | (go_at_call 68; (with_reducible refine (HA2.out _ _ _ ?_ ?_).mono ?_); (focus repeat' (first | with_reducible assumption | with_reducible exact Below.refl _ _ | (with_reducible refine Below.drew ?_) | (with_reducible refine Below.setCell ?_ (by (try dsimp only); omega) _) | (with_reducible refine Below.alloc ?_ (by (try simp only [World.size_setCell]); (try simp only [World.size_drew]); (try simp only [World.size_alloc]); (try simp only [World.size_setCell]); (try simp only [World.size_alloc]); omega) _))); (focus refine Row.next hN2.row ?_; repeat' (first | with_reducible assumption | with_reducible exact Below.refl _ _ | (with_reducible refine Below.drew ?_) | (with_reducible refine Below.setCell ?_ (by (try dsimp only); omega) _) | (with_reducible refine Below.alloc ?_ (by (try simp only [World.size_setCell]); (try simp only [World.size_drew]); (try simp only [World.size_alloc]); (try simp only [World.size_setCell]); (try simp only [World.size_alloc]); omega) _))); rintro e w4 hpost; obtain ⟨X, Y, a6, l6, c6, ok, rfl, hb0, hU⟩ := SumPost.u hpost; (try simp only [World.size_drew] at hU); (try simp only [World.size_alloc] at hU); have hbw4 : Below wq.heap.size wq w4 := below_step (by repeat' (first | with_reducible assumption | with_reducible exact Below.refl _ _ | (with_reducible refine Below.drew ?_) | (with_reducible refine Below.setCell ?_ (by (try dsimp only); omega) _) | (with_reducible refine Below.alloc ?_ (by (try simp only [World.size_setCell]); (try simp only [World.size_drew]); (try simp only [World.size_alloc]); (try simp only [World.size_setCell]); (try simp only [World.size_alloc]); omega) _))) hb0 (Nat.le_refl _); have hzw4 := hbw4.size; have hbw2w4 : Below w2.heap.size w2 w4 := below_step (by repeat' (first | with_reducible assumption | with_reducible exact Below.refl _ _ | (with_reducible refine Below.drew ?_) | (with_reducible refine Below.setCell ?_ (by (try dsimp only); omega) _) | (with_reducible refine Below.alloc ?_ (by (try simp only [World.size_setCell]); (try simp only [World.size_drew]); (try simp only [World.size_alloc]); (try simp only [World.size_setCell]); (try simp only [World.size_alloc]); omega) _))) hb0 (Nat.le_refl _); have hzw2w4 := hbw2w4.size; have hbw3w4 : Below w3.heap.size w3 w4 := below_step (by repeat' (first | with_reducible assumption | with_reducible exact Below.refl _ _ | (with_reducible refine Below.drew ?_) | (with_reducible refine Below.setCell ?_ (by (try dsimp only); omega) _) | (with_reducible refine Below.alloc ?_ (by (try simp only [World.size_setCell]); (try simp only [World.size_drew]); (try simp only [World.size_alloc]); (try simp only [World.size_setCell]); (try simp only [World.size_alloc]); omega) _))) hb0 (Nat.le_refl _); have hzw3w4 := hbw3w4.size; (try have B0 := B0.next hbw3w4); (try have B1 := B1.next hbw3w4); (try have B2 : T3 w4 w3.heap.size (.int .i64 0) (.int .i64 0) (.slice none 0 0) := T3.next (by exact T3.new w3 0 0 none 0 0 _) hb0); (try have L02 := B0.1); (try have L12 := B1.1); (try have L22 := B2.1); (try obtain ⟨-, b00, b01, b02, b03, b04, b05⟩ := id B0); (try obtain ⟨-, b10, b11, b12, b13, b14, b15⟩ := id B1); (try obtain ⟨-, b20, b21, b22, b23, b24, b25⟩ := id B2))
            | fail)
        all_goals (go_wp2_with fail; go_meet)
        all_goals (refine ⟨_, X, Y, a6, l6, c6, ok, rfl, rfl, ?_, ?_, ?_, ?_⟩)
        all_goals (first | (with_reducible assumption) | (with_reducible exact Nat.le_refl _) | ((repeat' (first | with_reducible assumption | with_reducible exact Below.refl _ _ | (with_reducible refine Below.drew ?_) | (with_reducible refine Below.setCell ?_ (by (try dsimp only); omega) _) | (with_reducible refine Below.alloc ?_ (by (try simp only [World.size_setCell]); (try simp only [World.size_drew]); (try simp only [World.size_alloc]); (try simp only [World.size_setCell]); (try simp only [World.size_alloc]); omega) _))); done) | ((repeat' (first | with_reducible assumption | (with_reducible refine T3.newAt ?_; first | with_reducible rfl | (simp only [World.size_setCell]; done) | (simp only [World.size_alloc]; done) | (simp only [World.size_alloc, World.size_setCell]; done)) | (with_reducible refine T3.fill ?_) | (with_reducible refine T3.far ?_ (by first | with_reducible assumption | omega)) | (with_reducible refine T3.alloc ?_ _))); done) | omega | (with_reducible exact (hU.below (below1 _ _)).mono (by omega)) | (with_reducible exact (((hU.far (by omega)).far (by omega)).far (by omega)).mono (by omega)))
      case rest =>
        obtain ⟨g2, X, Y, a6, l6, c6, ok, rfl, rfl, hg2, hbc2, hT6, hU⟩ := hcut
        obtain ⟨w6, rfl⟩ : ∃ w6 : World, w6 = wc := ⟨_, rfl⟩
        have hz6 := hbc2.size
        obtain ⟨-, t0, t1, t2, -, -, -⟩ := id hT6
        have hT4 := HTq.out.below hbc2 (by have := HWZ.out; omega)
        obtain ⟨hq4, r0, r1, r2, z0, z1, z2⟩ := id hT4
        have HU6 := Lib.hid hU
        have HB6 := Lib.hid (HWq.out.trans (hbc2.mono (by have := HWZ.out; omega)))
        clear hbc2 hT6 hU hT4
        go_wp2
        rw [HLn.out]
        refine bodyPost_ret (v := .tuple #[.agg #[.int .i64 X, .int .i64 Y, .slice a6 l6 c6], .bool ok]) (by simp [results, Tryz.results133, go_sem, r0, r1, r2]) rfl ?_
        have hU := HU6.out
        have hW := HB6.out
        have hwz := HWZ.out
        exact SumU.back (lo := wq.heap.size) (((hU.far (by omega)).far (by omega)).far (by omega)) (by go_grown) (by omega)

set_option maxRecDepth 100000 in
set_option maxHeartbeats 8000000 in
theorem l02Log_c (D N : Nat) (hD : 1 ≤ D ∧ D ≤ 3) (hN : N ≤ 5) (a1 : Option Addr) (cap1 : Nat) (y : VF) (hy : GoodV (allW D N) y) (xs : List Tm) (hx : termsOf y (allW D N) = xs) (w : World) (hr1 : Row w a1 xs) :
    Calls Tryz.prog 98 #[.agg #[.int .i64 D, .int .i64 N, .slice a1 xs.length cap1]] w (SumPost D N ((logV y (allW D N) N).map fun h => termsOf h (allW D N)) w) := by
  have HR1 := Lib.hid hr1
  have HLc := Lib.hid (fun W r => l02Less_c D N hD hN a1 cap1 y hy xs hx 1 1 (by decide) W r)
  have HGd := Lib.hid (fun z (e : lessV y 1 1 (allW D N) = some z) => lessV_good e)
  have HSum := Lib.hid (fun a5 c5 z (hz : GoodV (allW D N) z) aN cN W r1 r2 => l02Sum_c D N hD hN a5 c5 z hz (termsOf z (allW D N)) rfl logF (N + 1) (by omega) (fun k hk => logF_isF (by omega)) (fun k h _ => logF_nz (by omega)) (fun _ => rfl) aN cN W r1 r2)
  have HL0 := Lib.hid (fun (h : lessV y 1 1 (allW D N) = none) => (show logV y (allW D N) N = none by unfold logV; rw [h]; rfl))
  have HLs := Lib.hid (fun z (h : lessV y 1 1 (allW D N) = some z) => (show logV y (allW D N) N = sumK z (allW D N) logF (N + 1) by unfold logV; rw [h]; rfl))
  obtain ⟨r, hr⟩ : ∃ r, lessV y 1 1 (allW D N) = r := ⟨_, rfl⟩
  rw [hr] at HLc
  have HRr := Lib.hid hr
  clear hr1 hy hx hr
  go_enter Tryz.func98, Tryz.ntmps98
  go_upto_region 1 with fail
  have HT4 := Lib.hid (show T3 ((w.alloc (.cells #[.int .i64 D, .int .i64 N, .slice a1 xs.length cap1] 26)).alloc (.cells #[.int .i64 0, .int .i64 0, .slice none 0 0] 26)) (w.heap.size + 1) (.int .i64 0) (.int .i64 0) (.slice none 0 0) from T3.newAt (by simp))
  have x0 : ((w.alloc (.cells #[.int .i64 D, .int .i64 N, .slice a1 xs.length cap1] 26)).alloc (.cells #[.int .i64 0, .int .i64 0, .slice none 0 0] 26)).cell? ⟨w.heap.size, 0, none⟩ = some (.int .i64 D) := by go_simp
  have x1 : ((w.alloc (.cells #[.int .i64 D, .int .i64 N, .slice a1 xs.length cap1] 26)).alloc (.cells #[.int .i64 0, .int .i64 0, .slice none 0 0] 26)).cell? ⟨w.heap.size, 1, none⟩ = some (.int .i64 N) := by go_simp
  have x2 : ((w.alloc (.cells #[.int .i64 D, .int .i64 N, .slice a1 xs.length cap1] 26)).alloc (.cells #[.int .i64 0, .int .i64 0, .slice none 0 0] 26)).cell? ⟨w.heap.size, 2, none⟩ = some (.slice a1 xs.length cap1) := by go_simp
  have HWb := Lib.hid (below2 w (.cells #[.int .i64 D, .int .i64 N, .slice a1 xs.length cap1] 26) (.cells #[.int .i64 0, .int .i64 0, .slice none 0 0] 26))
  have hwb : ((w.alloc (.cells #[.int .i64 D, .int .i64 N, .slice a1 xs.length cap1] 26)).alloc (.cells #[.int .i64 0, .int .i64 0, .slice none 0 0] 26)).heap.size = w.heap.size + 2 := by simp
  generalize ((w.alloc (.cells #[.int .i64 D, .int .i64 N, .slice a1 xs.length cap1] 26)).alloc (.cells #[.int .i64 0, .int .i64 0, .slice none 0 0] 26)) = wb at *
  have hww : w.heap.size < wb.heap.size := by omega
  have KS := Lib.hid (show ∀ w', Below wb.heap.size wb w' → (w'.cell? ⟨w.heap.size, 0, none⟩ = some (.int .i64 D) ∧ w'.cell? ⟨w.heap.size, 1, none⟩ = some (.int .i64 N) ∧ w'.cell? ⟨w.heap.size, 2, none⟩ = some (.slice a1 xs.length cap1)) from fun w' hb => ⟨(hb.cell (p := ⟨w.heap.size, 0, none⟩) hww).trans x0, (hb.cell (p := ⟨w.heap.size, 1, none⟩) hww).trans x1, (hb.cell (p := ⟨w.heap.size, 2, none⟩) hww).trans x2⟩)
  have HWZ := Lib.hid hwb
  have HOn := Lib.hid (fun W (_ : Below wb.heap.size wb W) => l02One_c 1 W)
  have HA1 := Lib.hid (fun W (hW : Below wb.heap.size wb W) => HLc.out W (HR1.out.below (HWb.out.trans (hW.mono (by omega)))))
  clear x0 x1 x2 hwb
  go_upto_region 1 with fail
  go_cut [4, 5] (SerCut wb D N (r.map fun h => termsOf h (allW D N)))
  case first =>
    go_region_held3 (fun w' => w'.cell? ⟨w.heap.size, 0, none⟩ = some (.int .i64 D) ∧ w'.cell? ⟨w.heap.size, 1, none⟩ = some (.int .i64 N) ∧ w'.cell? ⟨w.heap.size, 2, none⟩ = some (.slice a1 xs.length cap1))
      ((refine KS.out _ ?_; repeat' (first | with_reducible assumption | with_reducible exact Below.refl _ _ | (with_reducible refine Below.drew ?_) | (with_reducible refine Below.setCell ?_ (by (try dsimp only); omega) _) | (with_reducible refine Below.alloc ?_ (by (try simp only [World.size_setCell]); (try simp only [World.size_drew]); (try simp only [World.size_alloc]); (try simp only [World.size_setCell]); (try simp only [World.size_alloc]); omega) _))))
      (first
        | (go_at_call 134; (with_reducible refine (HOn.out _ ?_).mono ?_); (focus repeat' (first | with_reducible assumption | with_reducible exact Below.refl _ _ | (with_reducible refine Below.drew ?_) | (with_reducible refine Below.setCell ?_ (by (try dsimp only); omega) _) | (with_reducible refine Below.alloc ?_ (by (try simp only [World.size_setCell]); (try simp only [World.size_drew]); (try simp only [World.size_alloc]); (try simp only [World.size_setCell]); (try simp only [World.size_alloc]); omega) _))); rintro e w2 ⟨rfl, hb0⟩; have hbw2 : Below wb.heap.size wb w2 := below_step (by repeat' (first | with_reducible assumption | with_reducible exact Below.refl _ _ | (with_reducible refine Below.drew ?_) | (with_reducible refine Below.setCell ?_ (by (try dsimp only); omega) _) | (with_reducible refine Below.alloc ?_ (by (try simp only [World.size_setCell]); (try simp only [World.size_drew]); (try simp only [World.size_alloc]); (try simp only [World.size_setCell]); (try simp only [World.size_alloc]); omega) _))) hb0 (Nat.le_refl _); have hzw2 := hbw2.size; (try have B0 : T3 w2 wb.heap.size (.int .i64 0) (.int .i64 0) (.slice none 0 0) := T3.next (by exact (T3.new wb 0 0 none 0 0 _).drew) hb0); (try have L00 := B0.1))
        | (go_at_call 133; (with_reducible refine (HA1.out _ ?_).mono ?_); (focus repeat' (first | with_reducible assumption | with_reducible exact Below.refl _ _ | (with_reducible refine Below.drew ?_) | (with_reducible refine Below.setCell ?_ (by (try dsimp only); omega) _) | (with_reducible refine Below.alloc ?_ (by (try simp only [World.size_setCell]); (try simp only [World.size_drew]); (try simp only [World.size_alloc]); (try simp only [World.size_setCell]); (try simp only [World.size_alloc]); omega) _))); rintro e w3 hpost; obtain ⟨X, Y, a5, l5, c5, ok, rfl, hb0, hU⟩ := SumPost.u hpost; (try simp only [World.size_drew] at hU); (try simp only [World.size_alloc] at hU); have hbw3 : Below wb.heap.size wb w3 := below_step (by repeat' (first | with_reducible assumption | with_reducible exact Below.refl _ _ | (with_reducible refine Below.drew ?_) | (with_reducible refine Below.setCell ?_ (by (try dsimp only); omega) _) | (with_reducible refine Below.alloc ?_ (by (try simp only [World.size_setCell]); (try simp only [World.size_drew]); (try simp only [World.size_alloc]); (try simp only [World.size_setCell]); (try simp only [World.size_alloc]); omega) _))) hb0 (Nat.le_refl _); have hzw3 := hbw3.size; have hbw2w3 : Below w2.heap.size w2 w3 := below_step (by repeat' (first | with_reducible assumption | with_reducible exact Below.refl _ _ | (with_reducible refine Below.drew ?_) | (with_reducible refine Below.setCell ?_ (by (try dsimp only); omega) _) | (with_reducible refine Below.alloc ?_ (by (try simp only [World.size_setCell]); (try simp only [World.size_drew]); (try simp only [World.size_alloc]); (try simp only [World.size_setCell]); (try simp only [World.size_alloc]); omega) _))) hb0 (Nat.le_refl _); have hzw2w3 := hbw2w3.size; (try have B0 := B0.next hbw2w3); (try have B1 : T3 w3 w2.heap.size (.int .i64 0) (.int .i64 0) (.slice none 0 0) := T3.next (by exact T3.new w2 0 0 none 0 0 _) hb0); (try have L01 := B0.1); (try have L11 := B1.1); (try obtain ⟨-, b00, b01, b02, b03, b04, b05⟩ := id B0); (try obtain ⟨-, b10, b11, b12, b13, b14, b15⟩ := id B1))
        | fail)
    all_goals (go_wp2_with fail; go_meet)
    all_goals (refine ⟨_, X, Y, a5, l5, c5, ok, rfl, rfl, ?_, ?_, ?_, ?_⟩)
    all_goals (first | (with_reducible assumption) | (with_reducible exact Nat.le_refl _) | ((repeat' (first | with_reducible assumption | with_reducible exact Below.refl _ _ | (with_reducible refine Below.drew ?_) | (with_reducible refine Below.setCell ?_ (by (try dsimp only); omega) _) | (with_reducible refine Below.alloc ?_ (by (try simp only [World.size_setCell]); (try simp only [World.size_drew]); (try simp only [World.size_alloc]); (try simp only [World.size_setCell]); (try simp only [World.size_alloc]); omega) _))); done) | ((repeat' (first | with_reducible assumption | (with_reducible refine T3.newAt ?_; first | with_reducible rfl | (simp only [World.size_setCell]; done) | (simp only [World.size_alloc]; done) | (simp only [World.size_alloc, World.size_setCell]; done)) | (with_reducible refine T3.fill ?_) | (with_reducible refine T3.far ?_ (by first | with_reducible assumption | omega)) | (with_reducible refine T3.alloc ?_ _))); done) | omega | (with_reducible exact (hU.below (below1 _ _)).mono (by omega)) | (with_reducible exact (((hU.far (by omega)).far (by omega)).far (by omega)).mono (by omega)))
  case rest =>
    obtain ⟨g, X, Y, a5, l5, c5, ok, rfl, rfl, hg, hbc, hT5, hU⟩ := hcut
    obtain ⟨wq, rfl⟩ : ∃ wq : World, wq = wc := ⟨_, rfl⟩
    have hzq := hbc.size
    have HTq := Lib.hid (HT4.out.below hbc (by have := HWZ.out; omega))
    have HWq := Lib.hid (HWb.out.trans (hbc.mono (by omega)))
    cases r with
    | none =>
      obtain ⟨rfl, rfl, rfl, rfl, rfl, rfl⟩ := hU
      have HLn := Lib.hid (HL0.out HRr.out)
      obtain ⟨hq4, r0, r1, r2, z0, z1, z2⟩ := id HTq.out
      clear hbc hT5
      go_wp2_with fail
      rw [HLn.out]
      refine bodyPost_ret (v := .tuple #[.agg #[.int .i64 0, .int .i64 0, .slice none 0 0], .bool false]) (by simp [results, Tryz.results98, go_sem, r0, r1, r2]) rfl ⟨rfl, ?_⟩
      have hW := HWq.out
      go_grown
    | some z =>
      obtain ⟨rfl, rfl, rfl, rfl, hN5⟩ := hU
      have HLn := Lib.hid (HLs.out z HRr.out)
      have HN5 := Lib.hid hN5
      have HG5 := Lib.hid (HGd.out z HRr.out)
      obtain ⟨x0, x1, x2⟩ := KS.out wq hbc
      obtain ⟨hgq, t0, t1, t2, -, -, -⟩ := id hT5
      have hwq : w.heap.size < wq.heap.size := by omega
      have KS2 := Lib.hid (show ∀ w', Below wq.heap.size wq w' → (w'.cell? ⟨g, 0, none⟩ = some (.int .i64 D) ∧ w'.cell? ⟨g, 1, none⟩ = some (.int .i64 N) ∧ w'.cell? ⟨g, 2, none⟩ = some (.slice a5 (termsOf z (allW D N)).length c5) ∧ w'.cell? ⟨w.heap.size, 0, none⟩ = some (.int .i64 D) ∧ w'.cell? ⟨w.heap.size, 1, none⟩ = some (.int .i64 N) ∧ w'.cell? ⟨w.heap.size, 2, none⟩ = some (.slice a1 xs.length cap1)) from fun w' hb => ⟨(hb.cell (p := ⟨g, 0, none⟩) hgq).trans t0, (hb.cell (p := ⟨g, 1, none⟩) hgq).trans t1, (hb.cell (p := ⟨g, 2, none⟩) hgq).trans t2, (hb.cell (p := ⟨w.heap.size, 0, none⟩) hwq).trans x0, (hb.cell (p := ⟨w.heap.size, 1, none⟩) hwq).trans x1, (hb.cell (p := ⟨w.heap.size, 2, none⟩) hwq).trans x2⟩)
      clear hbc hT5 hN5 x0 x1 x2 t0 t1 t2
      go_wp2_with fail
      refine (l02One_c 0 _).mono ?_
      rintro e w6 ⟨rfl, hb6⟩
      have hz6 := hb6.size
      have HB6 := Lib.hid hb6
      clear hb6
      go_wp2_with fail
      go_loopw [6, 7] (fun v6 v7 wr => ∃ (k : Nat) (a : Option Addr) (l c : Nat), 1 ≤ k ∧ k ≤ N + 1 ∧ v7 = .int .i64 k ∧ v6 = .slice a l c ∧ l = k ∧ OwnR wr wq.heap.size (.slice a l c) (numL logF k) ∧ Below wq.heap.size wq wr) (fun _ v7 _ => N + 1 - (intOf v7).toNat)
      case atStart => exact ⟨1, some ⟨w6.heap.size, 0, none⟩, 1, 1, by omega, by omega, rfl, rfl, rfl, (OwnR.one w6 0 1).mono hz6, HB6.out.alloc hz6 _⟩
      case round =>
        obtain ⟨k, av, lv, cv, hk1, hk, rfl, rfl, hl, hO, hB⟩ := hrel
        have HO := Lib.hid hO
        have HL := Lib.hid hl
        have HB := Lib.hid hB
        have HSz := Lib.hid hB.size
        have hl9 : lv ≤ 6 := by omega
        obtain ⟨t0, t1, t2, x0, x1, x2⟩ := KS2.out wr hB
        clear hO hl hB
        by_cases hlt : k ≤ N
        · have hsg := sgn_bd (k + 1)
          have hm0 : 0 ≤ (k : Int) % 2 ∧ (k : Int) % 2 ≤ 1 := by omega
          have hm1 : 2 * ((k : Int) % 2) - 1 = sgn (k + 1) := by
            unfold sgn
            by_cases h : (k + 1) % 2 = 0
            · rw [if_pos h]; omega
            · rw [if_neg h]; omega
          have HNs := Lib.hid (numL_succ logF k)
          have HE := Lib.hid (show logF k = (sgn (k + 1), (k : Int)) from by unfold logF; rw [if_neg (by omega)])
          rw [HE.out] at HNs
          obtain ⟨q, hq⟩ : ∃ q, sgn (k + 1) = q := ⟨_, rfl⟩
          rw [hq] at hm1 HNs hsg
          have hq9 : -1 ≤ q ∧ q ≤ 1 := by omega
          clear hsg hq
          go_wp2_with (at_builtin; refine wpList_append_frs rfl _ _ rfl wq.heap.size (.slice av lv cv) lv (numL logF k) [(q, (k : Int))] rfl (by rw [numL_length]; exact HL.out) (HO.out.alloc _) (some ⟨wr.heap.size, 0, none⟩) 1 1 rfl rfl (.inr ⟨wr.heap.size, 0, rfl, frs_one wr q (k : Int)⟩) (by omega) (by have := HSz.out; simp; omega) ?_)
          intro a3 c3 w3 hO3 hG3 _
          have HB3 := Lib.hid (HB.out.trans (((below1 wr (.cells #[.int .i64 q, .int .i64 (k : Int)] 58)).mono HSz.out).trans (own_grownR (HO.out.alloc _) hG3 (by have := HSz.out; simp; omega))))
          have HO3 := Lib.hid hO3
          clear hO3 hG3 x0 x1 x2 t0 t1 t2
          go_wp2
          go_roundw
          case rel => exact ⟨k + 1, a3, lv + 1, c3, by omega, by omega, by go_num, rfl, by rw [HL.out], by rw [HNs.out]; exact HO3.out, HB3.out⟩
          case measure => simp [intOf]; omega
        · obtain rfl : k = N + 1 := by omega
          have HNr := Lib.hid (HO.out.end_0)
          have hle : ¬ ((N + 1 : Nat) : Int) ≤ (N : Int) := by omega
          have HLv := HL.out
          subst HLv
          have HS := Lib.hid (HSum.out a5 c5 z HG5.out av cv wr (HN5.out.row.below HB.out) HNr.out)
          go_wp2_with fail
          refine HS.out.mono ?_
          rw [← HLn.out]
          rintro e w5 hpost
          obtain ⟨X, Y, a5, l5, c5, ok, rfl, hb5, hU⟩ := SumPost.u hpost
          have hT4 := (HTq.out.below HB.out (by have := HWZ.out; omega)).next hb5
          obtain ⟨hq4, r0, r1, r2, z0, z1, z2⟩ := id hT4
          have hz5 := hb5.size
          have hzb := HB.out.size
          have HU5 := Lib.hid hU
          have HB5 := Lib.hid (HWq.out.trans ((HB.out.trans (hb5.mono (by omega))).mono (by have := HWZ.out; omega)))
          clear hpost hb5 hU hT4
          go_wp2
          refine bodyPost_ret (v := .tuple #[.agg #[.int .i64 X, .int .i64 Y, .slice a5 l5 c5], .bool ok]) (by simp [results, Tryz.results98, go_sem, r0, r1, r2, hq4]) rfl ?_
          have hU := HU5.out
          have hW := HB5.out
          have hwz := HWZ.out
          exact SumU.back (lo := wr.heap.size) (by first | exact (((hU.far (by omega)).far (by omega)).far (by omega)).below (below1 _ _) | exact (((hU.below (below1 _ _)).far (by omega)).far (by omega)).far (by omega)) (by go_grown) (by omega)
end Go.Proofs.YtgcjpenlcokgjaaGreatDoor

namespace Go.Proofs.YtgcjpenlcokgjaaGreatDoor
open Go.RowKit

set_option maxRecDepth 100000 in
set_option maxHeartbeats 4000000 in
theorem logWork_no (D N : Nat) (hD : 1 ≤ D ∧ D ≤ 3) (hN : N ≤ 5) (p px : Nat) (aS a1 : Option Addr) (cS c1 : Nat) (xs : List Tm) (h1 : serB D N xs = true) (hl1 : xs.length ≤ 1048576) (hs1 : ∀ i (h : i < xs.length), (xs[i]).s.size ≤ maxLen) (hv : logV (valV xs xs.length) (allW D N) N = none) (w : World) (hp : p < w.heap.size) (hpx : px < w.heap.size) (s0 : w.cell? ⟨p, 0, none⟩ = some (.int .i64 D)) (s1 : w.cell? ⟨p, 1, none⟩ = some (.int .i64 N)) (s2 : w.cell? ⟨p, 2, none⟩ = some (.slice aS (allW D N).length cS)) (x0 : w.cell? ⟨px, 0, none⟩ = some (.int .i64 D)) (x1 : w.cell? ⟨px, 1, none⟩ = some (.int .i64 N)) (x2 : w.cell? ⟨px, 2, none⟩ = some (.slice a1 xs.length c1)) (hrs : SRow w aS (allW D N)) (hr1 : Row w a1 xs) :
    Calls Tryz.prog 140 #[.pointer (some ⟨p, 0, none⟩), .pointer (some ⟨px, 0, none⟩)] w (WorkPost (logV (valV xs xs.length) (allW D N) N) w) := by
  have hfew := allW_few (D := D) hD.2 (n := N) hN
  have HWl := Lib.hid (show (allW D N).length ≤ 100000 by omega)
  have HWs := Lib.hid (show ∀ s ∈ allW D N, s.size ≤ 1000 from fun s hs => by have := allW_size D N s hs; omega)
  have G1 := good_valV h1
  have HG1 := Lib.hid G1.1
  have HGu := Lib.hid (good_unit D N)
  have HS1 := Lib.hid hs1
  have HV := Lib.hid hv
  have HAa := Lib.hid (show ∀ p, aS = some p → p.block < w.heap.size from fun p e => by
    rcases hrs with h | ⟨b, o, e2, h3, _⟩
    · obtain ⟨r, hr, _⟩ := allW_head D N
      rw [hr] at h
      cases h
    · rw [e2] at e
      injection e with e
      rw [← e]
      exact h3)
  have HRS := Lib.hid hrs
  have HR1 := Lib.hid hr1
  have hcnt : (N + 1) * (allW D N).length ≤ 1048576 := Nat.le_trans (Nat.mul_le_mul (show N + 1 ≤ 6 by omega) (show (allW D N).length ≤ 1458 by omega)) (by omega)
  have KS := Lib.hid (show ∀ w', Below w.heap.size w w' → (w'.cell? ⟨p, 0, none⟩ = some (.int .i64 D) ∧ w'.cell? ⟨p, 1, none⟩ = some (.int .i64 N) ∧ w'.cell? ⟨p, 2, none⟩ = some (.slice aS (allW D N).length cS) ∧ w'.cell? ⟨px, 0, none⟩ = some (.int .i64 D) ∧ w'.cell? ⟨px, 1, none⟩ = some (.int .i64 N) ∧ w'.cell? ⟨px, 2, none⟩ = some (.slice a1 xs.length c1)) from fun w' hb => ⟨(hb.cell (p := ⟨p, 0, none⟩) hp).trans s0, (hb.cell (p := ⟨p, 1, none⟩) hp).trans s1, (hb.cell (p := ⟨p, 2, none⟩) hp).trans s2, (hb.cell (p := ⟨px, 0, none⟩) hpx).trans x0, (hb.cell (p := ⟨px, 1, none⟩) hpx).trans x1, (hb.cell (p := ⟨px, 2, none⟩) hpx).trans x2⟩)
  clear hs1 hv hrs hr1 h1 G1 s0 s1 s2 x0 x1 x2
  go_enter Tryz.func140, Tryz.ntmps140
  go_upto_region 1 with fail
  go_region_held2 (fun w' => w'.cell? ⟨p, 0, none⟩ = some (.int .i64 D) ∧ w'.cell? ⟨p, 1, none⟩ = some (.int .i64 N) ∧ w'.cell? ⟨p, 2, none⟩ = some (.slice aS (allW D N).length cS) ∧ w'.cell? ⟨px, 0, none⟩ = some (.int .i64 D) ∧ w'.cell? ⟨px, 1, none⟩ = some (.int .i64 N) ∧ w'.cell? ⟨px, 2, none⟩ = some (.slice a1 xs.length c1))
    (first | (exact KS.out _ (Below.drew (Below.refl _ _))) | (exact KS.out _ hb1) | (exact KS.out _ hb3) | fail)
    (first
      | (go_at_call 40; have hRd : Row w.drew a1 xs := HR1.out; (with_reducible refine (valuesOf_c D N a1 c1 xs hl1 HS1.out w.drew hRd).mono ?_); rintro e w1 ⟨m1, rfl, hm1, hb1', hM1⟩; have hb1 : Below w.heap.size w w1 := ⟨hb1'.os, hb1'.tape, hb1'.output, hb1'.size, hb1'.block⟩; have hbl1 := hM1.lt)
      | (go_at_call 104; have hPr := logarithm_c D N (by omega) aS cS (allW D N) HWl.out HWs.out HGu.out _ HG1.out m1 _ w1 (HRS.out.below hb1 (Nat.le_refl _)) (fun p e => Nat.lt_of_lt_of_le (HAa.out p e) hb1.size) hM1; rw [HV.out] at hPr; refine dead_few (.map none) hPr (fun w3 hb3 => ⟨rfl, by rw [HV.out]; exact ⟨rfl, hb1.trans (hb3.mono hb1.size)⟩⟩) ?_; intro hF)
      | fail)
  all_goals exact hF.out.elim
set_option maxRecDepth 100000 in
set_option maxHeartbeats 4000000 in
theorem logWork_yes (D N : Nat) (hD : 1 ≤ D ∧ D ≤ 3) (hN : N ≤ 5) (p px : Nat) (aS a1 : Option Addr) (cS c1 : Nat) (xs : List Tm) (h1 : serB D N xs = true) (hl1 : xs.length ≤ 1048576) (hs1 : ∀ i (h : i < xs.length), (xs[i]).s.size ≤ maxLen) (h : VF) (hv : logV (valV xs xs.length) (allW D N) N = some h) (w : World) (hp : p < w.heap.size) (hpx : px < w.heap.size) (s0 : w.cell? ⟨p, 0, none⟩ = some (.int .i64 D)) (s1 : w.cell? ⟨p, 1, none⟩ = some (.int .i64 N)) (s2 : w.cell? ⟨p, 2, none⟩ = some (.slice aS (allW D N).length cS)) (x0 : w.cell? ⟨px, 0, none⟩ = some (.int .i64 D)) (x1 : w.cell? ⟨px, 1, none⟩ = some (.int .i64 N)) (x2 : w.cell? ⟨px, 2, none⟩ = some (.slice a1 xs.length c1)) (hrs : SRow w aS (allW D N)) (hr1 : Row w a1 xs) :
    Calls Tryz.prog 140 #[.pointer (some ⟨p, 0, none⟩), .pointer (some ⟨px, 0, none⟩)] w (WorkPost (logV (valV xs xs.length) (allW D N) N) w) := by
  have hfew := allW_few (D := D) hD.2 (n := N) hN
  have HWl := Lib.hid (show (allW D N).length ≤ 100000 by omega)
  have HWs := Lib.hid (show ∀ s ∈ allW D N, s.size ≤ 1000 from fun s hs => by have := allW_size D N s hs; omega)
  have G1 := good_valV h1
  have HG1 := Lib.hid G1.1
  have HGu := Lib.hid (good_unit D N)
  have HS1 := Lib.hid hs1
  have HV := Lib.hid hv
  have HAa := Lib.hid (show ∀ p, aS = some p → p.block < w.heap.size from fun p e => by
    rcases hrs with h | ⟨b, o, e2, h3, _⟩
    · obtain ⟨r, hr, _⟩ := allW_head D N
      rw [hr] at h
      cases h
    · rw [e2] at e
      injection e with e
      rw [← e]
      exact h3)
  have HRS := Lib.hid hrs
  have HR1 := Lib.hid hr1
  have hcnt : (N + 1) * (allW D N).length ≤ 1048576 := Nat.le_trans (Nat.mul_le_mul (show N + 1 ≤ 6 by omega) (show (allW D N).length ≤ 1458 by omega)) (by omega)
  have KS := Lib.hid (show ∀ w', Below w.heap.size w w' → (w'.cell? ⟨p, 0, none⟩ = some (.int .i64 D) ∧ w'.cell? ⟨p, 1, none⟩ = some (.int .i64 N) ∧ w'.cell? ⟨p, 2, none⟩ = some (.slice aS (allW D N).length cS) ∧ w'.cell? ⟨px, 0, none⟩ = some (.int .i64 D) ∧ w'.cell? ⟨px, 1, none⟩ = some (.int .i64 N) ∧ w'.cell? ⟨px, 2, none⟩ = some (.slice a1 xs.length c1)) from fun w' hb => ⟨(hb.cell (p := ⟨p, 0, none⟩) hp).trans s0, (hb.cell (p := ⟨p, 1, none⟩) hp).trans s1, (hb.cell (p := ⟨p, 2, none⟩) hp).trans s2, (hb.cell (p := ⟨px, 0, none⟩) hpx).trans x0, (hb.cell (p := ⟨px, 1, none⟩) hpx).trans x1, (hb.cell (p := ⟨px, 2, none⟩) hpx).trans x2⟩)
  clear hs1 hv hrs hr1 h1 G1 s0 s1 s2 x0 x1 x2
  go_enter Tryz.func140, Tryz.ntmps140
  go_upto_region 1 with fail
  go_region_held3 (fun w' => w'.cell? ⟨p, 0, none⟩ = some (.int .i64 D) ∧ w'.cell? ⟨p, 1, none⟩ = some (.int .i64 N) ∧ w'.cell? ⟨p, 2, none⟩ = some (.slice aS (allW D N).length cS) ∧ w'.cell? ⟨px, 0, none⟩ = some (.int .i64 D) ∧ w'.cell? ⟨px, 1, none⟩ = some (.int .i64 N) ∧ w'.cell? ⟨px, 2, none⟩ = some (.slice a1 xs.length c1))
    (first | (exact KS.out _ (Below.drew (Below.refl _ _))) | (exact KS.out _ hb1) | (exact KS.out _ hb3) | fail)
    (first
      | (go_at_call 40; have hRd : Row w.drew a1 xs := HR1.out; (with_reducible refine (valuesOf_c D N a1 c1 xs hl1 HS1.out w.drew hRd).mono ?_); rintro e w1 ⟨m1, rfl, hm1, hb1', hM1⟩; have hb1 : Below w.heap.size w w1 := ⟨hb1'.os, hb1'.tape, hb1'.output, hb1'.size, hb1'.block⟩; have hbl1 := hM1.lt)
      | (go_at_call 104; have hPr := logarithm_c D N (by omega) aS cS (allW D N) HWl.out HWs.out HGu.out _ HG1.out m1 _ w1 (HRS.out.below hb1 (Nat.le_refl _)) (fun p e => Nat.lt_of_lt_of_le (HAa.out p e) hb1.size) hM1; rw [HV.out] at hPr; (with_reducible refine hPr.mono ?_); rintro e w3 ⟨m3, n3, rfl, hm3, hb3', hn3, hM3⟩; have hb3 := hb1.trans (hb3'.mono hb1.size))
      | fail)
  all_goals
    go_wp2
    rw [HV.out]
    go_ret
    exact ⟨m3, n3, rfl, Nat.le_trans hb1.size hm3, hb3, by omega, hM3⟩
set_option maxRecDepth 100000 in
set_option maxHeartbeats 4000000 in
theorem iLog_1 (L V : Int) (g1 : Nat) (xs : List Tm) (hl1 : xs.length ≤ 1048576) (hs1 : ∀ i (h : i < xs.length), (xs[i]).s.size ≤ maxLen) (h1 : serB L V xs = false) (w : World) (hb1 : g1 < w.heap.size) (t1 : TermsIn w g1 0 xs) :
    Calls Tryz.prog 100 #[.agg #[.int .i64 L, .int .i64 V, .slice (some ⟨g1, 0, none⟩) xs.length xs.length]] w (SerPost 0 0 [] 1 w) := by
  have HT1 := Lib.hid t1
  have HS1 := Lib.hid hs1
  have HH := Lib.hid h1
  clear t1 hs1 h1
  go_enter Tryz.func100, Tryz.ntmps100
  go_wp2_with fail
  have HWb := Lib.hid (below2 w (.cells #[.int .i64 L, .int .i64 V, .slice (some ⟨g1, 0, none⟩) xs.length xs.length] 26) (.cells #[.int .i64 0, .int .i64 0, .slice none 0 0] 26))
  refine (iConst_c L V g1 0 xs.length xs _ hl1 HS1.out (by simp; omega) (HT1.out.below HWb.out hb1) _ _ _ (coef_1 HH.out)).mono ?_
  rintro e w1 ⟨rfl, hb⟩
  have hT := (show T3 ((w.alloc (.cells #[.int .i64 L, .int .i64 V, .slice (some ⟨g1, 0, none⟩) xs.length xs.length] 26)).alloc (.cells #[.int .i64 0, .int .i64 0, .slice none 0 0] 26)) (w.heap.size + 1) (.int .i64 0) (.int .i64 0) (.slice none 0 0) from by have h := T3.new (w.alloc (.cells #[.int .i64 L, .int .i64 V, .slice (some ⟨g1, 0, none⟩) xs.length xs.length] 26)) 0 0 none 0 0 26; rw [World.size_alloc] at h; exact h).next hb
  have HW1 := Lib.hid (HWb.out.trans (hb.mono (by simp; omega)))
  obtain ⟨hz1, r0, r1, r2, z0, z1, z2⟩ := id hT
  clear hb hT
  go_wp2
  refine bodyPost_ret (v := .tuple #[.agg #[.int .i64 0, .int .i64 0, .slice none 0 0], .int .i64 1]) (by simp [results, Tryz.results100, go_sem, r0, r1, r2, hz1]) rfl (SerPost.err 1 rfl ?_)
  have hW := HW1.out
  go_grown
set_option maxRecDepth 100000 in
set_option maxHeartbeats 4000000 in
theorem iLog_2a (D N : Nat) (p q : Int) (g1 : Nat) (xs : List Tm) (hl1 : xs.length ≤ 1048576) (hs1 : ∀ i (h : i < xs.length), (xs[i]).s.size ≤ maxLen) (h1 : serB D N xs = true) (hv : valL [] xs = (p, q)) (hp : p ≠ 1) (w : World) (hb1 : g1 < w.heap.size) (t1 : TermsIn w g1 0 xs) :
    Calls Tryz.prog 100 #[.agg #[.int .i64 D, .int .i64 N, .slice (some ⟨g1, 0, none⟩) xs.length xs.length]] w (SerPost 0 0 [] 5 w) := by
  have HT1 := Lib.hid t1
  have HS1 := Lib.hid hs1
  have HH := Lib.hid h1
  have HVc := Lib.hid (show coefR D N xs { data := #[] } = (p, q, 0) from by rw [coef_3 h1 (const_ok h1)]; show ((valL [] xs).1, (valL [] xs).2, (0 : Int)) = _; rw [hv])
  have HQ1 := Lib.hid (show p = 0 → q = 1 from fun e => by have h := val_isF h1; rw [hv] at h; subst e; exact isF_zero h)
  have hpb : ¬ p = 1 := hp
  clear hp
  clear t1 hs1 h1 hv
  go_enter Tryz.func100, Tryz.ntmps100
  go_wp2_with fail
  have HWb := Lib.hid (below2 w (.cells #[.int .i64 D, .int .i64 N, .slice (some ⟨g1, 0, none⟩) xs.length xs.length] 26) (.cells #[.int .i64 0, .int .i64 0, .slice none 0 0] 26))
  refine (iConst_c D N g1 0 xs.length xs _ hl1 HS1.out (by simp; omega) (HT1.out.below HWb.out hb1) _ _ _ HVc.out).mono ?_
  rintro e w1 ⟨rfl, hb⟩
  have hT := (show T3 ((w.alloc (.cells #[.int .i64 D, .int .i64 N, .slice (some ⟨g1, 0, none⟩) xs.length xs.length] 26)).alloc (.cells #[.int .i64 0, .int .i64 0, .slice none 0 0] 26)) (w.heap.size + 1) (.int .i64 0) (.int .i64 0) (.slice none 0 0) from by have h := T3.new (w.alloc (.cells #[.int .i64 D, .int .i64 N, .slice (some ⟨g1, 0, none⟩) xs.length xs.length] 26)) 0 0 none 0 0 26; rw [World.size_alloc] at h; exact h).next hb
  have HW1 := Lib.hid (HWb.out.trans (hb.mono (by simp; omega)))
  have bc := bcellB hb
  have x0 : w1.cell? ⟨w.heap.size, 0, none⟩ = some (.int .i64 D) := (bc.1 _ _ (by simp; omega)).trans (by go_simp)
  have x1 : w1.cell? ⟨w.heap.size, 1, none⟩ = some (.int .i64 N) := (bc.1 _ _ (by simp; omega)).trans (by go_simp)
  have x2 : w1.cell? ⟨w.heap.size, 2, none⟩ = some (.slice (some ⟨g1, 0, none⟩) xs.length xs.length) := (bc.1 _ _ (by simp; omega)).trans (by go_simp)
  have HT := Lib.hid hT
  have hz1 := hT.1
  clear hb bc hT
  go_upto_region 4 with fail
  have e0 : (w1.alloc (.cells #[.int .i64 p, .int .i64 q] 58)).cell? ⟨w1.heap.size, 0, none⟩ = some (.int .i64 p) := by go_simp
  have e1 : (w1.alloc (.cells #[.int .i64 p, .int .i64 q] 58)).cell? ⟨w1.heap.size, 1, none⟩ = some (.int .i64 q) := by go_simp
  obtain ⟨w2, hw2⟩ : ∃ w2, w2 = w1.alloc (.cells #[.int .i64 p, .int .i64 q] 58) := ⟨_, rfl⟩
  have hzx : w1.heap.size < w2.heap.size := by rw [hw2]; simp
  rw [← hw2] at e0 e1
  have KC := Lib.hid (show ∀ w', Below w2.heap.size w2 w' → (w'.cell? ⟨w1.heap.size, 0, none⟩ = some (.int .i64 p) ∧ w'.cell? ⟨w1.heap.size, 1, none⟩ = some (.int .i64 q)) from fun w' hb => ⟨(hb.cell (p := ⟨w1.heap.size, 0, none⟩) hzx).trans e0, (hb.cell (p := ⟨w1.heap.size, 1, none⟩) hzx).trans e1⟩)
  have HW2 := Lib.hid hw2
  rw [← hw2]
  clear hw2
  go_region_held3 (fun w' => w'.cell? ⟨w1.heap.size, 0, none⟩ = some (.int .i64 p) ∧ w'.cell? ⟨w1.heap.size, 1, none⟩ = some (.int .i64 q))
    (first | (refine KC.out _ ?_; repeat' (first | with_reducible assumption | with_reducible exact Below.refl _ _ | (with_reducible refine Below.drew ?_) | (with_reducible refine Below.setCell ?_ (by (try dsimp only); omega) _) | (with_reducible refine Below.alloc ?_ (by (try simp only [World.size_setCell]); (try simp only [World.size_drew]); (try simp only [World.size_alloc]); (try simp only [World.size_setCell]); (try simp only [World.size_alloc]); omega) _))) | fail)
    (first
      | (go_at_call 117; (with_reducible refine (wholeFraction_c 1 _).mono ?_); rintro e w3 ⟨rfl, hb0⟩; have hb3 : Below w2.heap.size w2 w3 := ⟨hb0.os, hb0.tape, hb0.output, hb0.size, hb0.block⟩)
      | fail)
  all_goals rw [HW2.out] at hb3
  have hbx : Below w1.heap.size w1 w3 := below_step (below1 w1 (.cells #[.int .i64 p, .int .i64 q] 58)) hb3 (Nat.le_refl _)
  have HT3 := Lib.hid (HT.out.next hbx)
  have HW3 := Lib.hid (HW1.out.trans (hbx.mono HW1.out.size))
  have u0 := (hbx.cell (p := ⟨w.heap.size, 0, none⟩) (by show w.heap.size < _; omega)).trans x0
  have u1 := (hbx.cell (p := ⟨w.heap.size, 1, none⟩) (by show w.heap.size < _; omega)).trans x1
  have u2 := (hbx.cell (p := ⟨w.heap.size, 2, none⟩) (by show w.heap.size < _; omega)).trans x2
  have hz3 := hbx.size
  clear hb3 hbx x0 x1 x2
  obtain ⟨hzr, r0, r1, r2, z0, z1, z2⟩ := id HT3.out
  clear u0 u1 u2
  go_wp2
  refine bodyPost_ret (v := .tuple #[.agg #[.int .i64 0, .int .i64 0, .slice none 0 0], .int .i64 5]) (by simp [results, Tryz.results100, go_sem, r0, r1, r2]) rfl (SerPost.err 5 rfl ?_)
  have hW := HW3.out
  go_grown
set_option maxRecDepth 100000 in
set_option maxHeartbeats 4000000 in
theorem iLog_2b (D N : Nat) (p q : Int) (g1 : Nat) (xs : List Tm) (hl1 : xs.length ≤ 1048576) (hs1 : ∀ i (h : i < xs.length), (xs[i]).s.size ≤ maxLen) (h1 : serB D N xs = true) (hv : valL [] xs = (p, q)) (hp : p = 1 ∧ q ≠ 1) (w : World) (hb1 : g1 < w.heap.size) (t1 : TermsIn w g1 0 xs) :
    Calls Tryz.prog 100 #[.agg #[.int .i64 D, .int .i64 N, .slice (some ⟨g1, 0, none⟩) xs.length xs.length]] w (SerPost 0 0 [] 5 w) := by
  have HT1 := Lib.hid t1
  have HS1 := Lib.hid hs1
  have HH := Lib.hid h1
  have HVc := Lib.hid (show coefR D N xs { data := #[] } = (p, q, 0) from by rw [coef_3 h1 (const_ok h1)]; show ((valL [] xs).1, (valL [] xs).2, (0 : Int)) = _; rw [hv])
  have HQ1 := Lib.hid (show p = 0 → q = 1 from fun e => by have h := val_isF h1; rw [hv] at h; subst e; exact isF_zero h)
  obtain ⟨rfl, hpb⟩ := hp
  clear t1 hs1 h1 hv
  go_enter Tryz.func100, Tryz.ntmps100
  go_wp2_with fail
  have HWb := Lib.hid (below2 w (.cells #[.int .i64 D, .int .i64 N, .slice (some ⟨g1, 0, none⟩) xs.length xs.length] 26) (.cells #[.int .i64 0, .int .i64 0, .slice none 0 0] 26))
  refine (iConst_c D N g1 0 xs.length xs _ hl1 HS1.out (by simp; omega) (HT1.out.below HWb.out hb1) _ _ _ HVc.out).mono ?_
  rintro e w1 ⟨rfl, hb⟩
  have hT := (show T3 ((w.alloc (.cells #[.int .i64 D, .int .i64 N, .slice (some ⟨g1, 0, none⟩) xs.length xs.length] 26)).alloc (.cells #[.int .i64 0, .int .i64 0, .slice none 0 0] 26)) (w.heap.size + 1) (.int .i64 0) (.int .i64 0) (.slice none 0 0) from by have h := T3.new (w.alloc (.cells #[.int .i64 D, .int .i64 N, .slice (some ⟨g1, 0, none⟩) xs.length xs.length] 26)) 0 0 none 0 0 26; rw [World.size_alloc] at h; exact h).next hb
  have HW1 := Lib.hid (HWb.out.trans (hb.mono (by simp; omega)))
  have bc := bcellB hb
  have x0 : w1.cell? ⟨w.heap.size, 0, none⟩ = some (.int .i64 D) := (bc.1 _ _ (by simp; omega)).trans (by go_simp)
  have x1 : w1.cell? ⟨w.heap.size, 1, none⟩ = some (.int .i64 N) := (bc.1 _ _ (by simp; omega)).trans (by go_simp)
  have x2 : w1.cell? ⟨w.heap.size, 2, none⟩ = some (.slice (some ⟨g1, 0, none⟩) xs.length xs.length) := (bc.1 _ _ (by simp; omega)).trans (by go_simp)
  have HT := Lib.hid hT
  have hz1 := hT.1
  clear hb bc hT
  go_upto_region 4 with fail
  have e0 : (w1.alloc (.cells #[.int .i64 1, .int .i64 q] 58)).cell? ⟨w1.heap.size, 0, none⟩ = some (.int .i64 1) := by go_simp
  have e1 : (w1.alloc (.cells #[.int .i64 1, .int .i64 q] 58)).cell? ⟨w1.heap.size, 1, none⟩ = some (.int .i64 q) := by go_simp
  obtain ⟨w2, hw2⟩ : ∃ w2, w2 = w1.alloc (.cells #[.int .i64 1, .int .i64 q] 58) := ⟨_, rfl⟩
  have hzx : w1.heap.size < w2.heap.size := by rw [hw2]; simp
  rw [← hw2] at e0 e1
  have KC := Lib.hid (show ∀ w', Below w2.heap.size w2 w' → (w'.cell? ⟨w1.heap.size, 0, none⟩ = some (.int .i64 1) ∧ w'.cell? ⟨w1.heap.size, 1, none⟩ = some (.int .i64 q)) from fun w' hb => ⟨(hb.cell (p := ⟨w1.heap.size, 0, none⟩) hzx).trans e0, (hb.cell (p := ⟨w1.heap.size, 1, none⟩) hzx).trans e1⟩)
  have HW2 := Lib.hid hw2
  rw [← hw2]
  clear hw2
  go_region_held3 (fun w' => w'.cell? ⟨w1.heap.size, 0, none⟩ = some (.int .i64 1) ∧ w'.cell? ⟨w1.heap.size, 1, none⟩ = some (.int .i64 q))
    (first | (refine KC.out _ ?_; repeat' (first | with_reducible assumption | with_reducible exact Below.refl _ _ | (with_reducible refine Below.drew ?_) | (with_reducible refine Below.setCell ?_ (by (try dsimp only); omega) _) | (with_reducible refine Below.alloc ?_ (by (try simp only [World.size_setCell]); (try simp only [World.size_drew]); (try simp only [World.size_alloc]); (try simp only [World.size_setCell]); (try simp only [World.size_alloc]); omega) _))) | fail)
    (first
      | (go_at_call 117; (with_reducible refine (wholeFraction_c 1 _).mono ?_); rintro e w3 ⟨rfl, hb0⟩; have hb3 : Below w2.heap.size w2 w3 := ⟨hb0.os, hb0.tape, hb0.output, hb0.size, hb0.block⟩)
      | fail)
  all_goals rw [HW2.out] at hb3
  have hbx : Below w1.heap.size w1 w3 := below_step (below1 w1 (.cells #[.int .i64 1, .int .i64 q] 58)) hb3 (Nat.le_refl _)
  have HT3 := Lib.hid (HT.out.next hbx)
  have HW3 := Lib.hid (HW1.out.trans (hbx.mono HW1.out.size))
  have u0 := (hbx.cell (p := ⟨w.heap.size, 0, none⟩) (by show w.heap.size < _; omega)).trans x0
  have u1 := (hbx.cell (p := ⟨w.heap.size, 1, none⟩) (by show w.heap.size < _; omega)).trans x1
  have u2 := (hbx.cell (p := ⟨w.heap.size, 2, none⟩) (by show w.heap.size < _; omega)).trans x2
  have hz3 := hbx.size
  clear hb3 hbx x0 x1 x2
  obtain ⟨hzr, r0, r1, r2, z0, z1, z2⟩ := id HT3.out
  clear u0 u1 u2
  go_wp2
  refine bodyPost_ret (v := .tuple #[.agg #[.int .i64 0, .int .i64 0, .slice none 0 0], .int .i64 5]) (by simp [results, Tryz.results100, go_sem, r0, r1, r2]) rfl (SerPost.err 5 rfl ?_)
  have hW := HW3.out
  go_grown
set_option maxRecDepth 100000 in
set_option maxHeartbeats 4000000 in
theorem iLog_3no {cap : Nat} (D N : Nat) (p q : Int) (g1 : Nat) (xs : List Tm) (hl1 : xs.length ≤ 1048576) (hs1 : ∀ i (h : i < xs.length), (xs[i]).s.size ≤ maxLen) (h1 : serB D N xs = true) (hv : valL [] xs = (p, q)) (hp : p = 1 ∧ q = 1) (hv' : logV (valV xs xs.length) (allW D N) N = none) (w : World) (hb1 : g1 < w.heap.size) (t1 : TermsIn w g1 0 xs) :
    Calls Tryz.prog 100 #[.agg #[.int .i64 D, .int .i64 N, .slice (some ⟨g1, 0, none⟩) xs.length cap]] w (SerPost 0 0 [] 3 w) := by
  have HT1 := Lib.hid t1
  have HS1 := Lib.hid hs1
  have HH := Lib.hid h1
  have HVc := Lib.hid (show coefR D N xs { data := #[] } = (p, q, 0) from by rw [coef_3 h1 (const_ok h1)]; show ((valL [] xs).1, (valL [] xs).2, (0 : Int)) = _; rw [hv])
  have HQ1 := Lib.hid (show p = 0 → q = 1 from fun e => by have h := val_isF h1; rw [hv] at h; subst e; exact isF_zero h)
  obtain ⟨rfl, rfl⟩ := hp
  have hsh : shapeB (D : Int) (N : Int) = true := by unfold serB at h1; rw [Bool.and_eq_true] at h1; exact h1.1
  have hDN := shape_out hsh
  have hmf : ∀ (fn : Fn) (first cap : Array Value) (w : World), (Instr.makeFunc fn first cap).run Tryz.prog w = .ok (.func fn first cap) w := fun _ _ _ _ => rfl
  have hfew := allW_few (D := D) (by omega) (n := N) (by omega)
  have HWl := Lib.hid (show (allW D N).length ≤ 1048576 by omega)
  have HWs := Lib.hid (show ∀ s ∈ allW D N, s.size ≤ 1048576 from fun s hs => by have := allW_size D N s hs; omega)
  have HV := Lib.hid hv'
  clear t1 hs1 h1 hv hv' hsh
  go_enter Tryz.func100, Tryz.ntmps100
  go_wp2_with fail
  have HWb := Lib.hid (below2 w (.cells #[.int .i64 D, .int .i64 N, .slice (some ⟨g1, 0, none⟩) xs.length cap] 26) (.cells #[.int .i64 0, .int .i64 0, .slice none 0 0] 26))
  refine (iConst_c D N g1 0 cap xs _ hl1 HS1.out (by simp; omega) (HT1.out.below HWb.out hb1) _ _ _ HVc.out).mono ?_
  rintro e w1 ⟨rfl, hb⟩
  have hT := (show T3 ((w.alloc (.cells #[.int .i64 D, .int .i64 N, .slice (some ⟨g1, 0, none⟩) xs.length cap] 26)).alloc (.cells #[.int .i64 0, .int .i64 0, .slice none 0 0] 26)) (w.heap.size + 1) (.int .i64 0) (.int .i64 0) (.slice none 0 0) from by have h := T3.new (w.alloc (.cells #[.int .i64 D, .int .i64 N, .slice (some ⟨g1, 0, none⟩) xs.length cap] 26)) 0 0 none 0 0 26; rw [World.size_alloc] at h; exact h).next hb
  have HW1 := Lib.hid (HWb.out.trans (hb.mono (by simp; omega)))
  have bc := bcellB hb
  have x0 : w1.cell? ⟨w.heap.size, 0, none⟩ = some (.int .i64 D) := (bc.1 _ _ (by simp; omega)).trans (by go_simp)
  have x1 : w1.cell? ⟨w.heap.size, 1, none⟩ = some (.int .i64 N) := (bc.1 _ _ (by simp; omega)).trans (by go_simp)
  have x2 : w1.cell? ⟨w.heap.size, 2, none⟩ = some (.slice (some ⟨g1, 0, none⟩) xs.length cap) := (bc.1 _ _ (by simp; omega)).trans (by go_simp)
  have HT := Lib.hid hT
  have hz1 := hT.1
  clear hb bc hT
  go_upto_region 4 with fail
  have e0 : (w1.alloc (.cells #[.int .i64 1, .int .i64 1] 58)).cell? ⟨w1.heap.size, 0, none⟩ = some (.int .i64 1) := by go_simp
  have e1 : (w1.alloc (.cells #[.int .i64 1, .int .i64 1] 58)).cell? ⟨w1.heap.size, 1, none⟩ = some (.int .i64 1) := by go_simp
  obtain ⟨w2, hw2⟩ : ∃ w2, w2 = w1.alloc (.cells #[.int .i64 1, .int .i64 1] 58) := ⟨_, rfl⟩
  have hzx : w1.heap.size < w2.heap.size := by rw [hw2]; simp
  rw [← hw2] at e0 e1
  have KC := Lib.hid (show ∀ w', Below w2.heap.size w2 w' → (w'.cell? ⟨w1.heap.size, 0, none⟩ = some (.int .i64 1) ∧ w'.cell? ⟨w1.heap.size, 1, none⟩ = some (.int .i64 1)) from fun w' hb => ⟨(hb.cell (p := ⟨w1.heap.size, 0, none⟩) hzx).trans e0, (hb.cell (p := ⟨w1.heap.size, 1, none⟩) hzx).trans e1⟩)
  have HW2 := Lib.hid hw2
  rw [← hw2]
  clear hw2
  go_region_held3 (fun w' => w'.cell? ⟨w1.heap.size, 0, none⟩ = some (.int .i64 1) ∧ w'.cell? ⟨w1.heap.size, 1, none⟩ = some (.int .i64 1))
    (first | (refine KC.out _ ?_; repeat' (first | with_reducible assumption | with_reducible exact Below.refl _ _ | (with_reducible refine Below.drew ?_) | (with_reducible refine Below.setCell ?_ (by (try dsimp only); omega) _) | (with_reducible refine Below.alloc ?_ (by (try simp only [World.size_setCell]); (try simp only [World.size_drew]); (try simp only [World.size_alloc]); (try simp only [World.size_setCell]); (try simp only [World.size_alloc]); omega) _))) | fail)
    (first
      | (go_at_call 117; (with_reducible refine (wholeFraction_c 1 _).mono ?_); rintro e w3 ⟨rfl, hb0⟩; have hb3 : Below w2.heap.size w2 w3 := ⟨hb0.os, hb0.tape, hb0.output, hb0.size, hb0.block⟩)
      | fail)
  all_goals rw [HW2.out] at hb3
  have hbx : Below w1.heap.size w1 w3 := below_step (below1 w1 (.cells #[.int .i64 1, .int .i64 1] 58)) hb3 (Nat.le_refl _)
  have HT3 := Lib.hid (HT.out.next hbx)
  have HW3 := Lib.hid (HW1.out.trans (hbx.mono HW1.out.size))
  have u0 := (hbx.cell (p := ⟨w.heap.size, 0, none⟩) (by show w.heap.size < _; omega)).trans x0
  have u1 := (hbx.cell (p := ⟨w.heap.size, 1, none⟩) (by show w.heap.size < _; omega)).trans x1
  have u2 := (hbx.cell (p := ⟨w.heap.size, 2, none⟩) (by show w.heap.size < _; omega)).trans x2
  have hz3 := hbx.size
  clear hb3 hbx x0 x1 x2
  go_wp2_with fail
  refine (spaceOf_c D N (by omega) (by omega) _).mono ?_
  rintro e w4 ⟨aS, cS, rfl, hb4, hN4⟩
  have HW4 := Lib.hid (HW3.out.trans (hb4.mono HW3.out.size))
  have HT4 := Lib.hid (HT3.out.next hb4)
  have hz4 := hb4.size
  have v0 := (hb4.cell (p := ⟨w.heap.size, 0, none⟩) (by show w.heap.size < _; omega)).trans u0
  have v1 := (hb4.cell (p := ⟨w.heap.size, 1, none⟩) (by show w.heap.size < _; omega)).trans u1
  have v2 := (hb4.cell (p := ⟨w.heap.size, 2, none⟩) (by show w.heap.size < _; omega)).trans u2
  have hba := below1 w4 (.cells #[.int .i64 D, .int .i64 N, .slice aS (allW D N).length cS] 64)
  have HW5 := Lib.hid (HW4.out.trans (hba.mono HW4.out.size))
  have HT5 := Lib.hid (HT4.out.next hba)
  have Kx0 := (hba.cell (p := ⟨w.heap.size, 0, none⟩) (by show w.heap.size < _; omega)).trans v0
  have Kx1 := (hba.cell (p := ⟨w.heap.size, 1, none⟩) (by show w.heap.size < _; omega)).trans v1
  have Kx2 := (hba.cell (p := ⟨w.heap.size, 2, none⟩) (by show w.heap.size < _; omega)).trans v2
  have Ks0 : (w4.alloc (.cells #[.int .i64 D, .int .i64 N, .slice aS (allW D N).length cS] 64)).cell? ⟨w4.heap.size, 0, none⟩ = some (.int .i64 D) := by go_simp
  have Ks1 : (w4.alloc (.cells #[.int .i64 D, .int .i64 N, .slice aS (allW D N).length cS] 64)).cell? ⟨w4.heap.size, 1, none⟩ = some (.int .i64 N) := by go_simp
  have Ks2 : (w4.alloc (.cells #[.int .i64 D, .int .i64 N, .slice aS (allW D N).length cS] 64)).cell? ⟨w4.heap.size, 2, none⟩ = some (.slice aS (allW D N).length cS) := by go_simp
  have HNs := Lib.hid (hN4.row.below hba (Nat.le_refl _))
  have hzz : (w4.alloc (.cells #[.int .i64 D, .int .i64 N, .slice aS (allW D N).length cS] 64)).heap.size = w4.heap.size + 1 := by simp
  have HDoor := Lib.hid (door_no D N aS (allW D N).length cS 140 #[.pointer (some ⟨w4.heap.size, 0, none⟩), .pointer (some ⟨w.heap.size, 0, none⟩)] (fun _ => by kernel_rfl) (w4.alloc (.cells #[.int .i64 D, .int .i64 N, .slice aS (allW D N).length cS] 64)) (fun W hW => by have hk := logWork_no D N (by omega) (by omega) w4.heap.size w.heap.size aS (some ⟨g1, 0, none⟩) cS cap xs HH.out hl1 HS1.out HV.out W (by have := hW.size; omega) (by have := hW.size; omega) ((hW.cell (p := ⟨w4.heap.size, 0, none⟩) (by show w4.heap.size < _; omega)).trans Ks0) ((hW.cell (p := ⟨w4.heap.size, 1, none⟩) (by show w4.heap.size < _; omega)).trans Ks1) ((hW.cell (p := ⟨w4.heap.size, 2, none⟩) (by show w4.heap.size < _; omega)).trans Ks2) ((hW.cell (p := ⟨w.heap.size, 0, none⟩) (by show w.heap.size < _; omega)).trans Kx0) ((hW.cell (p := ⟨w.heap.size, 1, none⟩) (by show w.heap.size < _; omega)).trans Kx1) ((hW.cell (p := ⟨w.heap.size, 2, none⟩) (by show w.heap.size < _; omega)).trans Kx2) (HNs.out.below hW (Nat.le_refl _)) (.inr ⟨g1, 0, rfl, by have := hW.size; omega, HT1.out.below (HW5.out.trans (hW.mono (by omega))) hb1⟩); rw [HV.out] at hk; exact hk))
  clear hb4 hN4 u0 u1 u2 v0 v1 v2 Kx0 Kx1 Kx2 Ks0 Ks1 Ks2 hba
  go_wp2_with fail
  refine HDoor.out.mono ?_
  rintro e w6 ⟨rfl, hb6⟩
  have hT6 := HT5.out.next hb6
  have HW6 := Lib.hid (HW5.out.trans (hb6.mono HW5.out.size))
  obtain ⟨hzr, r0, r1, r2, z0, z1, z2⟩ := id hT6
  clear hb6 hT6
  go_wp2
  refine bodyPost_ret (v := .tuple #[.agg #[.int .i64 0, .int .i64 0, .slice none 0 0], .int .i64 3]) (by simp [results, Tryz.results100, go_sem, r0, r1, r2]) rfl (SerPost.err 3 rfl ?_)
  have hW := HW6.out
  go_grown
set_option maxRecDepth 100000 in
set_option maxHeartbeats 4000000 in
theorem iLog_3yes {cap : Nat} (D N : Nat) (p q : Int) (g1 : Nat) (xs : List Tm) (hl1 : xs.length ≤ 1048576) (hs1 : ∀ i (h : i < xs.length), (xs[i]).s.size ≤ maxLen) (h1 : serB D N xs = true) (hv : valL [] xs = (p, q)) (hp : p = 1 ∧ q = 1) (h : VF) (hv' : logV (valV xs xs.length) (allW D N) N = some h) (w : World) (hb1 : g1 < w.heap.size) (t1 : TermsIn w g1 0 xs) :
    Calls Tryz.prog 100 #[.agg #[.int .i64 D, .int .i64 N, .slice (some ⟨g1, 0, none⟩) xs.length cap]] w (SerPost D N (termsOf h (allW D N)) 0 w) := by
  have HT1 := Lib.hid t1
  have HS1 := Lib.hid hs1
  have HH := Lib.hid h1
  have HVc := Lib.hid (show coefR D N xs { data := #[] } = (p, q, 0) from by rw [coef_3 h1 (const_ok h1)]; show ((valL [] xs).1, (valL [] xs).2, (0 : Int)) = _; rw [hv])
  have HQ1 := Lib.hid (show p = 0 → q = 1 from fun e => by have h := val_isF h1; rw [hv] at h; subst e; exact isF_zero h)
  obtain ⟨rfl, rfl⟩ := hp
  have hsh : shapeB (D : Int) (N : Int) = true := by unfold serB at h1; rw [Bool.and_eq_true] at h1; exact h1.1
  have hDN := shape_out hsh
  have hmf : ∀ (fn : Fn) (first cap : Array Value) (w : World), (Instr.makeFunc fn first cap).run Tryz.prog w = .ok (.func fn first cap) w := fun _ _ _ _ => rfl
  have hfew := allW_few (D := D) (by omega) (n := N) (by omega)
  have HWl := Lib.hid (show (allW D N).length ≤ 1048576 by omega)
  have HWs := Lib.hid (show ∀ s ∈ allW D N, s.size ≤ 1048576 from fun s hs => by have := allW_size D N s hs; omega)
  have HV := Lib.hid hv'
  clear t1 hs1 h1 hv hv' hsh
  go_enter Tryz.func100, Tryz.ntmps100
  go_wp2_with fail
  have HWb := Lib.hid (below2 w (.cells #[.int .i64 D, .int .i64 N, .slice (some ⟨g1, 0, none⟩) xs.length cap] 26) (.cells #[.int .i64 0, .int .i64 0, .slice none 0 0] 26))
  refine (iConst_c D N g1 0 cap xs _ hl1 HS1.out (by simp; omega) (HT1.out.below HWb.out hb1) _ _ _ HVc.out).mono ?_
  rintro e w1 ⟨rfl, hb⟩
  have hT := (show T3 ((w.alloc (.cells #[.int .i64 D, .int .i64 N, .slice (some ⟨g1, 0, none⟩) xs.length cap] 26)).alloc (.cells #[.int .i64 0, .int .i64 0, .slice none 0 0] 26)) (w.heap.size + 1) (.int .i64 0) (.int .i64 0) (.slice none 0 0) from by have h := T3.new (w.alloc (.cells #[.int .i64 D, .int .i64 N, .slice (some ⟨g1, 0, none⟩) xs.length cap] 26)) 0 0 none 0 0 26; rw [World.size_alloc] at h; exact h).next hb
  have HW1 := Lib.hid (HWb.out.trans (hb.mono (by simp; omega)))
  have bc := bcellB hb
  have x0 : w1.cell? ⟨w.heap.size, 0, none⟩ = some (.int .i64 D) := (bc.1 _ _ (by simp; omega)).trans (by go_simp)
  have x1 : w1.cell? ⟨w.heap.size, 1, none⟩ = some (.int .i64 N) := (bc.1 _ _ (by simp; omega)).trans (by go_simp)
  have x2 : w1.cell? ⟨w.heap.size, 2, none⟩ = some (.slice (some ⟨g1, 0, none⟩) xs.length cap) := (bc.1 _ _ (by simp; omega)).trans (by go_simp)
  have HT := Lib.hid hT
  have hz1 := hT.1
  clear hb bc hT
  go_upto_region 4 with fail
  have e0 : (w1.alloc (.cells #[.int .i64 1, .int .i64 1] 58)).cell? ⟨w1.heap.size, 0, none⟩ = some (.int .i64 1) := by go_simp
  have e1 : (w1.alloc (.cells #[.int .i64 1, .int .i64 1] 58)).cell? ⟨w1.heap.size, 1, none⟩ = some (.int .i64 1) := by go_simp
  obtain ⟨w2, hw2⟩ : ∃ w2, w2 = w1.alloc (.cells #[.int .i64 1, .int .i64 1] 58) := ⟨_, rfl⟩
  have hzx : w1.heap.size < w2.heap.size := by rw [hw2]; simp
  rw [← hw2] at e0 e1
  have KC := Lib.hid (show ∀ w', Below w2.heap.size w2 w' → (w'.cell? ⟨w1.heap.size, 0, none⟩ = some (.int .i64 1) ∧ w'.cell? ⟨w1.heap.size, 1, none⟩ = some (.int .i64 1)) from fun w' hb => ⟨(hb.cell (p := ⟨w1.heap.size, 0, none⟩) hzx).trans e0, (hb.cell (p := ⟨w1.heap.size, 1, none⟩) hzx).trans e1⟩)
  have HW2 := Lib.hid hw2
  rw [← hw2]
  clear hw2
  go_region_held3 (fun w' => w'.cell? ⟨w1.heap.size, 0, none⟩ = some (.int .i64 1) ∧ w'.cell? ⟨w1.heap.size, 1, none⟩ = some (.int .i64 1))
    (first | (refine KC.out _ ?_; repeat' (first | with_reducible assumption | with_reducible exact Below.refl _ _ | (with_reducible refine Below.drew ?_) | (with_reducible refine Below.setCell ?_ (by (try dsimp only); omega) _) | (with_reducible refine Below.alloc ?_ (by (try simp only [World.size_setCell]); (try simp only [World.size_drew]); (try simp only [World.size_alloc]); (try simp only [World.size_setCell]); (try simp only [World.size_alloc]); omega) _))) | fail)
    (first
      | (go_at_call 117; (with_reducible refine (wholeFraction_c 1 _).mono ?_); rintro e w3 ⟨rfl, hb0⟩; have hb3 : Below w2.heap.size w2 w3 := ⟨hb0.os, hb0.tape, hb0.output, hb0.size, hb0.block⟩)
      | fail)
  all_goals rw [HW2.out] at hb3
  have hbx : Below w1.heap.size w1 w3 := below_step (below1 w1 (.cells #[.int .i64 1, .int .i64 1] 58)) hb3 (Nat.le_refl _)
  have HT3 := Lib.hid (HT.out.next hbx)
  have HW3 := Lib.hid (HW1.out.trans (hbx.mono HW1.out.size))
  have u0 := (hbx.cell (p := ⟨w.heap.size, 0, none⟩) (by show w.heap.size < _; omega)).trans x0
  have u1 := (hbx.cell (p := ⟨w.heap.size, 1, none⟩) (by show w.heap.size < _; omega)).trans x1
  have u2 := (hbx.cell (p := ⟨w.heap.size, 2, none⟩) (by show w.heap.size < _; omega)).trans x2
  have hz3 := hbx.size
  clear hb3 hbx x0 x1 x2
  go_wp2_with fail
  refine (spaceOf_c D N (by omega) (by omega) _).mono ?_
  rintro e w4 ⟨aS, cS, rfl, hb4, hN4⟩
  have HW4 := Lib.hid (HW3.out.trans (hb4.mono HW3.out.size))
  have HT4 := Lib.hid (HT3.out.next hb4)
  have hz4 := hb4.size
  have v0 := (hb4.cell (p := ⟨w.heap.size, 0, none⟩) (by show w.heap.size < _; omega)).trans u0
  have v1 := (hb4.cell (p := ⟨w.heap.size, 1, none⟩) (by show w.heap.size < _; omega)).trans u1
  have v2 := (hb4.cell (p := ⟨w.heap.size, 2, none⟩) (by show w.heap.size < _; omega)).trans u2
  have hba := below1 w4 (.cells #[.int .i64 D, .int .i64 N, .slice aS (allW D N).length cS] 64)
  have HW5 := Lib.hid (HW4.out.trans (hba.mono HW4.out.size))
  have HT5 := Lib.hid (HT4.out.next hba)
  have Kx0 := (hba.cell (p := ⟨w.heap.size, 0, none⟩) (by show w.heap.size < _; omega)).trans v0
  have Kx1 := (hba.cell (p := ⟨w.heap.size, 1, none⟩) (by show w.heap.size < _; omega)).trans v1
  have Kx2 := (hba.cell (p := ⟨w.heap.size, 2, none⟩) (by show w.heap.size < _; omega)).trans v2
  have Ks0 : (w4.alloc (.cells #[.int .i64 D, .int .i64 N, .slice aS (allW D N).length cS] 64)).cell? ⟨w4.heap.size, 0, none⟩ = some (.int .i64 D) := by go_simp
  have Ks1 : (w4.alloc (.cells #[.int .i64 D, .int .i64 N, .slice aS (allW D N).length cS] 64)).cell? ⟨w4.heap.size, 1, none⟩ = some (.int .i64 N) := by go_simp
  have Ks2 : (w4.alloc (.cells #[.int .i64 D, .int .i64 N, .slice aS (allW D N).length cS] 64)).cell? ⟨w4.heap.size, 2, none⟩ = some (.slice aS (allW D N).length cS) := by go_simp
  have HNs := Lib.hid (hN4.row.below hba (Nat.le_refl _))
  have hzz : (w4.alloc (.cells #[.int .i64 D, .int .i64 N, .slice aS (allW D N).length cS] 64)).heap.size = w4.heap.size + 1 := by simp
  have HDoor := Lib.hid (door_yes D N aS cS (allW D N) HWl.out HWs.out h 140 #[.pointer (some ⟨w4.heap.size, 0, none⟩), .pointer (some ⟨w.heap.size, 0, none⟩)] (fun _ => by kernel_rfl) (w4.alloc (.cells #[.int .i64 D, .int .i64 N, .slice aS (allW D N).length cS] 64)) (fun W hW => by have hk := logWork_yes D N (by omega) (by omega) w4.heap.size w.heap.size aS (some ⟨g1, 0, none⟩) cS cap xs HH.out hl1 HS1.out h HV.out W (by have := hW.size; omega) (by have := hW.size; omega) ((hW.cell (p := ⟨w4.heap.size, 0, none⟩) (by show w4.heap.size < _; omega)).trans Ks0) ((hW.cell (p := ⟨w4.heap.size, 1, none⟩) (by show w4.heap.size < _; omega)).trans Ks1) ((hW.cell (p := ⟨w4.heap.size, 2, none⟩) (by show w4.heap.size < _; omega)).trans Ks2) ((hW.cell (p := ⟨w.heap.size, 0, none⟩) (by show w.heap.size < _; omega)).trans Kx0) ((hW.cell (p := ⟨w.heap.size, 1, none⟩) (by show w.heap.size < _; omega)).trans Kx1) ((hW.cell (p := ⟨w.heap.size, 2, none⟩) (by show w.heap.size < _; omega)).trans Kx2) (HNs.out.below hW (Nat.le_refl _)) (.inr ⟨g1, 0, rfl, by have := hW.size; omega, HT1.out.below (HW5.out.trans (hW.mono (by omega))) hb1⟩); rw [HV.out] at hk; exact hk) HNs.out)
  clear hb4 hN4 u0 u1 u2 v0 v1 v2 Kx0 Kx1 Kx2 Ks0 Ks1 Ks2 hba
  go_wp2_with fail
  refine HDoor.out.mono ?_
  rintro e w6 ⟨a6, c6, rfl, hb6, hN6⟩
  have hT6 := HT5.out.next hb6
  have HW6 := Lib.hid (HW5.out.trans (hb6.mono HW5.out.size))
  have HN6 := Lib.hid hN6
  have hzw : w.heap.size + 1 < w4.heap.size := HT4.out.1
  obtain ⟨hzr, r0, r1, r2, z0, z1, z2⟩ := id hT6
  clear hb6 hT6 hN6
  go_wp2
  refine bodyPost_ret (v := .tuple #[.agg #[.int .i64 D, .int .i64 N, .slice a6 (termsOf h (allW D N)).length c6], .int .i64 0]) (by simp [results, Tryz.results100, go_sem, r0, r1, r2]) rfl ⟨a6, c6, rfl, ?_, ?_⟩
  · have hW := HW6.out
    go_grown
  · exact (((HN6.out.far1s (by omega)).far1s (by omega)).far1s (by omega)).mono (by omega) (by simp)
end Go.Proofs.YtgcjpenlcokgjaaGreatDoor
