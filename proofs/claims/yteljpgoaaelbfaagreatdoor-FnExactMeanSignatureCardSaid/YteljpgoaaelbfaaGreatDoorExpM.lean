/-
  The contract of the model's sum of numbers times powers.
  Contracts of the model's exponential, of its logarithm, and of what it takes the unit from.
-/
import Derived.Test.YteljpgoaaelbfaaGreatDoorTri
import Derived.Test.YteljpgoaaelbfaaGreatDoorSopF
import Derived.Deep.RegionHeld3
namespace Go.Proofs.YteljpgoaaelbfaaGreatDoor
open Go.RowKit

/-- two series in boxes of their own: the unit and nothing -/
def TwoSer (D N : Int) (wb : World) (v v' : Value) (wy : World) : Prop :=
  ∃ (gA gB g2 : Nat) (a : Option Addr) (c : Nat), v = .pointer (some ⟨gA, 0, none⟩) ∧ v' = .pointer (some ⟨gB, 0, none⟩) ∧ gA ≠ gB ∧ wb.heap.size ≤ gA ∧ wb.heap.size ≤ gB ∧ Below wb.heap.size wb wy ∧
    T3 wy gA (.int .i64 D) (.int .i64 N) (.slice a 1 c) ∧ T3 wy gB (.int .i64 D) (.int .i64 N) (.slice (some ⟨g2, 0, none⟩) 0 0) ∧ RowF wb.heap.size gA gB wy a [⟨ByteArray.empty, 1, 1⟩]

theorem termsOf_noneF (ws : List ByteArray) : termsOf noneF ws = [] := by
  unfold termsOf noneF
  simp
theorem termsOf_bd {ws : List ByteArray} {f : VF} (h : GoodV ws f) : ∀ t ∈ termsOf f ws, bdT t := fun t ht => by
  have hg := h _ _ (termsOf_iff.1 ht).2
  have := isF_abs hg.2.1
  exact ⟨this.1, this.2.1⟩

set_option maxRecDepth 100000 in
set_option maxHeartbeats 1600000 in
theorem l02Sum_c (D N : Nat) (hD : 1 ≤ D ∧ D ≤ 3) (hN : N ≤ 5) (a1 : Option Addr) (cap1 : Nat) (y : VF) (hy : GoodV (allW D N) y) (xs : List Tm) (hx : termsOf y (allW D N) = xs) (f : Nat → Int × Int) (m : Nat) (hm : m ≤ 6) (hf : ∀ k, k < m → isF (f k).1 (f k).2 = true) (hz : ∀ k, 0 < k → k < m → (f k).1 ≠ 0) (h0 : (f 0).1 = 0 → f 0 = (0, 1)) (aN : Option Addr) (cN : Nat) (w : World) (hr1 : Row w a1 xs) (hNr : NewR 0 w.heap.size w aN (numL f m)) :
    Calls Tryz.prog 42 #[.agg #[.int .i64 D, .int .i64 N, .slice a1 xs.length cap1], .slice aN m cN] w (SumPost D N ((sumK y (allW D N) f m).map fun h => termsOf h (allW D N)) w) := by
  have hW := allW_asc hD.2 N
  have hfew := allW_few (D := D) hD.2 (n := N) hN
  have hl1 : xs.length ≤ 1048576 := by rw [← hx]; have := termsOf_len y (allW D N); omega
  have hu := good_unit D N
  have HUt := Lib.hid (unit_terms D N)
  obtain ⟨o, ho⟩ : ∃ o, sumK y (allW D N) f m = o := ⟨_, rfl⟩
  rw [ho]
  have HOut := Lib.hid ho
  have HR1 := Lib.hid hr1
  have HNr := Lib.hid hNr
  have HFr := Lib.hid hf
  have HZr := Lib.hid hz
  have H0r := Lib.hid h0
  have HU := Lib.hid hu
  have HTm := Lib.hid (fun aP cP p (hp : GoodV (allW D N) p) W r1 r2 => l02Times_c D N hD hN aP a1 cP cap1 p y hp hy (termsOf p (allW D N)) xs rfl hx (by have := termsOf_len p (allW D N); omega) hl1 hW W r1 r2)
  have HAd := Lib.hid (fun (s p : VF) (hs : GoodV (allW D N) s) (hp : GoodV (allW D N) p) (x z : Int) (hxz : isF x z = true) aO aP cO cP W t1 t2 => (l02Add_c D N D N x z (isF_abs hxz).1 (isF_abs hxz).2.1 aO aP cO cP (termsOf s (allW D N)) (termsOf p (allW D N)) (by have := termsOf_len s (allW D N); omega) (by have := termsOf_len p (allW D N); omega) (termsOf_bd hs) (termsOf_bd hp) W t1 t2))
  have HPut := Lib.hid (fun (s p : VF) (x z : Int) => addK_put hW (g := p) (a := x) (b := z) (ws := allW D N) (fun _ h => h) s)
  clear hr1 hNr hf hz h0 ho hu hy hx hW hfew
  go_enter Tryz.func42, Tryz.ntmps42
  go_upto_region 1 with fail
  have x0 : ((w.alloc (.cells #[.int .i64 D, .int .i64 N, .slice a1 xs.length cap1] 26)).alloc (.cells #[.int .i64 0, .int .i64 0, .slice none 0 0] 26)).cell? ⟨w.heap.size, 0, none⟩ = some (.int .i64 D) := by go_simp
  have x1 : ((w.alloc (.cells #[.int .i64 D, .int .i64 N, .slice a1 xs.length cap1] 26)).alloc (.cells #[.int .i64 0, .int .i64 0, .slice none 0 0] 26)).cell? ⟨w.heap.size, 1, none⟩ = some (.int .i64 N) := by go_simp
  have x2 : ((w.alloc (.cells #[.int .i64 D, .int .i64 N, .slice a1 xs.length cap1] 26)).alloc (.cells #[.int .i64 0, .int .i64 0, .slice none 0 0] 26)).cell? ⟨w.heap.size, 2, none⟩ = some (.slice a1 xs.length cap1) := by go_simp
  have HWb := Lib.hid (below2 w (.cells #[.int .i64 D, .int .i64 N, .slice a1 xs.length cap1] 26) (.cells #[.int .i64 0, .int .i64 0, .slice none 0 0] 26))
  have HT4 := Lib.hid (show T3 ((w.alloc (.cells #[.int .i64 D, .int .i64 N, .slice a1 xs.length cap1] 26)).alloc (.cells #[.int .i64 0, .int .i64 0, .slice none 0 0] 26)) (w.heap.size + 1) (.int .i64 0) (.int .i64 0) (.slice none 0 0) from by have h := T3.new (w.alloc (.cells #[.int .i64 D, .int .i64 N, .slice a1 xs.length cap1] 26)) 0 0 none 0 0 26; rw [World.size_alloc] at h; exact h)
  have hwb : ((w.alloc (.cells #[.int .i64 D, .int .i64 N, .slice a1 xs.length cap1] 26)).alloc (.cells #[.int .i64 0, .int .i64 0, .slice none 0 0] 26)).heap.size = w.heap.size + 2 := by simp
  generalize ((w.alloc (.cells #[.int .i64 D, .int .i64 N, .slice a1 xs.length cap1] 26)).alloc (.cells #[.int .i64 0, .int .i64 0, .slice none 0 0] 26)) = wb at *
  have hww : w.heap.size < wb.heap.size := by omega
  have KS := Lib.hid (show ∀ w', Below wb.heap.size wb w' → (w'.cell? ⟨w.heap.size, 0, none⟩ = some (.int .i64 D) ∧ w'.cell? ⟨w.heap.size, 1, none⟩ = some (.int .i64 N) ∧ w'.cell? ⟨w.heap.size, 2, none⟩ = some (.slice a1 xs.length cap1)) from fun w' hb => ⟨(hb.cell (p := ⟨w.heap.size, 0, none⟩) hww).trans x0, (hb.cell (p := ⟨w.heap.size, 1, none⟩) hww).trans x1, (hb.cell (p := ⟨w.heap.size, 2, none⟩) hww).trans x2⟩)
  have HWZ := Lib.hid hwb
  clear hwb
  go_cut [6, 7] (TwoSer D N wb)
  case first =>
    go_region_held3 (fun w' => w'.cell? ⟨w.heap.size, 0, none⟩ = some (.int .i64 D) ∧ w'.cell? ⟨w.heap.size, 1, none⟩ = some (.int .i64 N) ∧ w'.cell? ⟨w.heap.size, 2, none⟩ = some (.slice a1 xs.length cap1))
      ((refine KS.out _ ?_; repeat' (first | with_reducible assumption | with_reducible exact Below.refl _ _ | (with_reducible refine Below.drew ?_) | (with_reducible refine Below.setCell ?_ (by (try dsimp only); omega) _) | (with_reducible refine Below.alloc ?_ (by (try simp only [World.size_setCell]); (try simp only [World.size_drew]); (try simp only [World.size_alloc]); (try simp only [World.size_setCell]); (try simp only [World.size_alloc]); omega) _))))
      (first
      | (go_at_call 21; (with_reducible refine (l02Unit_c D N a1 xs.length cap1 _).mono ?_); rintro e w2 ⟨a2, c2, rfl, hb0, hN2⟩; have hb2 : Below wb.heap.size wb w2 := below_step (by repeat' (first | with_reducible assumption | with_reducible exact Below.refl _ _ | (with_reducible refine Below.drew ?_) | (with_reducible refine Below.setCell ?_ (by (try dsimp only); omega) _) | (with_reducible refine Below.alloc ?_ (by (try simp only [World.size_setCell]); (try simp only [World.size_drew]); (try simp only [World.size_alloc]); (try simp only [World.size_setCell]); (try simp only [World.size_alloc]); omega) _))) hb0 (Nat.le_refl _); have hz2 := hb2.size; (try simp only [World.size_drew] at hN2); (try simp only [World.size_alloc] at hN2); (try have pA : T3 w2 wb.heap.size (.int .i64 0) (.int .i64 0) (.slice none 0 0) := T3.next (by first | exact (T3.new wb 0 0 none 0 0 _).drew | exact ((T3.new wb 0 0 none 0 0 _).alloc _).drew) hb0); (try have pB : T3 w2 (wb.heap.size + 1) (.int .i64 0) (.int .i64 0) (.slice none 0 0) := T3.next (by have h := T3.new (wb.alloc (.cells #[.int .i64 0, .int .i64 0, .slice none 0 0] 26)) 0 0 none 0 0 26; rw [World.size_alloc] at h; exact h.drew) hb0); (try have n01 : ¬ wb.heap.size = w2.heap.size := (by have := pA.1; omega)); (try have n10 : ¬ w2.heap.size = wb.heap.size := (by have := pA.1; omega)))
      | (go_at_call 16; (with_reducible refine (l01Empty_c D N _ rfl _).mono ?_); rintro e w3 ⟨g3, rfl, hO3, hb0⟩; have hb3 : Below wb.heap.size wb w3 := below_step (by repeat' (first | with_reducible assumption | with_reducible exact Below.refl _ _ | (with_reducible refine Below.drew ?_) | (with_reducible refine Below.setCell ?_ (by (try dsimp only); omega) _) | (with_reducible refine Below.alloc ?_ (by (try simp only [World.size_setCell]); (try simp only [World.size_drew]); (try simp only [World.size_alloc]); (try simp only [World.size_setCell]); (try simp only [World.size_alloc]); omega) _))) hb0 (Nat.le_refl _); have hz3 := hb3.size; have hz23 : w2.heap.size ≤ w3.heap.size := (by have h := hb0.size; (try simp only [World.size_alloc] at h); omega); have hb23 : Below w2.heap.size w2 w3 := below_step (by repeat' (first | with_reducible assumption | with_reducible exact Below.refl _ _ | (with_reducible refine Below.drew ?_) | (with_reducible refine Below.setCell ?_ (by (try dsimp only); omega) _) | (with_reducible refine Below.alloc ?_ (by (try simp only [World.size_setCell]); (try simp only [World.size_drew]); (try simp only [World.size_alloc]); (try simp only [World.size_setCell]); (try simp only [World.size_alloc]); omega) _))) hb0 (Nat.le_refl _); have hN3 := (hN2.below hb23 (Nat.le_refl _)); (try have qA := pA.next hb23); (try have qB := pB.next hb23); (try have rA : T3 w3 w2.heap.size (.int .i64 0) (.int .i64 0) (.slice none 0 0) := T3.next (by first | exact T3.new w2 0 0 none 0 0 _ | exact (T3.new w2 0 0 none 0 0 _).alloc _) hb0); (try have rB : T3 w3 (w2.heap.size + 1) (.int .i64 0) (.int .i64 0) (.slice none 0 0) := T3.next (by have h := T3.new (w2.alloc (.cells #[.int .i64 0, .int .i64 0, .slice none 0 0] 26)) 0 0 none 0 0 26; rw [World.size_alloc] at h; exact h) hb0); (try have e0 : ¬ wb.heap.size = w3.heap.size := (by have := qA.1; omega)); (try have d0 : ¬ w3.heap.size = wb.heap.size := (by have := qA.1; omega)); (try obtain ⟨qAz, qA0, qA1, qA2, qA3, qA4, qA5⟩ := id qA); (try have e1 : ¬ wb.heap.size + 1 = w3.heap.size := (by have := qB.1; omega)); (try have d1 : ¬ w3.heap.size = wb.heap.size + 1 := (by have := qB.1; omega)); (try obtain ⟨qBz, qB0, qB1, qB2, qB3, qB4, qB5⟩ := id qB); (try have e2 : ¬ w2.heap.size = w3.heap.size := (by have := rA.1; omega)); (try have d2 : ¬ w3.heap.size = w2.heap.size := (by have := rA.1; omega)); (try obtain ⟨rAz, rA0, rA1, rA2, rA3, rA4, rA5⟩ := id rA); (try have e3 : ¬ w2.heap.size + 1 = w3.heap.size := (by have := rB.1; omega)); (try have d3 : ¬ w3.heap.size = w2.heap.size + 1 := (by have := rB.1; omega)); (try obtain ⟨rBz, rB0, rB1, rB2, rB3, rB4, rB5⟩ := id rB))
      | fail)
    all_goals (go_wp2_with fail; go_meet)
    all_goals (refine ⟨_, _, g3, a2, c2, rfl, rfl, ?_, ?_, ?_, ?_, ?_, ?_, ?_⟩)
    all_goals (first | (with_reducible assumption) | (with_reducible exact Nat.le_refl _) | ((repeat' (first | with_reducible assumption | with_reducible exact Below.refl _ _ | (with_reducible refine Below.drew ?_) | (with_reducible refine Below.setCell ?_ (by (try dsimp only); omega) _) | (with_reducible refine Below.alloc ?_ (by (try simp only [World.size_setCell]); (try simp only [World.size_drew]); (try simp only [World.size_alloc]); (try simp only [World.size_setCell]); (try simp only [World.size_alloc]); omega) _))); done) | ((repeat' (first | with_reducible assumption | (with_reducible refine RowF.set ?_ (by first | (left; with_reducible rfl) | (right; with_reducible rfl))) | (with_reducible refine RowF.alloc ?_ _) | (with_reducible exact RowF.of hN3 (by omega) (by omega) (by omega)))); done) | ((repeat' (first | with_reducible assumption | (with_reducible refine T3.newAt ?_; first | with_reducible rfl | (simp only [World.size_setCell]; done) | (simp only [World.size_alloc]; done) | (simp only [World.size_alloc, World.size_setCell]; done)) | (with_reducible refine T3.fill ?_) | (with_reducible refine T3.far ?_ (by first | with_reducible assumption | omega)) | (with_reducible refine T3.alloc ?_ _))); done) | ((try simp only [World.size_setCell]); (try simp only [World.size_drew]); (try simp only [World.size_alloc]); (try simp only [World.size_setCell]); (try simp only [World.size_alloc]); omega) | fail)
  case rest =>
    obtain ⟨gA, gB, g2, aU, cU, rfl, rfl, hAB, hgA, hgB, hBc, hTA, hTB, hRU⟩ := hcut
    obtain ⟨wy, rfl⟩ : ∃ wy : World, wy = wc := ⟨_, rfl⟩
    have HBy := Lib.hid hBc
    have HTA := Lib.hid hTA
    have HTB := Lib.hid hTB
    have HRU := Lib.hid hRU
    have HAB := Lib.hid hAB
    have hBA : ¬ gB = gA := fun e => hAB e.symm
    clear hBc hTA hTB hRU
    go_wp2_with fail
    go_loopw [8] (fun v8 wr => ∃ (k : Nat) (s p : VF) (aP aO : Option Addr) (lP lO cP cO : Nat), k ≤ m ∧ v8 = .int .i64 k ∧ sumK y (allW D N) f k = some s ∧ powV y (allW D N) (k - 1) = some p ∧ lP = (termsOf p (allW D N)).length ∧ lO = (termsOf s (allW D N)).length ∧ T3 wr gA (.int .i64 D) (.int .i64 N) (.slice aP lP cP) ∧ T3 wr gB (.int .i64 D) (.int .i64 N) (.slice aO lO cO) ∧ RowF wb.heap.size gA gB wr aP (termsOf p (allW D N)) ∧ RowF wb.heap.size gA gB wr aO (termsOf s (allW D N)) ∧ Below wb.heap.size wb wr) (fun v8 _ => m - (intOf v8).toNat)
    case atStart => exact ⟨0, noneF, unitF, aU, some ⟨g2, 0, none⟩, 1, 0, cU, 0, Nat.zero_le _, rfl, rfl, rfl, by rw [HUt.out]; rfl, by rw [termsOf_noneF]; rfl, HTA.out, HTB.out, by rw [HUt.out]; exact HRU.out, .inl (termsOf_noneF _), HBy.out⟩
    case round =>
      obtain ⟨k, s, p, aP, aO, lP, lO, cP, cO, hk, rfl, hsk, hpk, hlP, hlO, hTP, hTO, hRP, hRO, hB⟩ := hrel
      obtain ⟨wo, rfl⟩ : ∃ wo : World, wo = wr := ⟨_, rfl⟩
      subst hlP hlO
      have HSk := Lib.hid hsk
      have HPk := Lib.hid hpk
      have HTP := Lib.hid hTP
      have HTO := Lib.hid hTO
      have HRP := Lib.hid hRP
      have HRO := Lib.hid hRO
      have HB := Lib.hid hB
      have HGs := Lib.hid (sumK_good hsk)
      have HGp := Lib.hid (powV_good hpk)
      have hzo := hB.size
      have hwA := hTP.1
      have hwB := hTO.1
      clear hsk hpk hTP hTO hRP hRO hB x0 x1 x2
      by_cases hlt : k < m
      · have HBw := Lib.hid (HWb.out.trans (HB.out.mono (by omega)))
        rcases HNr.out.below HBw.out (Nat.le_refl _) with h | ⟨gn, rfl, _, hgl, hFm⟩
        · exfalso
          have := numL_length f m
          rw [h] at this
          simp at this
          omega
        have hgw : gn < wb.heap.size := by have := HWZ.out; omega
        have hnA : ¬ gA = gn := by omega
        have hnB : ¬ gB = gn := by omega
        have hnA' : ¬ gn = gA := by omega
        have hnB' : ¬ gn = gB := by omega
        obtain ⟨c0, c1⟩ := hFm k (by rw [numL_length]; exact hlt)
        rw [numL_get] at c0 c1
        simp only [Nat.zero_add] at c0 c1
        have HIf := Lib.hid (HFr.out k hlt)
        have HIz := Lib.hid (fun h => HZr.out k h hlt)
        have HNx := Lib.hid (fun q (hq : powV y (allW D N) k = some q) => sumK_next (f := f) HSk.out hq)
        have HNo := Lib.hid (fun (hq : powV y (allW D N) k = none) => sumK_dead (sumK_noP (f := f) hq) (show k + 1 ≤ m from hlt))
        have HDd := Lib.hid (fun (hq : sumK y (allW D N) f (k + 1) = none) => sumK_dead hq (show k + 1 ≤ m from hlt))
        have HI0 := Lib.hid (show k = 0 → (f k).1 = 0 → f k = (0, 1) from fun e h => by subst e; exact H0r.out h)
        obtain ⟨fa, hfa⟩ : ∃ fa, (f k).1 = fa := ⟨_, rfl⟩
        obtain ⟨fb, hfb⟩ : ∃ fb, (f k).2 = fb := ⟨_, rfl⟩
        have HF1 := Lib.hid (show f k = (fa, fb) from by rw [← hfa, ← hfb])
        rw [hfa] at c0 HIf HIz HI0
        rw [hfb] at c1 HIf
        simp only [hfa, hfb] at HNx
        have HC0 := Lib.hid c0
        have HC1 := Lib.hid c1
        clear hFm hfa hfb c0 c1
        go_upto_if 24 with fail
        go_cut [] (fun wx => ∃ (p' : VF) (aP' : Option Addr) (cP' : Nat), powV y (allW D N) k = some p' ∧ T3 wx gA (.int .i64 D) (.int .i64 N) (.slice aP' (termsOf p' (allW D N)).length cP') ∧ T3 wx gB (.int .i64 D) (.int .i64 N) (.slice aO (termsOf s (allW D N)).length cO) ∧ RowF wb.heap.size gA gB wx aP' (termsOf p' (allW D N)) ∧ RowF wb.heap.size gA gB wx aO (termsOf s (allW D N)) ∧ Below wb.heap.size wb wx)
        case first =>
          by_cases hk0 : k = 0
          · have hpw : powV y (allW D N) k = some p := by subst hk0; exact HPk.out
            have hki : ¬ (0 : Int) < (k : Int) := by omega
            have HPw := Lib.hid hpw
            clear hpw hk0
            go_wp2_with fail
            go_meet
            exact ⟨p, aP, cP, HPw.out, HTP.out, HTO.out, HRP.out, HRO.out, HB.out⟩
          · have hki : (0 : Int) < (k : Int) := by omega
            have hP0 := HPk.out
            have hPv : powV y (allW D N) k = prodV p y (allW D N) := by
              have := powV_next (k := k - 1) hP0
              rwa [Nat.sub_add_cancel (by omega)] at this
            have HPv := Lib.hid hPv
            have HT := Lib.hid (HTm.out aP cP p HGp.out wo HRP.out.newRow.row (HR1.out.below HBw.out))
            have HLV := Lib.hid (prodL_V p y (allW D N))
            obtain ⟨n0, n1, n2⟩ : wo.cell? ⟨gA, 0, none⟩ = some (.int .i64 D) ∧ wo.cell? ⟨gA, 1, none⟩ = some (.int .i64 N) ∧ wo.cell? ⟨gA, 2, none⟩ = some (.slice aP (termsOf p (allW D N)).length cP) := ⟨HTP.out.2.1, HTP.out.2.2.1, HTP.out.2.2.2.1⟩
            obtain ⟨x0, x1, x2⟩ := KS.out wo HB.out
            clear hP0 hPv hk0
            go_wp2_with fail
            refine HT.out.mono ?_
            rw [HLV.out]
            clear x0 x1 x2 n0 n1 n2
            cases hv : prodV p y (allW D N) with
            | none =>
              rintro e w3 ⟨rfl, hb3⟩
              have HF := Lib.hid (HNo.out (HPv.out.trans hv))
              have hT4 := (HT4.out.below HB.out (by have := HWZ.out; omega)).next hb3
              obtain ⟨hz4, r0, r1, r2, z0, z1, z2⟩ := id hT4
              have HW3 := Lib.hid (HBw.out.trans (hb3.mono (by omega)))
              clear hb3 hv hT4
              go_wp2
              have e : o = none := HOut.out.symm.trans HF.out
              rw [e]
              refine bodyPost_ret (v := .tuple #[.agg #[.int .i64 0, .int .i64 0, .slice none 0 0], .bool false]) (by simp [results, Tryz.results42, go_sem, r0, r1, r2, hz4]) rfl ⟨rfl, ?_⟩
              have hW := HW3.out
              go_grown
            | some p' =>
              rintro e w3 ⟨a3, c3, rfl, hb3, hN3⟩
              have hTP3 := HTP.out.next hb3
              have hTO3 := HTO.out.next hb3
              have hRO3 := HRO.out.below hb3
              have HTP3 := Lib.hid (hTP3.set3 (x' := .int .i64 D) (y' := .int .i64 N) (z' := .slice a3 (termsOf p' (allW D N)).length c3))
              have HTO3 := Lib.hid ((((hTO3.far (n := gA) (i := 0) (u := .int .i64 D) hAB).far (n := gA) (i := 1) (u := .int .i64 N) hAB).far (n := gA) (i := 2) (u := .slice a3 (termsOf p' (allW D N)).length c3) hAB))
              have HRO3 := Lib.hid ((((hRO3.set (n := gA) (i := 0) (u := .int .i64 D) (.inl rfl)).set (n := gA) (i := 1) (u := .int .i64 N) (.inl rfl)).set (n := gA) (i := 2) (u := .slice a3 (termsOf p' (allW D N)).length c3) (.inl rfl)))
              have HRP3 := Lib.hid (((((RowF.of (B := wb.heap.size) (p := gA) (q := gB) hN3 (by omega) (.inl hwA) (.inl hwB)).set (n := gA) (i := 0) (u := .int .i64 D) (.inl rfl)).set (n := gA) (i := 1) (u := .int .i64 N) (.inl rfl)).set (n := gA) (i := 2) (u := .slice a3 (termsOf p' (allW D N)).length c3) (.inl rfl)))
              have HP3 := Lib.hid (HPv.out.trans hv)
              have hz3 := hb3.size
              have HB3 := Lib.hid ((((HB.out.trans (hb3.mono hzo)).setCell (p := ⟨gA, 0, none⟩) hgA (.int .i64 D)).setCell (p := ⟨gA, 1, none⟩) hgA (.int .i64 N)).setCell (p := ⟨gA, 2, none⟩) hgA (.slice a3 (termsOf p' (allW D N)).length c3))
              obtain ⟨hz4, r0, r1, r2, z0, z1, z2⟩ := id hTP3
              clear hb3 hv hN3 hTP3 hTO3 hRO3
              go_wp2_with fail
              go_meet
              exact ⟨p', a3, c3, HP3.out, HTP3.out.alloc _, HTO3.out.alloc _, HRP3.out.alloc _, HRO3.out.alloc _, HB3.out.alloc (by simp; omega) _⟩
        case rest =>
          obtain ⟨p', aP', cP', hq, hTP', hTO', hRP', hRO', hB'⟩ := hcut
          obtain ⟨wz, rfl⟩ : ∃ wz : World, wz = wc := ⟨_, rfl⟩
          have HQ := Lib.hid hq
          have HGp' := Lib.hid (powV_good hq)
          have HAd' := Lib.hid (HNx.out p' hq)
          have HBz := Lib.hid hB'
          have hwzA := hTP'.1
          have hwzB := hTO'.1
          have hzz := hB'.size
          have hgz : gn < wz.heap.size := by omega
          have HBwz := Lib.hid (HWb.out.trans (hB'.mono (by have := HWZ.out; omega)))
          have d0 : wz.cell? ⟨gn, k * 2, none⟩ = some (.int .i64 fa) := by
            rcases HNr.out.below HBwz.out (Nat.le_refl _) with h | ⟨gm, e, _, _, hFm⟩
            · exfalso
              have := numL_length f m
              rw [h] at this
              simp at this
              omega
            · injection e with e; injection e with e
              subst e
              have h := (hFm k (by rw [numL_length]; exact hlt)).1
              rw [numL_get, HF1.out] at h
              simpa using h
          have d1 : wz.cell? ⟨gn, k * 2 + 1, none⟩ = some (.int .i64 fb) := by
            rcases HNr.out.below HBwz.out (Nat.le_refl _) with h | ⟨gm, e, _, _, hFm⟩
            · exfalso
              have := numL_length f m
              rw [h] at this
              simp at this
              omega
            · injection e with e; injection e with e
              subst e
              have h := (hFm k (by rw [numL_length]; exact hlt)).2
              rw [numL_get, HF1.out] at h
              simpa using h
          have HTP' := Lib.hid hTP'
          have HTO' := Lib.hid hTO'
          have HRP' := Lib.hid hRP'
          have HRO' := Lib.hid hRO'
          have HD0 := Lib.hid d0
          have HD1 := Lib.hid d1
          clear hq hTP' hTO' hRP' hRO' hB'
          have HZn := Lib.hid (fun (ok : Bool) (h : (fa == 0) = ok) W => zero_named (q := fb) h W)
          by_cases hfa : fa = 0
          · have hk0 : k = 0 := Decidable.byContradiction fun e => HIz.out (by omega) hfa
            have hpu : p' = unitF := by
              have h := HQ.out
              subst hk0
              exact (Option.some.inj h).symm
            have hsn : s = noneF := by
              have h := HSk.out
              subst hk0
              exact (Option.some.inj h).symm
            have hf1 : fb = 1 := by
              have h := HI0.out hk0 hfa
              rw [HF1.out] at h
              exact congrArg Prod.snd h
            have HSn := Lib.hid (show sumK y (allW D N) f (k + 1) = some s from by
              rw [HAd'.out, hpu, hsn, hfa, hf1]; exact addK_zero _)
            have hzb : (fa == 0) = true := by simpa using hfa
            have HZ1 := Lib.hid (HZn.out true hzb)
            clear hpu hsn hf1 hk0 hfa hzb
            go_wp2_with fail
            refine (HZ1.out _).mono ?_
            rintro e w4 ⟨rfl, hb4⟩
            have HTP4 := Lib.hid (HTP'.out.next hb4)
            have HTO4 := Lib.hid (HTO'.out.next hb4)
            have HRP4 := Lib.hid (HRP'.out.below hb4)
            have HRO4 := Lib.hid (HRO'.out.below hb4)
            have HB4 := Lib.hid (HBz.out.trans (hb4.mono hzz))
            clear hb4 d0 d1
            go_wp2_with fail
            go_roundw
            case rel => exact ⟨k + 1, s, p', aP', aO, _, _, cP', cO, hlt, by go_num, HSn.out, by rw [Nat.add_sub_cancel]; exact HQ.out, rfl, rfl, HTP4.out, HTO4.out, HRP4.out, HRO4.out, HB4.out⟩
            case measure => simp [intOf]; omega
          · have hzb : (fa == 0) = false := by simpa using hfa
            have HZ1 := Lib.hid (HZn.out false hzb)
            clear hfa hzb
            go_wp2_with fail
            refine (HZ1.out _).mono ?_
            rintro e w4 ⟨rfl, hb4⟩
            have HTP4 := Lib.hid (HTP'.out.next hb4)
            have HTO4 := Lib.hid (HTO'.out.next hb4)
            have HRP4 := Lib.hid (HRP'.out.below hb4)
            have HRO4 := Lib.hid (HRO'.out.below hb4)
            have HB4 := Lib.hid (HBz.out.trans (hb4.mono hzz))
            have hz4 := hb4.size
            have f0 : w4.cell? ⟨gn, k * 2, none⟩ = some (.int .i64 fa) := (hb4.cell (p := ⟨gn, k * 2, none⟩) hgz).trans HD0.out
            have f1 : w4.cell? ⟨gn, k * 2 + 1, none⟩ = some (.int .i64 fb) := (hb4.cell (p := ⟨gn, k * 2 + 1, none⟩) hgz).trans HD1.out
            have hg4 : gn < w4.heap.size := by omega
            have hA4 : gA < w4.heap.size := by omega
            have hB4 : gB < w4.heap.size := by omega
            obtain ⟨n0, n1, n2⟩ : w4.cell? ⟨gA, 0, none⟩ = some (.int .i64 D) ∧ w4.cell? ⟨gA, 1, none⟩ = some (.int .i64 N) ∧ w4.cell? ⟨gA, 2, none⟩ = some (.slice aP' (termsOf p' (allW D N)).length cP') := ⟨HTP4.out.2.1, HTP4.out.2.2.1, HTP4.out.2.2.2.1⟩
            obtain ⟨m0, m1, m2⟩ : w4.cell? ⟨gB, 0, none⟩ = some (.int .i64 D) ∧ w4.cell? ⟨gB, 1, none⟩ = some (.int .i64 N) ∧ w4.cell? ⟨gB, 2, none⟩ = some (.slice aO (termsOf s (allW D N)).length cO) := ⟨HTO4.out.2.1, HTO4.out.2.2.1, HTO4.out.2.2.2.1⟩
            have KS2 := Lib.hid (show ∀ w', Below w4.heap.size w4 w' → (w'.cell? ⟨gB, 0, none⟩ = some (.int .i64 D) ∧ w'.cell? ⟨gB, 1, none⟩ = some (.int .i64 N) ∧ w'.cell? ⟨gB, 2, none⟩ = some (.slice aO (termsOf s (allW D N)).length cO) ∧ w'.cell? ⟨gA, 0, none⟩ = some (.int .i64 D) ∧ w'.cell? ⟨gA, 1, none⟩ = some (.int .i64 N) ∧ w'.cell? ⟨gA, 2, none⟩ = some (.slice aP' (termsOf p' (allW D N)).length cP') ∧ w'.cell? ⟨gn, k * 2, none⟩ = some (.int .i64 fa) ∧ w'.cell? ⟨gn, k * 2 + 1, none⟩ = some (.int .i64 fb)) from fun w' hb => ⟨(hb.cell (p := ⟨gB, 0, none⟩) hB4).trans m0, (hb.cell (p := ⟨gB, 1, none⟩) hB4).trans m1, (hb.cell (p := ⟨gB, 2, none⟩) hB4).trans m2, (hb.cell (p := ⟨gA, 0, none⟩) hA4).trans n0, (hb.cell (p := ⟨gA, 1, none⟩) hA4).trans n1, (hb.cell (p := ⟨gA, 2, none⟩) hA4).trans n2, (hb.cell (p := ⟨gn, k * 2, none⟩) hg4).trans f0, (hb.cell (p := ⟨gn, k * 2 + 1, none⟩) hg4).trans f1⟩)
            have HAc := Lib.hid (fun W (hW : Below w4.heap.size w4 W) => (HPut.out s p' fa fb) ▸ HAd.out s p' HGs.out HGp'.out fa fb HIf.out aO aP' cO cP' W (HRO4.out.newRow.row.below hW) (HRP4.out.newRow.row.below hW))
            obtain ⟨r, hr⟩ : ∃ r, (addK p' fa fb (allW D N) s) = r := ⟨_, rfl⟩
            rw [hr] at HAc HAd'
            clear hb4 hr d0 d1
            go_upto_region 11 with fail
            go_cut [11, 12] (SerCut w4 D N (r.map fun h => termsOf h (allW D N)))
            case first =>
              go_region_held3 (fun w' => w'.cell? ⟨gB, 0, none⟩ = some (.int .i64 D) ∧ w'.cell? ⟨gB, 1, none⟩ = some (.int .i64 N) ∧ w'.cell? ⟨gB, 2, none⟩ = some (.slice aO (termsOf s (allW D N)).length cO) ∧ w'.cell? ⟨gA, 0, none⟩ = some (.int .i64 D) ∧ w'.cell? ⟨gA, 1, none⟩ = some (.int .i64 N) ∧ w'.cell? ⟨gA, 2, none⟩ = some (.slice aP' (termsOf p' (allW D N)).length cP') ∧ w'.cell? ⟨gn, k * 2, none⟩ = some (.int .i64 fa) ∧ w'.cell? ⟨gn, k * 2 + 1, none⟩ = some (.int .i64 fb))
                ((refine KS2.out _ ?_; repeat' (first | with_reducible assumption | with_reducible exact Below.refl _ _ | (with_reducible refine Below.drew ?_) | (with_reducible refine Below.setCell ?_ (by (try dsimp only); omega) _) | (with_reducible refine Below.alloc ?_ (by (try simp only [World.size_setCell]); (try simp only [World.size_drew]); (try simp only [World.size_alloc]); (try simp only [World.size_setCell]); (try simp only [World.size_alloc]); omega) _))))
                (first
                | (go_at_call 19; (with_reducible refine (HAc.out _ ?_).mono ?_); (focus repeat' (first | with_reducible assumption | with_reducible exact Below.refl _ _ | (with_reducible refine Below.drew ?_) | (with_reducible refine Below.setCell ?_ (by (try dsimp only); omega) _) | (with_reducible refine Below.alloc ?_ (by (try simp only [World.size_setCell]); (try simp only [World.size_drew]); (try simp only [World.size_alloc]); (try simp only [World.size_setCell]); (try simp only [World.size_alloc]); omega) _))); rintro e wd hpost; obtain ⟨X, Y, a5, l5, c5, ok, rfl, hb0, hU⟩ := SumPost.u hpost; have hbd : Below w4.heap.size w4 wd := below_step (by repeat' (first | with_reducible assumption | with_reducible exact Below.refl _ _ | (with_reducible refine Below.drew ?_) | (with_reducible refine Below.setCell ?_ (by (try dsimp only); omega) _) | (with_reducible refine Below.alloc ?_ (by (try simp only [World.size_setCell]); (try simp only [World.size_drew]); (try simp only [World.size_alloc]); (try simp only [World.size_setCell]); (try simp only [World.size_alloc]); omega) _))) hb0 (Nat.le_refl _); have hzd := hbd.size; (try simp only [World.size_drew] at hU); (try simp only [World.size_alloc] at hU); (try have qA : T3 wd w4.heap.size (.int .i64 0) (.int .i64 0) (.slice none 0 0) := T3.next (by exact (T3.new w4 0 0 none 0 0 _).drew) hb0); (try obtain ⟨qz, q0, q1, q2, q3, q4, q5⟩ := id qA))
                | fail)
              all_goals (go_wp2_with fail; go_meet)
              all_goals (refine ⟨_, X, Y, a5, l5, c5, ok, rfl, rfl, ?_, ?_, ?_, ?_⟩)
              all_goals (first | (with_reducible assumption) | (with_reducible exact Nat.le_refl _) | ((repeat' (first | with_reducible assumption | with_reducible exact Below.refl _ _ | (with_reducible refine Below.drew ?_) | (with_reducible refine Below.setCell ?_ (by (try dsimp only); omega) _) | (with_reducible refine Below.alloc ?_ (by (try simp only [World.size_setCell]); (try simp only [World.size_drew]); (try simp only [World.size_alloc]); (try simp only [World.size_setCell]); (try simp only [World.size_alloc]); omega) _))); done) | ((repeat' (first | with_reducible assumption | (with_reducible refine T3.newAt ?_; first | with_reducible rfl | (simp only [World.size_setCell]; done) | (simp only [World.size_alloc]; done) | (simp only [World.size_alloc, World.size_setCell]; done)) | (with_reducible refine T3.fill ?_) | (with_reducible refine T3.far ?_ (by first | with_reducible assumption | omega)) | (with_reducible refine T3.alloc ?_ _))); done) | (with_reducible exact hU.below (below1 _ _)) | (with_reducible exact (((hU.far (by omega)).far (by omega)).far (by omega)).mono (by omega)))
            case rest =>
              obtain ⟨g, X, Y, a5, l5, c5, ok, rfl, rfl, hg, hbc, hT5, hU⟩ := hcut
              obtain ⟨w5, rfl⟩ : ∃ w5 : World, w5 = wc := ⟨_, rfl⟩
              have hz5 := hbc.size
              cases r with
              | none =>
                obtain ⟨rfl, rfl, rfl, rfl, rfl, rfl⟩ := hU
                have HF := Lib.hid (HDd.out HAd'.out)
                have hT4 := ((HT4.out.below HB4.out (by have := HWZ.out; omega)).next hbc)
                obtain ⟨hq4, r0, r1, r2, z0, z1, z2⟩ := id hT4
                have HW5 := Lib.hid (HWb.out.trans ((HB4.out.trans (hbc.mono (by omega))).mono (by have := HWZ.out; omega)))
                clear hbc hT4 hT5 n0 n1 n2 m0 m1 m2 f0 f1
                go_wp2_with fail
                have e : o = none := HOut.out.symm.trans HF.out
                rw [e]
                refine bodyPost_ret (v := .tuple #[.agg #[.int .i64 0, .int .i64 0, .slice none 0 0], .bool false]) (by simp [results, Tryz.results42, go_sem, r0, r1, r2]) rfl ⟨rfl, ?_⟩
                have hW := HW5.out
                go_grown
              | some s' =>
                obtain ⟨rfl, rfl, rfl, rfl, hN5⟩ := hU
                have hTO5 := HTO4.out.next hbc
                have hRP5 := HRP4.out.below hbc
                have HTO5 := Lib.hid (hTO5.set3 (x' := .int .i64 D) (y' := .int .i64 N) (z' := .slice a5 (termsOf s' (allW D N)).length c5))
                have HTP5 := Lib.hid (((((HTP4.out.next hbc).far (n := gB) (i := 0) (u := .int .i64 D) hBA).far (n := gB) (i := 1) (u := .int .i64 N) hBA).far (n := gB) (i := 2) (u := .slice a5 (termsOf s' (allW D N)).length c5) hBA))
                have HRP5 := Lib.hid ((((hRP5.set (n := gB) (i := 0) (u := .int .i64 D) (.inr rfl)).set (n := gB) (i := 1) (u := .int .i64 N) (.inr rfl)).set (n := gB) (i := 2) (u := .slice a5 (termsOf s' (allW D N)).length c5) (.inr rfl)))
                have HRO5 := Lib.hid (((((RowF.of (B := wb.heap.size) (p := gA) (q := gB) hN5 (by omega) (.inl hA4) (.inl hB4)).set (n := gB) (i := 0) (u := .int .i64 D) (.inr rfl)).set (n := gB) (i := 1) (u := .int .i64 N) (.inr rfl)).set (n := gB) (i := 2) (u := .slice a5 (termsOf s' (allW D N)).length c5) (.inr rfl)))
                have HB5 := Lib.hid ((((HB4.out.trans (hbc.mono (by omega))).setCell (p := ⟨gB, 0, none⟩) hgB (.int .i64 D)).setCell (p := ⟨gB, 1, none⟩) hgB (.int .i64 N)).setCell (p := ⟨gB, 2, none⟩) hgB (.slice a5 (termsOf s' (allW D N)).length c5))
                have HSn := Lib.hid (show sumK y (allW D N) f (k + 1) = some s' from HAd'.out)
                obtain ⟨hq4, r0, r1, r2, z0, z1, z2⟩ := id hTO5
                obtain ⟨hq5, t0, t1, t2, -, -, -⟩ := id hT5
                clear hbc hTO5 hRP5 hN5 hT5 n0 n1 n2 m0 m1 m2 f0 f1
                go_wp2_with fail
                go_roundw
                case rel => exact ⟨k + 1, s', p', aP', a5, _, _, cP', c5, hlt, by go_num, HSn.out, by rw [Nat.add_sub_cancel]; exact HQ.out, rfl, rfl, HTP5.out, HTO5.out, HRP5.out, HRO5.out, HB5.out⟩
                case measure => simp [intOf]; omega
      · obtain rfl : k = m := by omega
        have HO2 := Lib.hid (HOut.out.symm.trans HSk.out)
        have hT4 := HT4.out.below HB.out (by have := HWZ.out; omega)
        obtain ⟨hz4, r0, r1, r2, z0, z1, z2⟩ := id hT4
        obtain ⟨n0, n1, n2⟩ : wo.cell? ⟨gB, 0, none⟩ = some (.int .i64 D) ∧ wo.cell? ⟨gB, 1, none⟩ = some (.int .i64 N) ∧ wo.cell? ⟨gB, 2, none⟩ = some (.slice aO (termsOf s (allW D N)).length cO) := ⟨HTO.out.2.1, HTO.out.2.2.1, HTO.out.2.2.2.1⟩
        have HBw := Lib.hid (HWb.out.trans (HB.out.mono (by omega)))
        have HNw := Lib.hid (HRO.out.newRow.mono (show w.heap.size + 2 ≤ wb.heap.size by have := HWZ.out; omega) (Nat.le_refl _))
        clear hT4
        go_wp2
        rw [HO2.out]
        refine bodyPost_ret (v := .tuple #[.agg #[.int .i64 D, .int .i64 N, .slice aO (termsOf s (allW D N)).length cO], .bool true]) (by simp [results, Tryz.results42, go_sem, r0, r1, r2]) rfl ⟨aO, cO, rfl, ?_, ?_⟩
        · have hW := HBw.out
          go_grown
        · exact (((HNw.out.far1s (by omega)).far1s (by omega)).far1s (by omega)).mono (by omega) (by simp)
end Go.Proofs.YteljpgoaaelbfaaGreatDoor

namespace Go.Proofs.YteljpgoaaelbfaaGreatDoor
open Go.RowKit

theorem val_isF {D N : Nat} {xs : List Tm} (h : serB D N xs = true) : isF (valL [] xs).1 (valL [] xs).2 = true := by
  have G := good_valV h
  have hD : D ≤ 3 := by
    have hsh : shapeB (D : Int) (N : Int) = true := by unfold serB at h; rw [Bool.and_eq_true] at h; exact h.1
    have := shape_out hsh
    omega
  have e := valL_termsOf (allW_asc hD N) G.1 ByteArray.empty
  rw [G.2] at e
  show isF (valL ByteArray.empty.data.toList xs).1 (valL ByteArray.empty.data.toList xs).2 = true
  rw [e]
  exact valF_isF G.1 _
theorem isZero_named {p q : Int} {o : Bool} (h : (p == 0) = o) (hq : p = 0 → q = 1) (w : World) : Calls Tryz.prog 75 #[.agg #[.int .i64 p, .int .i64 q]] w fun e w' => e = .returned (.bool o) ∧ Below w.heap.size w w' := by
  have e : (p == 0 && q == 1) = o := by
    cases o with
    | false => rw [h]; rfl
    | true => rw [h, hq (by simpa using h)]; rfl
  rw [← e]
  exact isZero_c p q w
theorem OwnR.end_0 {w : World} {a : Option Addr} {l c B : Nat} {zs : List (Int × Int)} (h : OwnR w B (.slice a l c) zs) : NewR 0 w.heap.size w a zs := by
  obtain ⟨a', c', he, _, hN⟩ := h.newRow
  injection he with e1 e2 e3
  subst e1
  exact hN.mono (Nat.zero_le _) (Nat.le_refl _)
theorem Row.next {w w' : World} {a : Option Addr} {ts : List Tm} (h : Row w a ts) (hb : Below w.heap.size w w') : Row w' a ts := h.below hb

set_option maxRecDepth 100000 in
set_option maxHeartbeats 8000000 in
theorem l02Exp_c (D N : Nat) (hD : 1 ≤ D ∧ D ≤ 3) (hN : N ≤ 5) (a1 : Option Addr) (cap1 : Nat) (y : VF) (hy : GoodV (allW D N) y) (xs : List Tm) (hx : termsOf y (allW D N) = xs) (w : World) (hr1 : Row w a1 xs) :
    Calls Tryz.prog 17 #[.agg #[.int .i64 D, .int .i64 N, .slice a1 xs.length cap1]] w (SumPost D N ((expV y (allW D N) N).map fun h => termsOf h (allW D N)) w) := by
  have HR1 := Lib.hid hr1
  have HSum := Lib.hid (fun aN cN W r1 r2 => l02Sum_c D N hD hN a1 cap1 y hy xs hx expF (N + 1) (by omega) (fun k hk => expF_isF (by omega)) (fun k _ _ => expF_nz k) (fun h => absurd h (expF_nz 0)) aN cN W r1 r2)
  have HExp := Lib.hid (show expV y (allW D N) N = sumK y (allW D N) expF (N + 1) from rfl)
  clear hr1 hy hx
  go_enter Tryz.func17, Tryz.ntmps17
  go_wp2_with fail
  have HT4 := Lib.hid (show T3 ((w.alloc (.cells #[.int .i64 D, .int .i64 N, .slice a1 xs.length cap1] 26)).alloc (.cells #[.int .i64 0, .int .i64 0, .slice none 0 0] 26)) (w.heap.size + 1) (.int .i64 0) (.int .i64 0) (.slice none 0 0) from by have h := T3.new (w.alloc (.cells #[.int .i64 D, .int .i64 N, .slice a1 xs.length cap1] 26)) 0 0 none 0 0 26; rw [World.size_alloc] at h; exact h)
  have x0 : ((w.alloc (.cells #[.int .i64 D, .int .i64 N, .slice a1 xs.length cap1] 26)).alloc (.cells #[.int .i64 0, .int .i64 0, .slice none 0 0] 26)).cell? ⟨w.heap.size, 0, none⟩ = some (.int .i64 D) := by go_simp
  have x1 : ((w.alloc (.cells #[.int .i64 D, .int .i64 N, .slice a1 xs.length cap1] 26)).alloc (.cells #[.int .i64 0, .int .i64 0, .slice none 0 0] 26)).cell? ⟨w.heap.size, 1, none⟩ = some (.int .i64 N) := by go_simp
  have x2 : ((w.alloc (.cells #[.int .i64 D, .int .i64 N, .slice a1 xs.length cap1] 26)).alloc (.cells #[.int .i64 0, .int .i64 0, .slice none 0 0] 26)).cell? ⟨w.heap.size, 2, none⟩ = some (.slice a1 xs.length cap1) := by go_simp
  have HWb := Lib.hid (below2 w (.cells #[.int .i64 D, .int .i64 N, .slice a1 xs.length cap1] 26) (.cells #[.int .i64 0, .int .i64 0, .slice none 0 0] 26))
  have hwb : ((w.alloc (.cells #[.int .i64 D, .int .i64 N, .slice a1 xs.length cap1] 26)).alloc (.cells #[.int .i64 0, .int .i64 0, .slice none 0 0] 26)).heap.size = w.heap.size + 2 := by simp
  generalize ((w.alloc (.cells #[.int .i64 D, .int .i64 N, .slice a1 xs.length cap1] 26)).alloc (.cells #[.int .i64 0, .int .i64 0, .slice none 0 0] 26)) = wb at *
  have hww : w.heap.size < wb.heap.size := by omega
  have hwz : w.heap.size + 1 + 1 = wb.heap.size := by omega
  have KS := Lib.hid (show ∀ w', Below wb.heap.size wb w' → (w'.cell? ⟨w.heap.size, 0, none⟩ = some (.int .i64 D) ∧ w'.cell? ⟨w.heap.size, 1, none⟩ = some (.int .i64 N) ∧ w'.cell? ⟨w.heap.size, 2, none⟩ = some (.slice a1 xs.length cap1)) from fun w' hb => ⟨(hb.cell (p := ⟨w.heap.size, 0, none⟩) hww).trans x0, (hb.cell (p := ⟨w.heap.size, 1, none⟩) hww).trans x1, (hb.cell (p := ⟨w.heap.size, 2, none⟩) hww).trans x2⟩)
  have HWZ := Lib.hid hwb
  clear x0 x1 x2 hwb hww hwz
  go_loopw [4, 5, 6] (fun v4 v5 v6 wr => ∃ (k : Nat) (a : Option Addr) (l c : Nat), k ≤ N + 1 ∧ v6 = .int .i64 k ∧ v5 = .int .i64 (fct (k - 1)) ∧ v4 = .slice a l c ∧ l = k ∧ OwnR wr wb.heap.size (.slice a l c) (numL expF k) ∧ Below wb.heap.size wb wr) (fun _ _ v6 _ => N + 1 - (intOf v6).toNat)
  case atStart =>
    have hwz : w.heap.size + 1 + 1 = wb.heap.size := by have := HWZ.out; omega
    exact ⟨0, some ⟨w.heap.size + 1 + 1, 0, none⟩, 0, 0, Nat.zero_le _, rfl, rfl, rfl, rfl, OwnR.emptyRow (by rw [hwz]; exact heap_alloc_new wb _) (by omega), below1 _ _⟩
  case round =>
    obtain ⟨k, av, lv, cv, hk, rfl, rfl, rfl, hl, hO, hB⟩ := hrel
    have HO := Lib.hid hO
    have HL := Lib.hid hl
    have HB := Lib.hid hB
    have HSz := Lib.hid hB.size
    have hl9 : lv ≤ 6 := by omega
    obtain ⟨x0, x1, x2⟩ := KS.out wr hB
    clear hO hl hB
    by_cases hlt : k ≤ N
    · have hf1 := fct_bd (k := k - 1) (by omega)
      have hf2 := fct_bd (k := k) (by omega)
      have HF := Lib.hid (show fct (k - 1) * max (k : Int) 1 = fct k from by
        cases k with
        | zero => rfl
        | succ j =>
          rw [show ((j + 1 : Nat) : Int) = (j : Int) + 1 by omega, Int.max_eq_left (by omega)]
          rfl)
      have HNs := Lib.hid (numL_succ expF k)
      have HE := Lib.hid (show expF k = (1, fct k) from rfl)
      rw [HE.out] at HNs
      obtain ⟨q, hq⟩ : ∃ q, fct (k - 1) = q := ⟨_, rfl⟩
      obtain ⟨r, hr⟩ : ∃ r, fct k = r := ⟨_, rfl⟩
      rw [hq] at hf1
      rw [hr] at hf2 HNs
      rw [hq, hr] at HF
      have hm : q * max (k : Int) 1 = r := HF.out
      have HRr := Lib.hid hr
      rw [hq]
      clear hr hq
      go_wp2_with (at_builtin; refine wpList_append_frs rfl _ _ rfl wb.heap.size (.slice av lv cv) lv (numL expF k) [(1, r)] rfl (by rw [numL_length]; exact HL.out) (HO.out.alloc _) (some ⟨wr.heap.size, 0, none⟩) 1 1 rfl rfl (.inr ⟨wr.heap.size, 0, rfl, frs_one wr 1 r⟩) (by omega) (by have := HSz.out; simp; omega) ?_)
      intro a3 c3 w3 hO3 hG3 _
      have HB3 := Lib.hid (HB.out.trans (((below1 wr (.cells #[.int .i64 1, .int .i64 r] 44)).mono HSz.out).trans (own_grownR (HO.out.alloc _) hG3 (by have := HSz.out; simp; omega))))
      have HO3 := Lib.hid hO3
      clear hO3 hG3 x0 x1 x2
      go_wp2
      go_roundw
      case rel => exact ⟨k + 1, a3, lv + 1, c3, by omega, by go_num, by rw [Nat.add_sub_cancel, HRr.out], rfl, by rw [HL.out], by rw [HNs.out]; exact HO3.out, HB3.out⟩
      case measure => simp [intOf]; omega
    · obtain rfl : k = N + 1 := by omega
      have HNr := Lib.hid (HO.out.end_0)
      have HBw := Lib.hid (HWb.out.trans (HB.out.mono (by have := HWZ.out; omega)))
      have hle : ¬ ((N + 1 : Nat) : Int) ≤ (N : Int) := by omega
      have HLv := HL.out
      subst HLv
      have HS := Lib.hid (HSum.out av cv wr (HR1.out.below HBw.out) HNr.out)
      go_wp2_with fail
      refine HS.out.mono ?_
      rw [← HExp.out]
      rintro e w5 hpost
      obtain ⟨X, Y, a5, l5, c5, ok, rfl, hb5, hU⟩ := SumPost.u hpost
      have hT4 := (HT4.out.below HB.out (by have := HWZ.out; omega)).next hb5
      obtain ⟨hq4, r0, r1, r2, z0, z1, z2⟩ := id hT4
      have hz5 := hb5.size
      have hzb := HB.out.size
      have HU5 := Lib.hid hU
      have HB5 := Lib.hid (HWb.out.trans ((HB.out.trans (hb5.mono (by omega))).mono (by have := HWZ.out; omega)))
      clear hpost hb5 hU hT4
      go_wp2
      refine bodyPost_ret (v := .tuple #[.agg #[.int .i64 X, .int .i64 Y, .slice a5 l5 c5], .bool ok]) (by simp [results, Tryz.results17, go_sem, r0, r1, r2, hq4]) rfl ?_
      have hU := HU5.out
      have hW := HB5.out
      have hwz := HWZ.out
      exact SumU.back (lo := wr.heap.size) (by first | exact (((hU.far (by omega)).far (by omega)).far (by omega)).below (below1 _ _) | exact (((hU.below (below1 _ _)).far (by omega)).far (by omega)).far (by omega)) (by go_grown) (by omega)
end Go.Proofs.YteljpgoaaelbfaaGreatDoor
