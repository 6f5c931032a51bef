/-
  Contracts of the program's DynkinMap.
-/
import Derived.Test.YtjjkkaikinjmdaaGreatDoorDynM
import Derived.Test.YtjjkkaikinjmdaaGreatDoorBvI
import Derived.Test.YtjjkkaikinjmdaaGreatDoorBox
import Derived.Test.YtjjkkaikinjmdaaGreatDoorNew4
import Derived.Deep.RegionHeld2
import Derived.Deep.RegionHeld3
namespace Go.Proofs.YtjjkkaikinjmdaaGreatDoor
open Go.RowKit

/-- a call that adds to values which have to fit, as one step -/
theorem add_or {f : FuncId} {args : Array Value} {w : World} {b n : Nat} {R : Ending → World → Prop} {r : Option VF} (h : Calls Tryz.prog f args w (AddPost r b n w)) (hp : r = none → ∀ w', w.grownBy w' (some b) → R (.panicked [misP 3]) w')
    (hy : ∀ (h' : VF) (w' : World), r = some h' → MapV w' b n h' → w.grownBy w' (some b) → R (.returned (.tuple #[])) w') : Calls Tryz.prog f args w R := by
  refine h.mono ?_
  cases r with
  | none => rintro e w' ⟨rfl, hg⟩; exact hp rfl w' hg
  | some h' => rintro e w' ⟨rfl, hM, hg⟩; exact hy h' w' rfl hM hg
theorem fC_yes {s : ByteArray} {n d : Int} (h : shOk ⟨s, n, d⟩ = true) : fC (n * 1) (d * (s.size : Int)) = 0 := by
  unfold shOk at h
  unfold fC
  simp only at h
  rw [h]; rfl
theorem fC_no {s : ByteArray} {n d : Int} (h : shOk ⟨s, n, d⟩ = false) : fC (n * 1) (d * (s.size : Int)) = 3 := by
  unfold shOk at h
  unfold fC
  simp only at h
  rw [h]; rfl
theorem share_c (s : ByteArray) (n d : Int) (h1 : isF n d = true) (h2 : ¬ s.size = 0) (h5 : s.size ≤ 5) (w : World) :
    Calls Tryz.prog 45 #[.agg #[.int .i64 n, .int .i64 d], .agg #[.int .i64 s.size, .int .i64 1]] w fun e w' => e = .returned (.tuple #[.agg #[.int .i64 (shN ⟨s, n, d⟩), .int .i64 (shD ⟨s, n, d⟩)], .int .i64 (fC (n * 1) (d * (s.size : Int)))]) ∧ Below w.heap.size w w' := by
  have hF : isF (s.size : Int) 1 = true := by
    simp only [isF, decide_eq_true_eq]
    refine ⟨by omega, by omega, by omega, by omega, ?_⟩
    unfold gi
    rw [Int.gcd_one]
    rfl
  have h := iDiv_c n d s.size 1 w
  rw [divR_y h1 hF (by omega)] at h
  exact h

set_option maxRecDepth 100000 in
set_option maxHeartbeats 8000000 in
theorem dynWork (D N : Nat) (g1 : Nat) (xs : List Tm) (hl1 : xs.length ≤ 1048576) (hs1 : ∀ i (h : i < xs.length), (xs[i]).s.size ≤ maxLen) (h1 : serB D N xs = true) (p px : Nat) (aS : Option Addr) (cS : Nat) (w : World) (hp : p < w.heap.size) (hpx : px < w.heap.size)
    (s0 : w.cell? ⟨p, 0, none⟩ = some (.int .i64 D)) (s1 : w.cell? ⟨p, 1, none⟩ = some (.int .i64 N)) (s2 : w.cell? ⟨p, 2, none⟩ = some (.slice aS (allW D N).length cS)) (x0 : w.cell? ⟨px, 0, none⟩ = some (.int .i64 D)) (x1 : w.cell? ⟨px, 1, none⟩ = some (.int .i64 N)) (x2 : w.cell? ⟨px, 2, none⟩ = some (.slice (some ⟨g1, 0, none⟩) xs.length xs.length)) (hrs : SRow w aS (allW D N)) (hb1 : g1 < w.heap.size) (t1 : TermsIn w g1 0 xs) :
    Calls Tryz.prog 42 #[.pointer (some ⟨px, 0, none⟩), .pointer (some ⟨p, 0, none⟩)] w (WorkPost (dynV (allW D N) xs) w) := by
  have hsh : shapeB (D : Int) (N : Int) = true := by unfold serB at h1; rw [Bool.and_eq_true] at h1; exact h1.1
  have hDN := shape_out hsh
  have hfew := few_ser h1
  have hw121 := allW_121 D (by omega) (by omega) N (by omega) (by omega)
  have HTerm := Lib.hid (fun k (hk : k < xs.length) => show (xs[k]).s.size ≤ 5 ∧ wordB (D : Int) (xs[k]).s.data.toList = true ∧ isF (xs[k]).n (xs[k]).d = true from by
    have h2 := ser_term h1 _ (List.getElem_mem hk)
    simp only [termB, Bool.and_eq_true, Bool.not_eq_true', beq_eq_false_iff_ne, decide_eq_true_eq] at h2
    exact ⟨by omega, h2.1.2, h2.2.1⟩)
  have HIx := Lib.hid (fun W (hW : Below w.heap.size w W) => indexOfLength_c g1 0 xs.length xs hl1 hs1 1 (asc_of_ser h1) W (Nat.lt_of_lt_of_le hb1 hW.size) (t1.below hW hb1))
  have HTx := Lib.hid t1
  have hAs := hA_of hrs
  have HLb := Lib.hid (fun (s : ByteArray) (hz : s.size ≤ 5) (hw : wordB (D : Int) s.data.toList = true) W (hW : Below w.heap.size w W) => leftBracket_c D N (by omega) (by omega) aS cS (allW D N) rfl (by omega) (fun s hs => by have := allW_size D N s hs; omega) s (by omega) hw W (hrs.below hW (Nat.le_refl _)) (fun r e => by have := hAs r e; have := hW.size; omega))
  have HGl := Lib.hid (fun (s : ByteArray) (hw : wordB (D : Int) s.data.toList = true) f (e : leftW (allW D N) s = some f) => (show ∀ s p, f s = some p → isF p.1 p.2 = true from fun t q h => (leftV_good (D := D) (N := N) (by omega) (by omega) hw (Nat.le_refl _) e t q h).2.1))
  have HAd := Lib.hid (fun (f g : VF) (hf : GoodV (allW D N) f) hg (x z : Int) (hxz : isF x z = true) bs n bx m (hn : n ≤ 900000) (hbs : w.heap.size ≤ bs) (hne : bx ≠ bs) W (hW : Below w.heap.size w W) m1 m2 => addMultiple_c (D : Int) (N : Int) aS cS (allW D N) (by omega) (fun s hs => by have := allW_size D N s hs; omega) f g hf hg x z hxz bs n bx m hn hne W (hrs.below hW (Nat.le_refl _)) (fun r e => by have := hAs r e; omega) m1 m2)
  have KS := Lib.hid (show ∀ w', Below w.heap.size w w' → (w'.cell? ⟨p, 0, none⟩ = some (.int .i64 D) ∧ w'.cell? ⟨p, 1, none⟩ = some (.int .i64 N) ∧ w'.cell? ⟨p, 2, none⟩ = some (.slice aS (allW D N).length cS) ∧ w'.cell? ⟨px, 0, none⟩ = some (.int .i64 D) ∧ w'.cell? ⟨px, 1, none⟩ = some (.int .i64 N) ∧ w'.cell? ⟨px, 2, none⟩ = some (.slice (some ⟨g1, 0, none⟩) xs.length xs.length)) from fun w' hb => ⟨(hb.cell (p := ⟨p, 0, none⟩) hp).trans s0, (hb.cell (p := ⟨p, 1, none⟩) hp).trans s1, (hb.cell (p := ⟨p, 2, none⟩) hp).trans s2, (hb.cell (p := ⟨px, 0, none⟩) hpx).trans x0, (hb.cell (p := ⟨px, 1, none⟩) hpx).trans x1, (hb.cell (p := ⟨px, 2, none⟩) hpx).trans x2⟩)
  obtain ⟨o, ho⟩ : ∃ o, dynV (allW D N) xs = o := ⟨_, rfl⟩
  rw [ho]
  have HOut := Lib.hid (show dynTo (allW D N) xs xs.length = o from ho)
  have HDead := Lib.hid (fun k (hk : k ≤ xs.length) (e : dynTo (allW D N) xs k = none) => (show o = none from HOut.out.symm.trans (dyn_dead e hk)))
  have hmm := @run_makeMap Tryz.prog
  clear hs1 h1 t1 hsh ho hrs hAs
  go_enter Tryz.func42, Tryz.ntmps42
  go_upto_region 2 with fail
  clear hmm
  have HM0 := Lib.hid (MapV.made w)
  have HB0 := Lib.hid (below1 w (.map #[] 0))
  have hwz : (w.alloc (.map #[] 0)).heap.size = w.heap.size + 1 := by simp
  obtain ⟨s0', s1', s2', x0', x1', x2'⟩ := KS.out _ HB0.out
  generalize (w.alloc (.map #[] 0)) = wb at *
  have hpb : px < wb.heap.size := by omega
  have HZ := Lib.hid hwz
  have KX := Lib.hid (show ∀ w', Below wb.heap.size wb w' → (w'.cell? ⟨px, 2, none⟩ = some (.slice (some ⟨g1, 0, none⟩) xs.length xs.length)) from fun w' hb => (hb.cell (p := ⟨px, 2, none⟩) hpb).trans x2')
  have HIw := Lib.hid (fun W (hW : Below wb.heap.size wb W) => HIx.out W (HB0.out.trans (hW.mono (by omega))))
  clear s0 s1 s2 x0 x1 x2 s0' s1' s2' x0' x1' hwz
  go_cut [13, 14, 15] (fun v13 v14 v15 wy => ∃ (i c q l : Nat), LPlace xs 1 i ∧ l = xs.length - i ∧ (0 < l → q = i * 3) ∧ v13 = .slice (some ⟨g1, q, none⟩) l c ∧ v14 = .int .i64 (l : Int) ∧ v15 = .int .i64 0 ∧ Below wb.heap.size wb wy)
  case first =>
    go_region_held3 (fun w' => w'.cell? ⟨px, 2, none⟩ = some (.slice (some ⟨g1, 0, none⟩) xs.length xs.length))
      ((refine KX.out _ ?_; repeat' (first | with_reducible assumption | with_reducible exact Below.refl _ _ | (with_reducible refine Below.drew ?_) | (with_reducible refine Below.setCell ?_ (by (try dsimp only); omega) _) | (with_reducible refine Below.alloc ?_ (by (try simp only [World.size_setCell]); (try simp only [World.size_drew]); (try simp only [World.size_alloc]); (try simp only [World.size_setCell]); (try simp only [World.size_alloc]); omega) _))))
      (first
        | (go_at_call 43; (with_reducible refine (HIw.out _ ?_).mono ?_); (focus repeat' (first | with_reducible assumption | with_reducible exact Below.refl _ _ | (with_reducible refine Below.drew ?_) | (with_reducible refine Below.setCell ?_ (by (try dsimp only); omega) _) | (with_reducible refine Below.alloc ?_ (by (try simp only [World.size_setCell]); (try simp only [World.size_drew]); (try simp only [World.size_alloc]); (try simp only [World.size_setCell]); (try simp only [World.size_alloc]); omega) _))); rintro e w5 ⟨i, hpl, rfl, hb0⟩; have hb5 : Below wb.heap.size wb w5 := below_step (by repeat' (first | with_reducible assumption | with_reducible exact Below.refl _ _ | (with_reducible refine Below.drew ?_) | (with_reducible refine Below.setCell ?_ (by (try dsimp only); omega) _) | (with_reducible refine Below.alloc ?_ (by (try simp only [World.size_setCell]); (try simp only [World.size_drew]); (try simp only [World.size_alloc]); (try simp only [World.size_setCell]); (try simp only [World.size_alloc]); omega) _))) hb0 (Nat.le_refl _); have HPl := Lib.hid hpl; have hi := hpl.1; have hi0 : (0 : Int) ≤ (i : Int) := (by omega); have hi1 : (i : Int) ≤ (xs.length : Int) := (by omega); clear hpl)
        | fail)
    all_goals go_wp2_with fail
    all_goals go_meet
    all_goals first
      | exact ⟨i, _, i * 3, xs.length - i, HPl.out, rfl, fun _ => rfl, rfl, rfl, rfl, hb5⟩
      | exact ⟨i, _, _, 0, HPl.out, by omega, fun h => absurd h (by omega), rfl, rfl, rfl, hb5⟩
      | (trace_state; fail)
  case rest =>
    obtain ⟨i, c, q, m, hpl, hm, hq, rfl, rfl, rfl, hbc⟩ := hcut
    obtain ⟨w2, rfl⟩ : ∃ w2 : World, w2 = wc := ⟨_, rfl⟩
    have HPl := Lib.hid hpl
    have hi := hpl.1
    have HB2 := Lib.hid (HB0.out.trans (hbc.mono (by have := HZ.out; omega)))
    have HM2 := Lib.hid (HM0.out.below hbc (by have := HZ.out; omega))
    have HFst := Lib.hid (dyn_first (ws := allW D N) (ts := xs) i (fun j hj hji => by have := HPl.out.2.1 j hj hji; omega))
    have HMm := Lib.hid hm
    have HQ := Lib.hid hq
    have hm9 : m ≤ 121 := by omega
    clear hpl hbc hm hq
    go_wp2_with fail
    go_loopw [15] (fun v15 wr => ∃ (j : Nat) (f : VF) (n : Nat), j ≤ m ∧ v15 = .int .i64 j ∧ dynTo (allW D N) xs (i + j) = some f ∧ n ≤ j * 121 ∧ MapV wr w.heap.size n f ∧ Below w.heap.size w wr) (fun v15 _ => m - (intOf v15).toNat)
    case atStart => exact ⟨0, fun _ => none, 0, Nat.zero_le _, rfl, HFst.out, Nat.zero_le _, HM2.out, HB2.out⟩
    case round =>
      obtain ⟨j, f, n, hj, rfl, hfk, hn, hM, hB⟩ := hrel
      obtain ⟨wo, rfl⟩ : ∃ wo : World, wo = wr := ⟨_, rfl⟩
      have HFk := Lib.hid hfk
      have HM := Lib.hid hM
      have HB := Lib.hid hB
      have hzo := hB.size
      have hmo := hM.lt
      clear hfk hM hB
      by_cases hlt : j < m
      · have hk : i + j < xs.length := by have := HMm.out; omega
        obtain ⟨hsz5, hwd, hisF⟩ := HTerm.out (i + j) hk
        have hnz := HPl.out.2.2 (i + j) hk (by omega)
        obtain ⟨c0, c1, c2⟩ := HTx.out.below HB.out hb1 (i + j) hk
        have hex : 0 + (i + j) * 3 = q + j * 3 := by have := HQ.out (by omega); omega
        rw [hex] at c0 c1 c2
        have HNx := Lib.hid (dyn_next (ws := allW D N) hk (by omega) HFk.out)
        obtain ⟨t, ht⟩ : ∃ t, xs[i + j] = t := ⟨_, rfl⟩
        rw [ht] at hsz5 hwd hisF c0 c1 c2 HNx hnz
        obtain ⟨s, nn, d⟩ := t
        simp only at hsz5 hwd hisF c0 c1 c2 hnz
        have hs0 : ¬ s.size = 0 := by omega
        have HOk := Lib.hid (fun (h : shOk ⟨s, nn, d⟩ = false) => one_bad (ws := allW D N) (f := f) h)
        have HLn := Lib.hid (fun (h : leftW (allW D N) s = none) => one_none (t := ⟨s, nn, d⟩) (f := f) h)
        have HSm := Lib.hid (fun g2 (h : shOk ⟨s, nn, d⟩ = true) (h2 : leftW (allW D N) s = some g2) => one_some (t := ⟨s, nn, d⟩) (f := f) h h2)
        have HShF := Lib.hid (fun (h : shOk ⟨s, nn, d⟩ = true) => sh_isF h)
        have HSc := Lib.hid (fun W => share_c s nn d hisF hs0 hsz5 W)
        have HGg := Lib.hid (HGl.out s hwd)
        have HLb2 := Lib.hid (HLb.out s hsz5 hwd)
        have HGf := Lib.hid (dyn_good HFk.out)
        obtain ⟨qv, hqv⟩ : ∃ qv, dynOne (allW D N) ⟨s, nn, d⟩ f = qv := ⟨_, rfl⟩
        rw [hqv] at HNx HOk HLn HSm
        obtain ⟨r, hr⟩ : ∃ r, leftW (allW D N) s = r := ⟨_, rfl⟩
        rw [hr] at HLn HSm HGg HLb2
        have hk1 : IntKind.i64.wrap (s.size : Int) = s.size := IntWalk.i64_in _ ⟨by omega, by omega⟩
        clear ht hqv hr hwd hisF hnz hex
        have hb1o : g1 < wo.heap.size := Nat.lt_of_lt_of_le hb1 HB.out.size
        go_upto_region 5 with fail
        have hTt := (below1 wo (.cells #[.string s, .int .i64 nn, .int .i64 d] 53))
        have e0 : (wo.alloc (.cells #[.string s, .int .i64 nn, .int .i64 d] 53)).cell? ⟨wo.heap.size, 0, none⟩ = some (.string s) := by go_simp
        have e1 : (wo.alloc (.cells #[.string s, .int .i64 nn, .int .i64 d] 53)).cell? ⟨wo.heap.size, 1, none⟩ = some (.int .i64 nn) := by go_simp
        have e2 : (wo.alloc (.cells #[.string s, .int .i64 nn, .int .i64 d] 53)).cell? ⟨wo.heap.size, 2, none⟩ = some (.int .i64 d) := by go_simp
        have HBv := Lib.hid (HB.out.trans (hTt.mono hzo))
        have HMv := Lib.hid (HM.out.below hTt hmo)
        have hvz : (wo.alloc (.cells #[.string s, .int .i64 nn, .int .i64 d] 53)).heap.size = wo.heap.size + 1 := by simp
        generalize (wo.alloc (.cells #[.string s, .int .i64 nn, .int .i64 d] 53)) = wv at *
        have htv : wo.heap.size < wv.heap.size := by omega
        have KV := Lib.hid (show ∀ w', Below wv.heap.size wv w' → (w'.cell? ⟨wo.heap.size, 0, none⟩ = some (.string s) ∧ w'.cell? ⟨wo.heap.size, 1, none⟩ = some (.int .i64 nn) ∧ w'.cell? ⟨wo.heap.size, 2, none⟩ = some (.int .i64 d) ∧ w'.cell? ⟨p, 0, none⟩ = some (.int .i64 D) ∧ w'.cell? ⟨p, 1, none⟩ = some (.int .i64 N) ∧ w'.cell? ⟨p, 2, none⟩ = some (.slice aS (allW D N).length cS)) from fun w' hb => by
          obtain ⟨k0, k1, k2, -, -, -⟩ := KS.out w' (HBv.out.trans (hb.mono (by omega)))
          exact ⟨(hb.cell (p := ⟨wo.heap.size, 0, none⟩) htv).trans e0, (hb.cell (p := ⟨wo.heap.size, 1, none⟩) htv).trans e1, (hb.cell (p := ⟨wo.heap.size, 2, none⟩) htv).trans e2, k0, k1, k2⟩)
        have HVZ := Lib.hid hvz
        have HWf := Lib.hid (fun x W (_ : Below wv.heap.size wv W) => wholeFraction_c x W)
        have HSw := Lib.hid (fun W (_ : Below wv.heap.size wv W) => HSc.out W)
        clear hTt c0 c1 c2 hvz
        cases hok : shOk ⟨s, nn, d⟩ with
        | false =>
          have HF := Lib.hid (HDead.out (i + j + 1) (by omega) (HNx.out.trans (HOk.out hok)))
          have HC3 := Lib.hid (show fC (nn * 1) (d * (s.size : Int)) = 3 from fC_no hok)
          rw [HC3.out] at HSw
          clear hok
          go_region_held2 (fun w' => w'.cell? ⟨wo.heap.size, 0, none⟩ = some (.string s) ∧ w'.cell? ⟨wo.heap.size, 1, none⟩ = some (.int .i64 nn) ∧ w'.cell? ⟨wo.heap.size, 2, none⟩ = some (.int .i64 d) ∧ w'.cell? ⟨p, 0, none⟩ = some (.int .i64 D) ∧ w'.cell? ⟨p, 1, none⟩ = some (.int .i64 N) ∧ w'.cell? ⟨p, 2, none⟩ = some (.slice aS (allW D N).length cS))
            ((refine KV.out _ ?_; repeat' (first | with_reducible assumption | with_reducible exact Below.refl _ _ | (with_reducible refine Below.drew ?_) | (with_reducible refine Below.setCell ?_ (by (try dsimp only); omega) _) | (with_reducible refine Below.alloc ?_ (by (try simp only [World.size_setCell]); (try simp only [World.size_drew]); (try simp only [World.size_alloc]); (try simp only [World.size_setCell]); (try simp only [World.size_alloc]); omega) _))))
            (first
              | (go_at_call 46; (with_reducible refine (HWf.out _ _ ?_).mono ?_); (focus repeat' (first | with_reducible assumption | with_reducible exact Below.refl _ _ | (with_reducible refine Below.drew ?_) | (with_reducible refine Below.setCell ?_ (by (try dsimp only); omega) _) | (with_reducible refine Below.alloc ?_ (by (try simp only [World.size_setCell]); (try simp only [World.size_drew]); (try simp only [World.size_alloc]); (try simp only [World.size_setCell]); (try simp only [World.size_alloc]); omega) _))); rintro e w5 ⟨rfl, hb0⟩; have hb5 : Below wv.heap.size wv w5 := below_step (by repeat' (first | with_reducible assumption | with_reducible exact Below.refl _ _ | (with_reducible refine Below.drew ?_) | (with_reducible refine Below.setCell ?_ (by (try dsimp only); omega) _) | (with_reducible refine Below.alloc ?_ (by (try simp only [World.size_setCell]); (try simp only [World.size_drew]); (try simp only [World.size_alloc]); (try simp only [World.size_setCell]); (try simp only [World.size_alloc]); omega) _))) hb0 (Nat.le_refl _); have hz5 := hb5.size; (try have B0 : Box2 w5 wv.heap.size 0 0 := Box2.next (by exact (Box2.new wv 0 0 _).drew) hb0))
              | (go_at_call 45; (with_reducible refine (HSw.out _ ?_).mono ?_); (focus repeat' (first | with_reducible assumption | with_reducible exact Below.refl _ _ | (with_reducible refine Below.drew ?_) | (with_reducible refine Below.setCell ?_ (by (try dsimp only); omega) _) | (with_reducible refine Below.alloc ?_ (by (try simp only [World.size_setCell]); (try simp only [World.size_drew]); (try simp only [World.size_alloc]); (try simp only [World.size_setCell]); (try simp only [World.size_alloc]); omega) _))); rintro e w6 ⟨rfl, hb0⟩; have hb6 : Below wv.heap.size wv w6 := below_step (by repeat' (first | with_reducible assumption | with_reducible exact Below.refl _ _ | (with_reducible refine Below.drew ?_) | (with_reducible refine Below.setCell ?_ (by (try dsimp only); omega) _) | (with_reducible refine Below.alloc ?_ (by (try simp only [World.size_setCell]); (try simp only [World.size_drew]); (try simp only [World.size_alloc]); (try simp only [World.size_setCell]); (try simp only [World.size_alloc]); omega) _))) hb0 (Nat.le_refl _); have hz6 := hb6.size; have hb56 : Below w5.heap.size w5 w6 := below_step (by repeat' (first | with_reducible assumption | with_reducible exact Below.refl _ _ | (with_reducible refine Below.drew ?_) | (with_reducible refine Below.setCell ?_ (by (try dsimp only); omega) _) | (with_reducible refine Below.alloc ?_ (by (try simp only [World.size_setCell]); (try simp only [World.size_drew]); (try simp only [World.size_alloc]); (try simp only [World.size_setCell]); (try simp only [World.size_alloc]); omega) _))) hb0 (Nat.le_refl _); have hz56 := hb56.size; (try have B0 := B0.next hb56); (try have B1 : Box2 w6 w5.heap.size 0 0 := Box2.next (by exact Box2.new w5 0 0 _) hb0))
              | (go_at_call 44; refine fitting_dead _ _ _ _ (fun w' hb' => ⟨rfl, by rw [HF.out]; exact ⟨rfl, HBv.out.trans ((below_step (by repeat' (first | with_reducible assumption | with_reducible exact Below.refl _ _ | (with_reducible refine Below.drew ?_) | (with_reducible refine Below.setCell ?_ (by (try dsimp only); omega) _) | (with_reducible refine Below.alloc ?_ (by (try simp only [World.size_setCell]); (try simp only [World.size_drew]); (try simp only [World.size_alloc]); (try simp only [World.size_setCell]); (try simp only [World.size_alloc]); omega) _))) hb' (Nat.le_refl _)).mono (by have := HVZ.out; omega))⟩⟩) ?_; intro hF; (try have B2 := Box2.new w6 0 0 51); (try obtain ⟨Bz0, b00, b01, b02, b03⟩ := id B0); (try obtain ⟨Bz1, b10, b11, b12, b13⟩ := id B1); (try obtain ⟨Bz2, b20, b21, b22, b23⟩ := id B2))
              | fail)
          all_goals exact hF.out.elim
        | true =>
          have HC0 := Lib.hid (show fC (nn * 1) (d * (s.size : Int)) = 0 from fC_yes hok)
          rw [HC0.out] at HSw
          have HShI := Lib.hid (HShF.out hok)
          have HSm2 := Lib.hid (fun g2 e => HSm.out g2 hok e)
          obtain ⟨sa, hsa⟩ : ∃ sa, shN ⟨s, nn, d⟩ = sa := ⟨_, rfl⟩
          obtain ⟨sb, hsb⟩ : ∃ sb, shD ⟨s, nn, d⟩ = sb := ⟨_, rfl⟩
          rw [hsa, hsb] at HSw HShI HSm2
          clear hok hsa hsb
          go_cut [6] (FrCut1 wv sa sb)
          case first =>
            go_region_held3 (fun w' => w'.cell? ⟨wo.heap.size, 0, none⟩ = some (.string s) ∧ w'.cell? ⟨wo.heap.size, 1, none⟩ = some (.int .i64 nn) ∧ w'.cell? ⟨wo.heap.size, 2, none⟩ = some (.int .i64 d) ∧ w'.cell? ⟨p, 0, none⟩ = some (.int .i64 D) ∧ w'.cell? ⟨p, 1, none⟩ = some (.int .i64 N) ∧ w'.cell? ⟨p, 2, none⟩ = some (.slice aS (allW D N).length cS))
              ((refine KV.out _ ?_; repeat' (first | with_reducible assumption | with_reducible exact Below.refl _ _ | (with_reducible refine Below.drew ?_) | (with_reducible refine Below.setCell ?_ (by (try dsimp only); omega) _) | (with_reducible refine Below.alloc ?_ (by (try simp only [World.size_setCell]); (try simp only [World.size_drew]); (try simp only [World.size_alloc]); (try simp only [World.size_setCell]); (try simp only [World.size_alloc]); omega) _))))
              (first
                | (go_at_call 46; (with_reducible refine (HWf.out _ _ ?_).mono ?_); (focus repeat' (first | with_reducible assumption | with_reducible exact Below.refl _ _ | (with_reducible refine Below.drew ?_) | (with_reducible refine Below.setCell ?_ (by (try dsimp only); omega) _) | (with_reducible refine Below.alloc ?_ (by (try simp only [World.size_setCell]); (try simp only [World.size_drew]); (try simp only [World.size_alloc]); (try simp only [World.size_setCell]); (try simp only [World.size_alloc]); omega) _))); rintro e w5 ⟨rfl, hb0⟩; have hb5 : Below wv.heap.size wv w5 := below_step (by repeat' (first | with_reducible assumption | with_reducible exact Below.refl _ _ | (with_reducible refine Below.drew ?_) | (with_reducible refine Below.setCell ?_ (by (try dsimp only); omega) _) | (with_reducible refine Below.alloc ?_ (by (try simp only [World.size_setCell]); (try simp only [World.size_drew]); (try simp only [World.size_alloc]); (try simp only [World.size_setCell]); (try simp only [World.size_alloc]); omega) _))) hb0 (Nat.le_refl _); have hz5 := hb5.size; (try have B0 : Box2 w5 wv.heap.size 0 0 := Box2.next (by exact (Box2.new wv 0 0 _).drew) hb0))
                | (go_at_call 45; (with_reducible refine (HSw.out _ ?_).mono ?_); (focus repeat' (first | with_reducible assumption | with_reducible exact Below.refl _ _ | (with_reducible refine Below.drew ?_) | (with_reducible refine Below.setCell ?_ (by (try dsimp only); omega) _) | (with_reducible refine Below.alloc ?_ (by (try simp only [World.size_setCell]); (try simp only [World.size_drew]); (try simp only [World.size_alloc]); (try simp only [World.size_setCell]); (try simp only [World.size_alloc]); omega) _))); rintro e w6 ⟨rfl, hb0⟩; have hb6 : Below wv.heap.size wv w6 := below_step (by repeat' (first | with_reducible assumption | with_reducible exact Below.refl _ _ | (with_reducible refine Below.drew ?_) | (with_reducible refine Below.setCell ?_ (by (try dsimp only); omega) _) | (with_reducible refine Below.alloc ?_ (by (try simp only [World.size_setCell]); (try simp only [World.size_drew]); (try simp only [World.size_alloc]); (try simp only [World.size_setCell]); (try simp only [World.size_alloc]); omega) _))) hb0 (Nat.le_refl _); have hz6 := hb6.size; have hb56 : Below w5.heap.size w5 w6 := below_step (by repeat' (first | with_reducible assumption | with_reducible exact Below.refl _ _ | (with_reducible refine Below.drew ?_) | (with_reducible refine Below.setCell ?_ (by (try dsimp only); omega) _) | (with_reducible refine Below.alloc ?_ (by (try simp only [World.size_setCell]); (try simp only [World.size_drew]); (try simp only [World.size_alloc]); (try simp only [World.size_setCell]); (try simp only [World.size_alloc]); omega) _))) hb0 (Nat.le_refl _); have hz56 := hb56.size; (try have B0 := B0.next hb56); (try have B1 : Box2 w6 w5.heap.size 0 0 := Box2.next (by exact Box2.new w5 0 0 _) hb0))
                | (go_at_call 44; (with_reducible refine (fitting_ok _ _ _).mono ?_); rintro e w7 ⟨rfl, hb0⟩; have hb7 : Below wv.heap.size wv w7 := below_step (by repeat' (first | with_reducible assumption | with_reducible exact Below.refl _ _ | (with_reducible refine Below.drew ?_) | (with_reducible refine Below.setCell ?_ (by (try dsimp only); omega) _) | (with_reducible refine Below.alloc ?_ (by (try simp only [World.size_setCell]); (try simp only [World.size_drew]); (try simp only [World.size_alloc]); (try simp only [World.size_setCell]); (try simp only [World.size_alloc]); omega) _))) hb0 (Nat.le_refl _); have hz7 := hb7.size; have hb67 : Below w6.heap.size w6 w7 := below_step (by repeat' (first | with_reducible assumption | with_reducible exact Below.refl _ _ | (with_reducible refine Below.drew ?_) | (with_reducible refine Below.setCell ?_ (by (try dsimp only); omega) _) | (with_reducible refine Below.alloc ?_ (by (try simp only [World.size_setCell]); (try simp only [World.size_drew]); (try simp only [World.size_alloc]); (try simp only [World.size_setCell]); (try simp only [World.size_alloc]); omega) _))) hb0 (Nat.le_refl _); have hz67 := hb67.size; (try have B0 := B0.next hb67); (try have B1 := B1.next hb67); (try have B2 : Box2 w7 w6.heap.size 0 0 := Box2.next (by exact Box2.new w6 0 0 _) hb0); (try obtain ⟨Bz0, b00, b01, b02, b03⟩ := id B0); (try obtain ⟨Bz1, b10, b11, b12, b13⟩ := id B1); (try obtain ⟨Bz2, b20, b21, b22, b23⟩ := id B2))
                | fail)
            all_goals (go_wp2_with fail; go_meet)
            all_goals (refine ⟨_, rfl, ?_, ?_, ?_⟩)
            all_goals (first | (with_reducible assumption) | (with_reducible exact Nat.le_refl _) | ((repeat' (first | with_reducible assumption | with_reducible exact Below.refl _ _ | (with_reducible refine Below.drew ?_) | (with_reducible refine Below.setCell ?_ (by (try dsimp only); omega) _) | (with_reducible refine Below.alloc ?_ (by (try simp only [World.size_setCell]); (try simp only [World.size_drew]); (try simp only [World.size_alloc]); (try simp only [World.size_setCell]); (try simp only [World.size_alloc]); omega) _))); done) | ((repeat' (first | with_reducible assumption | (with_reducible refine Box2.newAt ?_; first | with_reducible rfl | (simp only [World.size_alloc]; done)) | (with_reducible refine Box2.fill ?_) | (with_reducible refine Box2.alloc ?_ _) | fail)); done) | omega | fail)
          case rest =>
            obtain ⟨gr, rfl, hgr, hbc, hBr⟩ := hcut
            obtain ⟨wq, rfl⟩ : ∃ wq : World, wq = wc := ⟨_, rfl⟩
            have hzq := hbc.size
            obtain ⟨e0', e1', e2', s0', s1', s2'⟩ := KV.out wq hbc
            obtain ⟨hgrz, f0, f1, -, -⟩ := id hBr
            have HBq := Lib.hid (HBv.out.trans (hbc.mono (by have := HVZ.out; omega)))
            have HMq := Lib.hid (HMv.out.below hbc (by have := HVZ.out; omega))
            have htq : wo.heap.size < wq.heap.size := by omega
            have hpq : p < wq.heap.size := by omega
            have KW := Lib.hid (show ∀ w', Below wq.heap.size wq w' → (w'.cell? ⟨p, 0, none⟩ = some (.int .i64 D) ∧ w'.cell? ⟨p, 1, none⟩ = some (.int .i64 N) ∧ w'.cell? ⟨p, 2, none⟩ = some (.slice aS (allW D N).length cS) ∧ w'.cell? ⟨wo.heap.size, 0, none⟩ = some (.string s) ∧ w'.cell? ⟨gr, 0, none⟩ = some (.int .i64 sa) ∧ w'.cell? ⟨gr, 1, none⟩ = some (.int .i64 sb)) from fun w' hb => ⟨(hb.cell (p := ⟨p, 0, none⟩) hpq).trans s0', (hb.cell (p := ⟨p, 1, none⟩) hpq).trans s1', (hb.cell (p := ⟨p, 2, none⟩) hpq).trans s2', (hb.cell (p := ⟨wo.heap.size, 0, none⟩) htq).trans e0', (hb.cell (p := ⟨gr, 0, none⟩) hgrz).trans f0, (hb.cell (p := ⟨gr, 1, none⟩) hgrz).trans f1⟩)
            have hwp : p ≠ w.heap.size := by omega
            have hwt : wo.heap.size ≠ w.heap.size := by omega
            have hwg : gr ≠ w.heap.size := by have := HVZ.out; omega
            have KG := Lib.hid (show ∀ w', wq.grownBy w' (some w.heap.size) → (w'.cell? ⟨p, 0, none⟩ = some (.int .i64 D) ∧ w'.cell? ⟨p, 1, none⟩ = some (.int .i64 N) ∧ w'.cell? ⟨p, 2, none⟩ = some (.slice aS (allW D N).length cS) ∧ w'.cell? ⟨wo.heap.size, 0, none⟩ = some (.string s) ∧ w'.cell? ⟨gr, 0, none⟩ = some (.int .i64 sa) ∧ w'.cell? ⟨gr, 1, none⟩ = some (.int .i64 sb)) from fun w' hG => ⟨(gr_cell hG hpq hwp).trans s0', (gr_cell hG hpq hwp).trans s1', (gr_cell hG hpq hwp).trans s2', (gr_cell hG htq hwt).trans e0', (gr_cell hG hgrz hwg).trans f0, (gr_cell hG hgrz hwg).trans f1⟩)
            have HLw := Lib.hid (fun W (hW : Below wq.heap.size wq W) => HLb2.out W (HBq.out.trans (hW.mono (by omega))))
            have HAw := Lib.hid (fun g2 (e : r = some g2) bx mx (hne : w.heap.size < bx) W (hW : Below wq.heap.size wq W) m1 m2 => HAd.out f g2 HGf.out (HGg.out g2 e) sa sb HShI.out w.heap.size n bx mx (by omega) (Nat.le_refl _) (by omega) W (HBq.out.trans (hW.mono (by omega))) m1 m2)
            clear hbc hBr e0 e1 e2 e0' e1' e2' s0' s1' s2' f0 f1
            go_upto_region 6 with fail
            go_region_held2 (fun w' => w'.cell? ⟨p, 0, none⟩ = some (.int .i64 D) ∧ w'.cell? ⟨p, 1, none⟩ = some (.int .i64 N) ∧ w'.cell? ⟨p, 2, none⟩ = some (.slice aS (allW D N).length cS) ∧ w'.cell? ⟨wo.heap.size, 0, none⟩ = some (.string s) ∧ w'.cell? ⟨gr, 0, none⟩ = some (.int .i64 sa) ∧ w'.cell? ⟨gr, 1, none⟩ = some (.int .i64 sb))
              (first | (exact KG.out _ hG9) | ((refine KW.out _ ?_); (repeat' (first | with_reducible assumption | with_reducible exact Below.refl _ _ | (with_reducible refine Below.drew ?_) | (with_reducible refine Below.setCell ?_ (by (try dsimp only); omega) _) | (with_reducible refine Below.alloc ?_ (by (try simp only [World.size_setCell]); (try simp only [World.size_drew]); (try simp only [World.size_alloc]); (try simp only [World.size_setCell]); (try simp only [World.size_alloc]); omega) _))); done) | fail)
              (first
                | (go_at_call 47; (with_reducible refine work_or (HLw.out _ ?_) ?_ ?_); (focus repeat' (first | with_reducible assumption | with_reducible exact Below.refl _ _ | (with_reducible refine Below.drew ?_) | (with_reducible refine Below.setCell ?_ (by (try dsimp only); omega) _) | (with_reducible refine Below.alloc ?_ (by (try simp only [World.size_setCell]); (try simp only [World.size_drew]); (try simp only [World.size_alloc]); (try simp only [World.size_setCell]); (try simp only [World.size_alloc]); omega) _))); (focus (intro e w' hb'; refine ⟨rfl, ?_⟩; rw [HDead.out (i + j + 1) (by omega) (HNx.out.trans (HLn.out e))]; exact ⟨rfl, HBq.out.trans ((below_step (by repeat' (first | with_reducible assumption | with_reducible exact Below.refl _ _ | (with_reducible refine Below.drew ?_) | (with_reducible refine Below.setCell ?_ (by (try dsimp only); omega) _) | (with_reducible refine Below.alloc ?_ (by (try simp only [World.size_setCell]); (try simp only [World.size_drew]); (try simp only [World.size_alloc]); (try simp only [World.size_setCell]); (try simp only [World.size_alloc]); omega) _))) hb' (Nat.le_refl _)).mono (by omega))⟩)); intro bx mx fx wx eX hlx hb0 hnx hMx; have hbx : Below wq.heap.size wq wx := below_step (by repeat' (first | with_reducible assumption | with_reducible exact Below.refl _ _ | (with_reducible refine Below.drew ?_) | (with_reducible refine Below.setCell ?_ (by (try dsimp only); omega) _) | (with_reducible refine Below.alloc ?_ (by (try simp only [World.size_setCell]); (try simp only [World.size_drew]); (try simp only [World.size_alloc]); (try simp only [World.size_setCell]); (try simp only [World.size_alloc]); omega) _))) hb0 (Nat.le_refl _); have hzx : w.heap.size < bx := (by (try simp only [World.size_drew] at hlx); omega))
                | (go_at_call 32; (with_reducible refine add_or (HAw.out fx eX bx mx hzx _ ?_ ?_ ?_) ?_ ?_); (focus repeat' (first | with_reducible assumption | with_reducible exact Below.refl _ _ | (with_reducible refine Below.drew ?_) | (with_reducible refine Below.setCell ?_ (by (try dsimp only); omega) _) | (with_reducible refine Below.alloc ?_ (by (try simp only [World.size_setCell]); (try simp only [World.size_drew]); (try simp only [World.size_alloc]); (try simp only [World.size_setCell]); (try simp only [World.size_alloc]); omega) _))); (focus (exact HMq.out.below hbx (by omega))); (focus (with_reducible exact hMx)); (focus (intro e w' hg'; refine ⟨rfl, ?_⟩; rw [HDead.out (i + j + 1) (by omega) (HNx.out.trans ((HSm2.out fx eX).trans e))]; exact ⟨rfl, HBq.out.trans ((hbx.mono (by omega)).trans (below_of_grown hg' (fun g e => by injection e with e; omega) (by have := hbx.size; omega)))⟩)); intro h9 w9 e9 hM9 hG0; have hG9 : wq.grownBy w9 (some w.heap.size) := gr_trans (gr_below hbx) hG0; have hB9 : Below w.heap.size w w9 := (HBq.out.trans ((hbx.mono (by omega)).trans (below_of_grown hG0 (fun g e => by injection e with e; omega) (by have := hbx.size; omega)))))
                | fail)
            all_goals
              have HM9 := Lib.hid hM9
              have HB9 := Lib.hid hB9
              have HN9 := Lib.hid (show dynTo (allW D N) xs (i + (j + 1)) = some h9 from HNx.out.trans ((HSm2.out fx eX).trans e9))
              clear hM9 hB9 hG9 hbx
              go_wp2_with fail
              go_roundw
              case rel => exact ⟨j + 1, h9, n + (allW D N).length, hlt, by go_num, HN9.out, by omega, HM9.out, HB9.out⟩
              case measure => simp [intOf]; omega
      · obtain rfl : j = m := by omega
        have HO2 := Lib.hid (HOut.out.symm.trans (show dynTo (allW D N) xs xs.length = some f from by rw [show xs.length = i + j by have := HMm.out; omega]; exact HFk.out))
        go_wp2
        rw [HO2.out]
        go_ret
        exact ⟨w.heap.size, n, rfl, Nat.le_refl _, HB.out, by omega, HM.out⟩

set_option maxRecDepth 100000 in
set_option maxHeartbeats 4000000 in
theorem iDynkin_1 (L V : Int) (g1 : Nat) (xs : List Tm) (hl1 : xs.length ≤ 1048576) (hs1 : ∀ i (h : i < xs.length), (xs[i]).s.size ≤ maxLen) (h1 : serB L V xs = false) (w : World) (hb1 : g1 < w.heap.size) (t1 : TermsIn w g1 0 xs) :
    Calls Tryz.prog 18 #[.agg #[.int .i64 L, .int .i64 V, .slice (some ⟨g1, 0, none⟩) xs.length xs.length]] w (SerPost 0 0 [] 1 w) := by
  have HIs := Lib.hid (fun W (hW : Below w.heap.size w W) => iIsSeries_c L V g1 0 xs.length xs hl1 hs1 W (Nat.lt_of_lt_of_le hb1 hW.size) (t1.below hW hb1))
  rw [h1] at HIs
  clear hl1 hs1 h1 t1
  go_enter Tryz.func18, Tryz.ntmps18
  go_wp2_with fail
  refine (HIs.out _ (below2 w _ _)).mono ?_
  rintro e w1 ⟨rfl, hb⟩
  have hz1 : w.heap.size + 2 ≤ w1.heap.size := by have := hb.size; simpa using this
  have HB1 := Lib.hid (show Below (w.heap.size + 1 + 1) _ w1 from by simpa using hb)
  have bc := bcellB HB1.out
  have r0 : w1.cell? ⟨w.heap.size + 1, 0, none⟩ = some (.int .i64 0) := (bc.1 _ _ (by omega)).trans (by go_simp)
  have r1 : w1.cell? ⟨w.heap.size + 1, 1, none⟩ = some (.int .i64 0) := (bc.1 _ _ (by omega)).trans (by go_simp)
  have r2 : w1.cell? ⟨w.heap.size + 1, 2, none⟩ = some (.slice none 0 0) := (bc.1 _ _ (by omega)).trans (by go_simp)
  have z0 : w1.frozen? ⟨w.heap.size + 1, 0, none⟩ = false := (bc.2 _ _ (by omega)).trans (by go_simp)
  have z1 : w1.frozen? ⟨w.heap.size + 1, 1, none⟩ = false := (bc.2 _ _ (by omega)).trans (by go_simp)
  have z2 : w1.frozen? ⟨w.heap.size + 1, 2, none⟩ = false := (bc.2 _ _ (by omega)).trans (by go_simp)
  have HW := Lib.hid ((below2 w (.cells #[.int .i64 L, .int .i64 V, .slice (some ⟨g1, 0, none⟩) xs.length xs.length] 26) (.cells #[.int .i64 0, .int .i64 0, .slice none 0 0] 26)).trans (HB1.out.mono (by omega)))
  clear bc hb
  go_wp2
  refine bodyPost_ret (v := .tuple #[.agg #[.int .i64 0, .int .i64 0, .slice none 0 0], .int .i64 1]) (by simp [results, Tryz.results18, go_sem, r0, r1, r2]) rfl (SerPost.err 1 rfl ?_)
  have hW := HW.out
  go_grown

set_option maxRecDepth 100000 in
set_option maxHeartbeats 8000000 in
theorem iDynkin_2 (D N : Nat) (g1 : Nat) (xs : List Tm) (hl1 : xs.length ≤ 1048576) (hs1 : ∀ i (h : i < xs.length), (xs[i]).s.size ≤ maxLen) (h1 : serB D N xs = true) (w : World) (hb1 : g1 < w.heap.size) (t1 : TermsIn w g1 0 xs) :
    Calls Tryz.prog 18 #[.agg #[.int .i64 D, .int .i64 N, .slice (some ⟨g1, 0, none⟩) xs.length xs.length]] w (FitB D N (dynV (allW D N) xs) w) := by
  have hsh : shapeB (D : Int) (N : Int) = true := by unfold serB at h1; rw [Bool.and_eq_true] at h1; exact h1.1
  have hDN := shape_out hsh
  have hmf : ∀ (fn : Fn) (first cap : Array Value) (w : World), (Instr.makeFunc fn first cap).run Tryz.prog w = .ok (.func fn first cap) w := fun _ _ _ _ => rfl
  have hfew := allW_few (D := D) (by omega) (n := N) (by omega)
  have HWl := Lib.hid (show (allW D N).length ≤ 1048576 by omega)
  have HWs := Lib.hid (show ∀ s ∈ allW D N, s.size ≤ 1048576 from fun s hs => by have := allW_size D N s hs; omega)
  have HIs := Lib.hid (fun W (hW : Below w.heap.size w W) => iIsSeries_c D N g1 0 xs.length xs hl1 hs1 W (Nat.lt_of_lt_of_le hb1 hW.size) (t1.below hW hb1))
  rw [h1] at HIs
  have HDw := Lib.hid (fun p px aS cS W (hW : Below w.heap.size w W) a1 a2 a3 a4 a5 a6 a7 a8 a9 => dynWork D N g1 xs hl1 hs1 h1 p px aS cS W a1 a2 a3 a4 a5 a6 a7 a8 a9 (Nat.lt_of_lt_of_le hb1 hW.size) (t1.below hW hb1))
  clear hs1 h1 t1 hsh
  go_enter Tryz.func18, Tryz.ntmps18
  go_wp2_with fail
  refine (HIs.out _ (below2 w _ _)).mono ?_
  rintro e w1 ⟨rfl, hb⟩
  have hz1 : w.heap.size + 2 ≤ w1.heap.size := by have := hb.size; simpa using this
  have HB1 := Lib.hid (show Below (w.heap.size + 1 + 1) ((w.alloc (.cells #[.int .i64 D, .int .i64 N, .slice (some ⟨g1, 0, none⟩) xs.length xs.length] 26)).alloc (.cells #[.int .i64 0, .int .i64 0, .slice none 0 0] 26)) w1 from by simpa using hb)
  have bc := bcellB HB1.out
  have x0 : w1.cell? ⟨w.heap.size, 0, none⟩ = some (.int .i64 D) := (bc.1 _ _ (by omega)).trans (by go_simp)
  have x1 : w1.cell? ⟨w.heap.size, 1, none⟩ = some (.int .i64 N) := (bc.1 _ _ (by omega)).trans (by go_simp)
  clear bc hb
  go_wp2_with fail
  refine (spaceOf_c D N (by omega) (by omega) _).mono ?_
  clear x0 x1
  rintro e w2 ⟨aS, cS, rfl, hb2', hN2⟩
  have HB2 := Lib.hid (HB1.out.trans (hb2'.mono hz1))
  have hz2 : w.heap.size + 2 ≤ w2.heap.size := by have := hb2'.size; omega
  have HB3 := Lib.hid (HB2.out.alloc (by omega) (.cells #[.int .i64 D, .int .i64 N, .slice aS (allW D N).length cS] 57))
  have HW3 := Lib.hid ((below2 w (.cells #[.int .i64 D, .int .i64 N, .slice (some ⟨g1, 0, none⟩) xs.length xs.length] 26) (.cells #[.int .i64 0, .int .i64 0, .slice none 0 0] 26)).trans (HB3.out.mono (by omega)))
  have bc := bcellB HB3.out
  have Kx0 : (w2.alloc (.cells #[.int .i64 D, .int .i64 N, .slice aS (allW D N).length cS] 57)).cell? ⟨w.heap.size, 0, none⟩ = some (.int .i64 D) := (bc.1 _ _ (by omega)).trans (by go_simp)
  have Kx1 : (w2.alloc (.cells #[.int .i64 D, .int .i64 N, .slice aS (allW D N).length cS] 57)).cell? ⟨w.heap.size, 1, none⟩ = some (.int .i64 N) := (bc.1 _ _ (by omega)).trans (by go_simp)
  have Kx2 : (w2.alloc (.cells #[.int .i64 D, .int .i64 N, .slice aS (allW D N).length cS] 57)).cell? ⟨w.heap.size, 2, none⟩ = some (.slice (some ⟨g1, 0, none⟩) xs.length xs.length) := (bc.1 _ _ (by omega)).trans (by go_simp)
  have Ks0 : (w2.alloc (.cells #[.int .i64 D, .int .i64 N, .slice aS (allW D N).length cS] 57)).cell? ⟨w2.heap.size, 0, none⟩ = some (.int .i64 D) := by go_simp
  have Ks1 : (w2.alloc (.cells #[.int .i64 D, .int .i64 N, .slice aS (allW D N).length cS] 57)).cell? ⟨w2.heap.size, 1, none⟩ = some (.int .i64 N) := by go_simp
  have Ks2 : (w2.alloc (.cells #[.int .i64 D, .int .i64 N, .slice aS (allW D N).length cS] 57)).cell? ⟨w2.heap.size, 2, none⟩ = some (.slice aS (allW D N).length cS) := by go_simp
  have HNs := Lib.hid (hN2.row.below (below1 w2 (.cells #[.int .i64 D, .int .i64 N, .slice aS (allW D N).length cS] 57)) (Nat.le_refl _))
  have hzz : (w2.alloc (.cells #[.int .i64 D, .int .i64 N, .slice aS (allW D N).length cS] 57)).heap.size = w2.heap.size + 1 := by simp
  have HR := Lib.hid (show Z3 w2 (w.heap.size + 1) from by
    have bc := bcellB HB2.out
    exact ⟨by omega, (bc.1 _ _ (by omega)).trans (by go_simp), (bc.1 _ _ (by omega)).trans (by go_simp), (bc.1 _ _ (by omega)).trans (by go_simp), (bc.2 _ _ (by omega)).trans (by go_simp), (bc.2 _ _ (by omega)).trans (by go_simp), (bc.2 _ _ (by omega)).trans (by go_simp)⟩)
  have HWork := Lib.hid (fun W (hW : Below (w2.alloc (.cells #[.int .i64 D, .int .i64 N, .slice aS (allW D N).length cS] 57)).heap.size (w2.alloc (.cells #[.int .i64 D, .int .i64 N, .slice aS (allW D N).length cS] 57)) W) => HDw.out w2.heap.size w.heap.size aS cS W (HW3.out.trans (hW.mono (by omega))) (by have := hW.size; omega) (by have := hW.size; omega) ((hW.cell (p := ⟨w2.heap.size, 0, none⟩) (by show w2.heap.size < _; omega)).trans Ks0) ((hW.cell (p := ⟨w2.heap.size, 1, none⟩) (by show w2.heap.size < _; omega)).trans Ks1) ((hW.cell (p := ⟨w2.heap.size, 2, none⟩) (by show w2.heap.size < _; omega)).trans Ks2) ((hW.cell (p := ⟨w.heap.size, 0, none⟩) (by show w.heap.size < _; omega)).trans Kx0) ((hW.cell (p := ⟨w.heap.size, 1, none⟩) (by show w.heap.size < _; omega)).trans Kx1) ((hW.cell (p := ⟨w.heap.size, 2, none⟩) (by show w.heap.size < _; omega)).trans Kx2) (HNs.out.below hW (Nat.le_refl _)))
  clear bc hb2' hN2
  cases hv : dynV (allW D N) xs with
  | none =>
    have HVv := Lib.hid hv
    have HDoor := Lib.hid (door_no D N aS (allW D N).length cS 42 #[.pointer (some ⟨w.heap.size, 0, none⟩), .pointer (some ⟨w2.heap.size, 0, none⟩)] (fun _ => by kernel_rfl) (w2.alloc (.cells #[.int .i64 D, .int .i64 N, .slice aS (allW D N).length cS] 57)) (fun W hW => by have hk := HWork.out W hW; rw [hv] at hk; exact hk))
    clear Kx0 Kx1 Kx2 Ks0 Ks1 Ks2 hv
    go_wp2_with fail
    refine HDoor.out.mono ?_
    rintro e w4 ⟨rfl, hb4⟩
    have HZ := Lib.hid ((HR.out.below (below1 w2 (.cells #[.int .i64 D, .int .i64 N, .slice aS (allW D N).length cS] 57)) HR.out.1).below hb4 (by omega))
    have r0 := HZ.out.2.1
    have r1 := HZ.out.2.2.1
    have r2 := HZ.out.2.2.2.1
    have z0 := HZ.out.2.2.2.2.1
    have z1 := HZ.out.2.2.2.2.2.1
    have z2 := HZ.out.2.2.2.2.2.2
    have HW4 := Lib.hid (HW3.out.trans (hb4.mono (by omega)))
    clear hb4
    go_wp2
    rw [HVv.out]
    refine bodyPost_ret (v := .tuple #[.agg #[.int .i64 0, .int .i64 0, .slice none 0 0], .int .i64 3]) (by simp [results, Tryz.results18, go_sem, r0, r1, r2]) rfl (SerPost.err 3 rfl ?_)
    have hW := HW4.out
    go_grown
  | some h =>
    have HVv := Lib.hid hv
    have HDoor := Lib.hid (door_yes D N aS cS (allW D N) HWl.out HWs.out h 42 #[.pointer (some ⟨w.heap.size, 0, none⟩), .pointer (some ⟨w2.heap.size, 0, none⟩)] (fun _ => by kernel_rfl) (w2.alloc (.cells #[.int .i64 D, .int .i64 N, .slice aS (allW D N).length cS] 57)) (fun W hW => by have hk := HWork.out W hW; rw [hv] at hk; exact hk) HNs.out)
    clear Kx0 Kx1 Kx2 Ks0 Ks1 Ks2 hv
    go_wp2_with fail
    refine HDoor.out.mono ?_
    rintro e w4 ⟨a4, c4, rfl, hb4, hN4⟩
    have HZ := Lib.hid ((HR.out.below (below1 w2 (.cells #[.int .i64 D, .int .i64 N, .slice aS (allW D N).length cS] 57)) HR.out.1).below hb4 (by omega))
    have r0 := HZ.out.2.1
    have r1 := HZ.out.2.2.1
    have r2 := HZ.out.2.2.2.1
    have z0 := HZ.out.2.2.2.2.1
    have z1 := HZ.out.2.2.2.2.2.1
    have z2 := HZ.out.2.2.2.2.2.2
    have HW4 := Lib.hid (HW3.out.trans (hb4.mono (by omega)))
    have HN4 := Lib.hid hN4
    clear hb4 hN4
    go_wp2
    rw [HVv.out]
    refine bodyPost_ret (v := .tuple #[.agg #[.int .i64 D, .int .i64 N, .slice a4 (termsOf h (allW D N)).length c4], .int .i64 0]) (by simp [results, Tryz.results18, go_sem, r0, r1, r2]) rfl ⟨a4, c4, rfl, ?_, ?_⟩
    · have hW := HW4.out
      go_grown
    · exact (((HN4.out.far1s (n := w.heap.size + 1) (i := 0) (x := .int .i64 D) (by omega)).far1s (n := w.heap.size + 1) (i := 1) (x := .int .i64 N) (by omega)).far1s (n := w.heap.size + 1) (i := 2) (x := .slice a4 (termsOf h (allW D N)).length c4) (by omega)).mono (by omega) (by simp)
end Go.Proofs.YtjjkkaikinjmdaaGreatDoor
