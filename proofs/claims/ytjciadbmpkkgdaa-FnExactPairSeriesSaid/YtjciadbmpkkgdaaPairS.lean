/-
  The contract of the model's pairing of two series.
-/
import Derived.Test.YtjciadbmpkkgdaaAddP
namespace Go.Proofs.Ytjciadbmpkkgdaa
open Go.RowKit

/-- a new box, as a drawn region leaves it -/
def FCut (w1 : World) (P Q : Int) (v8 : Value) (wy : World) : Prop :=
  ∃ g, v8 = .pointer (some ⟨g, 0, none⟩) ∧ w1.heap.size ≤ g ∧ Below w1.heap.size w1 wy ∧ Box2 wy g P Q
def FCut2 (w1 : World) (N D : Int) (ok : Bool) (v9 v10 : Value) (wy : World) : Prop := FCut w1 N D v9 wy ∧ v10 = .bool ok
/-- what pairing comes to -/
def pairR (r : Option (Int × Int)) : Int × Int × Bool := match r with | none => (0, 0, false) | some a => (a.1, a.2, true)
def PairPost (r : Option (Int × Int)) (W : World) (e : Ending) (w' : World) : Prop := e = .returned (.tuple #[.agg #[.int .i64 (pairR r).1, .int .i64 (pairR r).2.1], .bool (pairR r).2.2]) ∧ Below W.heap.size W w'
def PairAt (ys xs : List Tm) (k : Nat) (a b : Int) : Prop := pairL ys (xs.drop k) (a, b) = pairL ys xs (0, 1) ∧ isF a b = true
theorem ser_fr {L V : Int} {ts : List Tm} (h : serB L V ts = true) : ∀ t ∈ ts, isF t.n t.d = true := fun t ht => by
  have e := ser_term h t ht
  simp only [termB, Bool.and_eq_true] at e
  exact e.2.1
theorem least_at (p : Nat → Prop) : ∀ (f a m : Nat), m = a + f → p m → ∃ n, a ≤ n ∧ n ≤ m ∧ p n ∧ ∀ j, a ≤ j → j < n → ¬ p j
  | 0, a, m, e, h => ⟨m, by omega, Nat.le_refl _, h, fun j h1 h2 => by omega⟩
  | f + 1, a, m, e, h => by
    by_cases ha : p a
    · exact ⟨a, Nat.le_refl _, by omega, ha, fun j h1 h2 => by omega⟩
    · obtain ⟨n, h1, h2, h3, h4⟩ := least_at p f (a + 1) m (by omega) h
      exact ⟨n, by omega, h2, h3, fun j hj1 hj2 => by
        by_cases hj : j = a
        · subst hj; exact ha
        · exact h4 j (by omega) hj2⟩
theorem valL_isF {L V : Int} {ys : List Tm} (h : serB L V ys = true) (s : ByteArray) : isF (valL s.data.toList ys).1 (valL s.data.toList ys).2 = true := by
  by_cases he : ∃ i, ∃ (hi : i < ys.length), (ys[i]).s = s
  · obtain ⟨i, hi, rfl⟩ := he
    obtain ⟨j, hj, hv⟩ : ∃ j, ∃ (hj : j < ys.length), valL (ys[i]).s.data.toList ys = ((ys[j]).n, (ys[j]).d) := by
      obtain ⟨j, _, hj2, hj3, hj4⟩ := least_at (fun j => ∃ hj : j < ys.length, (ys[j]).s = (ys[i]).s) i 0 i (by omega) ⟨hi, rfl⟩
      obtain ⟨hjl, he⟩ := hj3
      exact ⟨j, hjl, valL_at ys j hjl (fun m hm hmj e => hj4 m (Nat.zero_le _) hmj ⟨hm, data_eq e⟩) (by rw [he])⟩
    rw [hv]
    exact ser_fr h _ (List.getElem_mem hj)
  · rw [valL_none ys (fun j hj e => he ⟨j, hj, data_eq e⟩)]
    exact isF_zero_one

set_option maxRecDepth 100000 in
set_option maxHeartbeats 8000000 in
theorem l03Pair_c (L1 V1 L2 V2 : Int) (g1 g2 cap1 cap2 : Nat) (xs ys : List Tm) (hl1 : xs.length ≤ 1048576) (hl2 : ys.length ≤ 1048576) (hs1 : serB L1 V1 xs = true) (hs2 : serB L2 V2 ys = true) (w : World) (hb1 : g1 < w.heap.size) (hb2 : g2 < w.heap.size) (t1 : TermsIn w g1 0 xs) (t2 : TermsIn w g2 0 ys) :
    Calls Try.prog 60 #[.agg #[.int .i64 L1, .int .i64 V1, .slice (some ⟨g1, 0, none⟩) xs.length cap1], .agg #[.int .i64 L2, .int .i64 V2, .slice (some ⟨g2, 0, none⟩) ys.length cap2]] w (PairPost (pairL ys xs (0, 1)) w) := by
  have HT1 := Lib.hid t1
  have HT2 := Lib.hid t2
  have HF1 := Lib.hid (ser_fr hs1)
  have HF2 := Lib.hid (ser_fr hs2)
  have HZ := Lib.hid (fun s => valL_isF hs2 s)
  clear t1 t2 hs1 hs2
  go_enter Try.func60, Try.ntmps60
  go_wp2_with fail
  go_loopw [7] (fun vi wr => ∃ (k : Nat) (a b : Int), k ≤ xs.length ∧ vi = .int .i64 k ∧ PairAt ys xs k a b ∧ Below (w.heap.size + 1 + 1 + 1) (((w.alloc (.cells #[.int .i64 L1, .int .i64 V1, .slice (some ⟨g1, 0, none⟩) xs.length cap1] 29)).alloc (.cells #[.int .i64 L2, .int .i64 V2, .slice (some ⟨g2, 0, none⟩) ys.length cap2] 29)).alloc (.cells #[.int .i64 0, .int .i64 0] 34)) wr ∧ Box2 wr (w.heap.size + 1 + 1 + 1) a b) (fun vi _ => xs.length - (intOf vi).toNat)
  case atStart =>
    refine ⟨0, 0, 1, Nat.zero_le _, rfl, ⟨rfl, isF_zero_one⟩, ?_, ?_⟩
    · first | exact (Below.refl _ _).alloc (by simp) _ | (have h := (Below.refl (w.heap.size + 1 + 1 + 1) (((w.alloc (.cells #[.int .i64 L1, .int .i64 V1, .slice (some ⟨g1, 0, none⟩) xs.length cap1] 29)).alloc (.cells #[.int .i64 L2, .int .i64 V2, .slice (some ⟨g2, 0, none⟩) ys.length cap2] 29)).alloc (.cells #[.int .i64 0, .int .i64 0] 34))); go_grown)
    · have h := Box2.new (((w.alloc (.cells #[.int .i64 L1, .int .i64 V1, .slice (some ⟨g1, 0, none⟩) xs.length cap1] 29)).alloc (.cells #[.int .i64 L2, .int .i64 V2, .slice (some ⟨g2, 0, none⟩) ys.length cap2] 29)).alloc (.cells #[.int .i64 0, .int .i64 0] 34)) 0 1 34
      simp only [World.size_alloc] at h
      exact h
  case round =>
    obtain ⟨k, a, b, hk, rfl, hP, hB, hS⟩ := hrel
    have HP := Lib.hid hP
    have HB := Lib.hid hB
    have HS := Lib.hid hS
    have hzr := hS.1
    have bc := bcellB hB
    have x2 : wr.cell? ⟨w.heap.size, 2, none⟩ = some (.slice (some ⟨g1, 0, none⟩) xs.length cap1) := (bc.1 _ _ (by omega)).trans (by go_simp)
    have y0 : wr.cell? ⟨w.heap.size + 1, 0, none⟩ = some (.int .i64 L2) := (bc.1 _ _ (by omega)).trans (by go_simp)
    have y1 : wr.cell? ⟨w.heap.size + 1, 1, none⟩ = some (.int .i64 V2) := (bc.1 _ _ (by omega)).trans (by go_simp)
    have y2 : wr.cell? ⟨w.heap.size + 1, 2, none⟩ = some (.slice (some ⟨g2, 0, none⟩) ys.length cap2) := (bc.1 _ _ (by omega)).trans (by go_simp)
    have hh0 : w.heap.size < wr.heap.size := by omega
    have hh1 : w.heap.size + 1 < wr.heap.size := by omega
    have HW := Lib.hid ((below3 w (.cells #[.int .i64 L1, .int .i64 V1, .slice (some ⟨g1, 0, none⟩) xs.length cap1] 29) (.cells #[.int .i64 L2, .int .i64 V2, .slice (some ⟨g2, 0, none⟩) ys.length cap2] 29) (.cells #[.int .i64 0, .int .i64 0] 34)).trans (hB.mono (by omega)))
    clear hP hB hS bc
    by_cases hlt : k < xs.length
    · have HN := Lib.hid (pair_next (ys := ys) hlt (a, b))
      obtain ⟨c0, c1, c2⟩ := HT1.out.below HW.out hb1 k hlt
      have HFx := Lib.hid (HF1.out _ (List.getElem_mem hlt))
      have hkI : (0 : Int) ≤ (k : Int) := by omega
      have hkL : (k : Int) < (xs.length : Int) := by omega
      obtain ⟨s, n, d, het⟩ : ∃ s n d, xs[k] = ⟨s, n, d⟩ := ⟨_, _, _, rfl⟩
      rw [het] at c0 c1 c2 HN HFx
      simp only [Nat.zero_add] at c0 c1 c2
      have hTy := HT2.out.below HW.out hb2
      have HTy := Lib.hid hTy
      have hb1r : g1 < wr.heap.size := by omega
      have hb2r : g2 < wr.heap.size := by omega
      have HVf := Lib.hid (HZ.out s)
      obtain ⟨p, q, hpq⟩ : ∃ p q, valL s.data.toList ys = (p, q) := ⟨_, _, rfl⟩
      have HV := Lib.hid hpq
      have HE := Lib.hid het
      rw [hpq] at HVf
      clear het hTy hpq
      go_upto_region 5 with fail
      go_cut [8] (FCut wr p q)
      case first =>
        go_region_held3 (fun w' => w'.cell? ⟨w.heap.size, 2, none⟩ = some (.slice (some ⟨g1, 0, none⟩) xs.length cap1) ∧ w'.cell? ⟨w.heap.size + 1, 0, none⟩ = some (.int .i64 L2) ∧ w'.cell? ⟨w.heap.size + 1, 1, none⟩ = some (.int .i64 V2) ∧ w'.cell? ⟨w.heap.size + 1, 2, none⟩ = some (.slice (some ⟨g2, 0, none⟩) ys.length cap2) ∧ w'.cell? ⟨g1, k * 3, none⟩ = some (.string s))
          (first | exact ⟨f0, f1, f2, f3, f4⟩ | (rw [far_pair hh0, far_pair hh1, far_pair hh1, far_pair hh1, far_pair hb1r]; exact ⟨f0, f1, f2, f3, f4⟩) | go_keep)
          (first
            | (go_at_call 46; refine (l01Value_c L2 V2 g2 0 cap2 ys hl2 s wr.drew (by show g2 < wr.heap.size; exact hb2r) (HTy.out)).mono ?_; rw [HV.out]; rintro e w2 ⟨rfl, hb0⟩; have hb2 : Below wr.heap.size wr w2 := ⟨hb0.os, hb0.tape, hb0.output, hb0.size, hb0.block⟩; have f0 := (hb2.cell (p := ⟨w.heap.size, 2, none⟩) (by show w.heap.size < _; omega)).trans x2; have f1 := (hb2.cell (p := ⟨w.heap.size + 1, 0, none⟩) (by show w.heap.size + 1 < _; omega)).trans y0; have f2 := (hb2.cell (p := ⟨w.heap.size + 1, 1, none⟩) (by show w.heap.size + 1 < _; omega)).trans y1; have f3 := (hb2.cell (p := ⟨w.heap.size + 1, 2, none⟩) (by show w.heap.size + 1 < _; omega)).trans y2; have f4 := (hb2.cell (p := ⟨g1, k * 3, none⟩) (by show g1 < _; omega)).trans c0)
            | (go_at_call 46; refine (l01Value_c L2 V2 g2 0 cap2 ys hl2 s (wr.alloc (.cells #[.int .i64 0, .int .i64 0] 34)).drew (by simp; omega) (HTy.out.below (below1 wr (.cells #[.int .i64 0, .int .i64 0] 34)).drew hb2r)).mono ?_; rw [HV.out]; rintro e w2 ⟨rfl, hb0⟩; have hb2 : Below wr.heap.size wr w2 := (below1 wr (.cells #[.int .i64 0, .int .i64 0] 34)).trans ⟨hb0.os, hb0.tape, hb0.output, hb0.size, fun j hj => hb0.block j (by simp; omega)⟩; have zz : Box2 w2 wr.heap.size 0 0 := (show Box2 (wr.alloc (.cells #[.int .i64 0, .int .i64 0] 34)).drew wr.heap.size 0 0 from Box2.new _ 0 0 _).below hb0 (by simp); have zc0 := zz.2.1; have zc1 := zz.2.2.1; have zf0 := zz.2.2.2.1; have zf1 := zz.2.2.2.2; have f0 := (hb2.cell (p := ⟨w.heap.size, 2, none⟩) (by show w.heap.size < _; omega)).trans x2; have f1 := (hb2.cell (p := ⟨w.heap.size + 1, 0, none⟩) (by show w.heap.size + 1 < _; omega)).trans y0; have f2 := (hb2.cell (p := ⟨w.heap.size + 1, 1, none⟩) (by show w.heap.size + 1 < _; omega)).trans y1; have f3 := (hb2.cell (p := ⟨w.heap.size + 1, 2, none⟩) (by show w.heap.size + 1 < _; omega)).trans y2; have f4 := (hb2.cell (p := ⟨g1, k * 3, none⟩) (by show g1 < _; omega)).trans c0))
        all_goals (go_wp2_with fail; go_meet)
        · exact ⟨w2.heap.size, rfl, hb2.size, hb2.alloc hb2.size _, Box2.new _ _ _ _⟩
        · exact ⟨wr.heap.size, rfl, Nat.le_refl _, (hb2.setCell (p := ⟨wr.heap.size, 0, none⟩) (Nat.le_refl _) _).setCell (p := ⟨wr.heap.size, 1, none⟩) (Nat.le_refl _) _, zz.store p q⟩
      case rest =>
        obtain ⟨g, rfl, hg1, hBy, hX⟩ := hcut
        obtain ⟨wy, rfl⟩ : ∃ wy : World, wy = wc := ⟨_, rfl⟩
        have hzy := hBy.size
        have p0y := hX.2.1
        have p1y := hX.2.2.1
        have hgl := hX.1
        clear x2 y0 y1 y2 c0 c1 c2
        go_wp2_with fail
        refine (l01Zero_c p q _).mono ?_
        rintro e w1 ⟨rfl, hb0⟩
        have HBy := Lib.hid (hBy.trans (hb0.mono hzy))
        have HB1 := Lib.hid (HB.out.trans (HBy.out.mono (by omega)))
        have HS1 := Lib.hid (HS.out.below HBy.out hzr)
        have HX1 := Lib.hid (hX.below hb0 hgl)
        have hz1 := HBy.out.size
        have hgl1 := HX1.out.1
        clear hBy hX hb0 p0y p1y
        by_cases hp0 : p = 0
        · have HA := Lib.hid (show PairAt ys xs (k + 1) a b from ⟨by
            have e := HN.out
            rw [pair_skip (t := ⟨s, n, d⟩) HV.out hp0] at e
            exact e.symm.trans HP.out.1, HP.out.2⟩)
          subst hp0
          go_wp2
          go_roundw
          case rel => exact ⟨k + 1, a, b, by omega, by go_num, HA.out, HB1.out, HS1.out⟩
          case measure => simp [intOf]; omega
        · have hpb : (p == 0) = false := by simpa using hp0
          rw [hpb]
          have hnf := isF_abs HFx.out
          have hpf := isF_abs HVf.out
          have hn1 : n.natAbs ≤ 1000000000 := hnf.1
          have hn2 : d.natAbs ≤ 1000000000 := hnf.2.1
          have hp1 : p.natAbs ≤ 1000000000 := hpf.1
          have hp2 : q.natAbs ≤ 1000000000 := hpf.2.1
          have bc := bcellB HB1.out
          have x5 : w1.cell? ⟨w.heap.size, 2, none⟩ = some (.slice (some ⟨g1, 0, none⟩) xs.length cap1) := (bc.1 _ _ (by omega)).trans (by go_simp)
          have HW1 := Lib.hid ((below3 w (.cells #[.int .i64 L1, .int .i64 V1, .slice (some ⟨g1, 0, none⟩) xs.length cap1] 29) (.cells #[.int .i64 L2, .int .i64 V2, .slice (some ⟨g2, 0, none⟩) ys.length cap2] 29) (.cells #[.int .i64 0, .int .i64 0] 34)).trans (HB1.out.mono (by omega)))
          obtain ⟨d0, d1, d2⟩ := HT1.out.below HW1.out hb1 k hlt
          have het2 : xs[k] = ⟨s, n, d⟩ := HE.out
          rw [het2] at d0 d1 d2
          simp only [Nat.zero_add] at d0 d1 d2
          have p0 := HX1.out.2.1
          have p1 := HX1.out.2.2.1
          have hh0 : w.heap.size < w1.heap.size := by omega
          have hb1r : g1 < w1.heap.size := by omega
          clear bc het2 d0 hnf hpf
          go_upto_region 7 with fail
          go_cut [9, 10] (FCut2 w1 (fN (n * p) (d * q)) (fD (n * p) (d * q)) (fOk (n * p) (d * q)))
          case first =>
            go_region_held3 (fun w' => w'.cell? ⟨w.heap.size, 2, none⟩ = some (.slice (some ⟨g1, 0, none⟩) xs.length cap1) ∧ w'.cell? ⟨g1, k * 3 + 1, none⟩ = some (.int .i64 n) ∧ w'.cell? ⟨g1, k * 3 + 2, none⟩ = some (.int .i64 d) ∧ w'.cell? ⟨g, 0, none⟩ = some (.int .i64 p) ∧ w'.cell? ⟨g, 1, none⟩ = some (.int .i64 q))
              (first | exact ⟨f0, f1, f2, f3, f4⟩ | (rw [far_pair hh0, far_pair hb1r, far_pair hb1r, far_pair hgl1, far_pair hgl1]; exact ⟨f0, f1, f2, f3, f4⟩) | go_keep)
              (first
              | (go_at_call 98; refine (l01TimesFrac_c n d p q hn1 hn2 hp1 hp2 w1.drew).mono ?_; rintro e w2 ⟨rfl, hb0⟩; have hb2 : Below w1.heap.size w1 w2 := ⟨hb0.os, hb0.tape, hb0.output, hb0.size, hb0.block⟩; have f0 := (hb2.cell (p := ⟨w.heap.size, 2, none⟩) (by show w.heap.size < _; omega)).trans x5; have f1 := (hb2.cell (p := ⟨g1, k * 3 + 1, none⟩) (by show g1 < _; omega)).trans d1; have f2 := (hb2.cell (p := ⟨g1, k * 3 + 2, none⟩) (by show g1 < _; omega)).trans d2; have f3 := (hb2.cell (p := ⟨g, 0, none⟩) (by show g < _; omega)).trans p0; have f4 := (hb2.cell (p := ⟨g, 1, none⟩) (by show g < _; omega)).trans p1)
              | (go_at_call 98; refine (l01TimesFrac_c n d p q hn1 hn2 hp1 hp2 (w1.alloc (.cells #[.int .i64 0, .int .i64 0] 34)).drew).mono ?_; rintro e w2 ⟨rfl, hb0⟩; have hb2 : Below w1.heap.size w1 w2 := (below1 w1 (.cells #[.int .i64 0, .int .i64 0] 34)).trans ⟨hb0.os, hb0.tape, hb0.output, hb0.size, fun j hj => hb0.block j (by simp; omega)⟩; have zz : Box2 w2 w1.heap.size 0 0 := (show Box2 (w1.alloc (.cells #[.int .i64 0, .int .i64 0] 34)).drew w1.heap.size 0 0 from Box2.new _ 0 0 _).below hb0 (by simp); have zc0 := zz.2.1; have zc1 := zz.2.2.1; have zf0 := zz.2.2.2.1; have zf1 := zz.2.2.2.2; have f0 := (hb2.cell (p := ⟨w.heap.size, 2, none⟩) (by show w.heap.size < _; omega)).trans x5; have f1 := (hb2.cell (p := ⟨g1, k * 3 + 1, none⟩) (by show g1 < _; omega)).trans d1; have f2 := (hb2.cell (p := ⟨g1, k * 3 + 2, none⟩) (by show g1 < _; omega)).trans d2; have f3 := (hb2.cell (p := ⟨g, 0, none⟩) (by show g < _; omega)).trans p0; have f4 := (hb2.cell (p := ⟨g, 1, none⟩) (by show g < _; omega)).trans p1))
            all_goals (go_wp2_with fail; go_meet)
            · exact ⟨⟨w2.heap.size, rfl, hb2.size, hb2.alloc hb2.size _, Box2.new _ _ _ _⟩, rfl⟩
            · exact ⟨⟨w1.heap.size, rfl, Nat.le_refl _, (hb2.setCell (p := ⟨w1.heap.size, 0, none⟩) (Nat.le_refl _) _).setCell (p := ⟨w1.heap.size, 1, none⟩) (Nat.le_refl _) _, zz.store _ _⟩, rfl⟩
          case rest =>
            obtain ⟨⟨gm, rfl, hgm, hBm, hM⟩, rfl⟩ := hcut
            obtain ⟨w3, rfl⟩ : ∃ w3 : World, w3 = wc := ⟨_, rfl⟩
            have HB3 := Lib.hid (HB1.out.trans (hBm.mono (by omega)))
            have HS3 := Lib.hid (HS1.out.below hBm (by omega))
            have hz3 := hBm.size
            have HM := Lib.hid hM
            have hgm3 := hM.1
            clear hBm hM x5 d1 d2 p0 p1
            cases hok : fOk (n * p) (d * q) with
            | false =>
              have HR := Lib.hid (show pairL ys xs (0, 1) = none by
                have e := HN.out
                rw [pair_bad1 (t := ⟨s, n, d⟩) HV.out hp0 hok] at e
                exact HP.out.1.symm.trans e)
              have bc := bcellB HB3.out
              have r0 : w3.cell? ⟨w.heap.size + 1 + 1, 0, none⟩ = some (.int .i64 0) := (bc.1 _ _ (by omega)).trans (by go_simp)
              have r1 : w3.cell? ⟨w.heap.size + 1 + 1, 1, none⟩ = some (.int .i64 0) := (bc.1 _ _ (by omega)).trans (by go_simp)
              have z0 : w3.frozen? ⟨w.heap.size + 1 + 1, 0, none⟩ = false := (bc.2 _ _ (by omega)).trans (by go_simp)
              have z1 : w3.frozen? ⟨w.heap.size + 1 + 1, 1, none⟩ = false := (bc.2 _ _ (by omega)).trans (by go_simp)
              have hW := (below3 w (.cells #[.int .i64 L1, .int .i64 V1, .slice (some ⟨g1, 0, none⟩) xs.length cap1] 29) (.cells #[.int .i64 L2, .int .i64 V2, .slice (some ⟨g2, 0, none⟩) ys.length cap2] 29) (.cells #[.int .i64 0, .int .i64 0] 34)).trans (HB3.out.mono (by omega))
              clear bc hok
              go_wp2_with fail
              rw [HR.out]
              exact bodyPost_ret (v := .tuple #[.agg #[.int .i64 0, .int .i64 0], .bool false]) (by simp [results, Try.results60, go_sem, r0, r1]) rfl ⟨rfl, by go_grown⟩
            | true =>
              have hx := fOk_isFp hok
              have HOK := Lib.hid hok
              obtain ⟨N, hN⟩ : ∃ N, fN (n * p) (d * q) = N := ⟨_, rfl⟩
              obtain ⟨D, hD⟩ : ∃ D, fD (n * p) (d * q) = D := ⟨_, rfl⟩
              rw [hN, hD] at hx HM
              have HN1 := Lib.hid hN
              have HD1 := Lib.hid hD
              have m0 := HM.out.2.1
              have m1 := HM.out.2.2.1
              have s0 := HS3.out.2.1
              have s1 := HS3.out.2.2.1
              have hsz3 := HS3.out.1
              have hxb := isF_abs hx
              have hab := isF_abs HP.out.2
              have q1 : a.natAbs ≤ 1000000000 := hab.1
              have q2 : b.natAbs ≤ 1000000000 := hab.2.1
              have q3 : N.natAbs ≤ 1000000000 := hxb.1
              have q4 : D.natAbs ≤ 1000000000 := hxb.2.1
              clear hok hN hD hxb hab hx
              go_wp2_with fail
              refine (l01Plus_c a b N D q1 q2 q3 q4 _).mono ?_
              rintro e w4 ⟨rfl, hb4⟩
              have HB4 := Lib.hid (HB3.out.trans (hb4.mono (by omega)))
              have HS4 := Lib.hid (HS3.out.below hb4 hsz3)
              have hz4 := hb4.size
              clear hb4 m0 m1 s0 s1
              cases hok2 : fOk (a * D + N * b) (b * D) with
              | false =>
                have HR := Lib.hid (show pairL ys xs (0, 1) = none by
                  have e := HN.out
                  rw [pair_bad2 (t := ⟨s, n, d⟩) HV.out hp0 HOK.out HN1.out HD1.out hok2] at e
                  exact HP.out.1.symm.trans e)
                have bc := bcellB HB4.out
                have r0 : w4.cell? ⟨w.heap.size + 1 + 1, 0, none⟩ = some (.int .i64 0) := (bc.1 _ _ (by omega)).trans (by go_simp)
                have r1 : w4.cell? ⟨w.heap.size + 1 + 1, 1, none⟩ = some (.int .i64 0) := (bc.1 _ _ (by omega)).trans (by go_simp)
                have z0 : w4.frozen? ⟨w.heap.size + 1 + 1, 0, none⟩ = false := (bc.2 _ _ (by omega)).trans (by go_simp)
                have z1 : w4.frozen? ⟨w.heap.size + 1 + 1, 1, none⟩ = false := (bc.2 _ _ (by omega)).trans (by go_simp)
                have hW := (below3 w (.cells #[.int .i64 L1, .int .i64 V1, .slice (some ⟨g1, 0, none⟩) xs.length cap1] 29) (.cells #[.int .i64 L2, .int .i64 V2, .slice (some ⟨g2, 0, none⟩) ys.length cap2] 29) (.cells #[.int .i64 0, .int .i64 0] 34)).trans (HB4.out.mono (by omega))
                have hzz : w.heap.size + 1 + 1 < w4.heap.size := by omega
                clear bc hok2
                generalize fN (a * D + N * b) (b * D) = X at *
                generalize fD (a * D + N * b) (b * D) = Y at *
                go_wp2_with fail
                rw [HR.out]
                exact bodyPost_ret (v := .tuple #[.agg #[.int .i64 0, .int .i64 0], .bool false]) (by simp [results, Try.results60, go_sem, r0, r1, hzz]) rfl ⟨rfl, by go_grown⟩
              | true =>
                have HA := Lib.hid (show PairAt ys xs (k + 1) (fN (a * D + N * b) (b * D)) (fD (a * D + N * b) (b * D)) from ⟨by
                  have e := HN.out
                  rw [pair_good (t := ⟨s, n, d⟩) HV.out hp0 HOK.out HN1.out HD1.out hok2] at e
                  exact e.symm.trans HP.out.1, fOk_isFp hok2⟩)
                have c4 := HS4.out.2.1
                have c5 := HS4.out.2.2.1
                have f4 := HS4.out.2.2.2.1
                have f5 := HS4.out.2.2.2.2
                have hs4 := HS4.out.1
                clear hok2
                generalize fN (a * D + N * b) (b * D) = X at *
                generalize fD (a * D + N * b) (b * D) = Y at *
                go_wp2
                go_roundw
                case rel =>
                  refine ⟨k + 1, X, Y, by omega, by go_num, HA.out, ?_, ?_⟩
                  · exact ((HB4.out.setCell (p := ⟨w.heap.size + 1 + 1 + 1, 0, none⟩) (Nat.le_refl _) _).setCell (p := ⟨w.heap.size + 1 + 1 + 1, 1, none⟩) (Nat.le_refl _) _).alloc (by simp; omega) _
                  · exact (HS4.out.store X Y).below (below1 _ _) (by simpa using hs4)
                case measure => simp [intOf]; omega
    · obtain rfl : k = xs.length := by omega
      have HR := Lib.hid (show pairL ys xs (0, 1) = some (a, b) by
        have e := HP.out.1
        rw [List.drop_length] at e
        exact e.symm)
      have s0 := HS.out.2.1
      have s1 := HS.out.2.2.1
      have bc := bcellB HB.out
      have r0 : wr.cell? ⟨w.heap.size + 1 + 1, 0, none⟩ = some (.int .i64 0) := (bc.1 _ _ (by omega)).trans (by go_simp)
      have r1 : wr.cell? ⟨w.heap.size + 1 + 1, 1, none⟩ = some (.int .i64 0) := (bc.1 _ _ (by omega)).trans (by go_simp)
      have z0 : wr.frozen? ⟨w.heap.size + 1 + 1, 0, none⟩ = false := (bc.2 _ _ (by omega)).trans (by go_simp)
      have z1 : wr.frozen? ⟨w.heap.size + 1 + 1, 1, none⟩ = false := (bc.2 _ _ (by omega)).trans (by go_simp)
      have hW := HW.out
      clear bc y0 y1 y2
      go_wp2
      rw [HR.out]
      exact bodyPost_ret (v := .tuple #[.agg #[.int .i64 a, .int .i64 b], .bool true]) (by simp [results, Try.results60, go_sem, r0, r1]) rfl ⟨rfl, by go_grown⟩
end Go.Proofs.Ytjciadbmpkkgdaa
