/-
  The value of a series at a shuffle of two words: contracts of the model's l03At and ValueAtShuffle.
-/
import Derived.Test.YtmcmbhnkkloknaaDoorShuY
import Derived.Test.YtmcmbhnkkloknaaDoorPairT
import Derived.Test.YtmcmbhnkkloknaaDoorNew4
import Derived.Deep.RegionHeld3
namespace Go.Proofs.YtmcmbhnkkloknaaDoor
open Go.RowKit
set_option linter.unusedVariables false

theorem isF_wh {x : Int} (h : -1000000000 ≤ x ∧ x ≤ 1000000000) : isF x 1 = true := by
  simp only [isF, decide_eq_true_eq]
  refine ⟨by omega, by omega, by omega, by omega, ?_⟩
  unfold gi
  simp
theorem shT_num {v u s : ByteArray} (hs : s.size ≤ 8) : -1000000000 ≤ ((shN v.data.toList u.data.toList s.data.toList : Nat) : Int) ∧ ((shN v.data.toList u.data.toList s.data.toList : Nat) : Int) ≤ 1000000000 := by
  have h := shN_le s.data.toList v.data.toList u.data.toList
  have h2 : s.data.toList.length ≤ 8 := hs
  have h3 : 2 ^ s.data.toList.length ≤ 2 ^ 8 := Nat.pow_le_pow_right (by omega) h2
  omega
set_option maxRecDepth 100000 in
set_option maxHeartbeats 16000000 in
theorem l03At_c (D : Nat) (n : Int) (g1 cap : Nat) (ys : List Tm) (hl2 : ys.length ≤ 1048576) (hs2 : serB (D : Int) n ys = true) (v u : ByteArray) (hvu : v.size + u.size ≤ 5) (w : World) (hb1 : g1 < w.heap.size) (t1 : TermsIn w g1 0 ys) :
    Calls Tryd.prog 35 #[.agg #[.int .i64 D, .int .i64 n, .slice (some ⟨g1, 0, none⟩) ys.length cap], .string v, .string u] w (PairPost (pairL ys (shL D v u) (0, 1)) w) := by
  have hsh := shape_out (show shapeB (D : Int) n = true from by have h := hs2; unfold serB at h; rw [Bool.and_eq_true] at h; exact h.1)
  have HT1 := Lib.hid t1
  have HZ := Lib.hid (fun s => valL_isF hs2 s)
  have hfew := shL_few (D := D) (v := v) (w := u) (by omega) (by omega)
  have HWs := Lib.hid (l03Words_c D (by omega) v u hvu)
  have HSz := Lib.hid (fun s (hs : s ∈ (wordsL D (v.size + u.size)).filter (shP v u)) => wordsL_size D (v.size + u.size) s (List.mem_filter.1 hs).1)
  have HNum := Lib.hid (fun (s : ByteArray) (hs : s.size ≤ 8) W => num_all s.size v u s rfl hs (by omega) (by omega) W)
  unfold shL at hfew ⊢
  rw [List.length_map] at hfew
  generalize (wordsL D (v.size + u.size)).filter (shP v u) = ws at hfew HWs HSz ⊢
  clear t1 hs2 hsh
  go_enter Tryd.func35, Tryd.ntmps35
  go_wp2_with fail
  refine (HWs.out _).mono ?_
  rintro e w1 ⟨aw, cw, rfl, hb2, hN2⟩
  have hB := hb2
  simp only [World.size_alloc] at hB hN2
  obtain ⟨hc, hf⟩ := bcellB hB
  have x0 : w1.cell? ⟨w.heap.size, 0, none⟩ = some (.int .i64 D) := (hc _ _ (by omega)).trans (by go_simp)
  have x1 : w1.cell? ⟨w.heap.size, 1, none⟩ = some (.int .i64 n) := (hc _ _ (by omega)).trans (by go_simp)
  have x2 : w1.cell? ⟨w.heap.size, 2, none⟩ = some (.slice (some ⟨g1, 0, none⟩) ys.length cap) := (hc _ _ (by omega)).trans (by go_simp)
  have r0 : w1.cell? ⟨w.heap.size + 1, 0, none⟩ = some (.int .i64 0) := (hc _ _ (by omega)).trans (by go_simp)
  have r1 : w1.cell? ⟨w.heap.size + 1, 1, none⟩ = some (.int .i64 0) := (hc _ _ (by omega)).trans (by go_simp)
  have z0 : w1.frozen? ⟨w.heap.size + 1, 0, none⟩ = false := (hf _ _ (by omega)).trans (by go_simp)
  have z1 : w1.frozen? ⟨w.heap.size + 1, 1, none⟩ = false := (hf _ _ (by omega)).trans (by go_simp)
  have HW1 := Lib.hid ((below2 w (.cells #[.int .i64 D, .int .i64 n, .slice (some ⟨g1, 0, none⟩) ys.length cap] 30) (.cells #[.int .i64 0, .int .i64 0] 37)).trans (hB.mono (by omega)))
  have hz1 := hB.size
  simp only [World.size_alloc] at hz1
  obtain ⟨bw, hbw2, hrow⟩ : ∃ bw, bw < w1.heap.size ∧ ∀ k (h : k < ws.length), aw = some ⟨bw, 0, none⟩ ∧ w1.cell? ⟨bw, k, none⟩ = some (.string ws[k]) := by
    rcases hN2 with h | ⟨b, rfl, hb1, hb2, hM, ht⟩
    · exact ⟨w.heap.size, by omega, fun k hk => by rw [h] at hk; simp at hk⟩
    · exact ⟨b, hb2, fun k hk => ⟨rfl, by have := ht k hk; rwa [Nat.zero_add] at this⟩⟩
  have HRow := Lib.hid hrow
  have HR1 := Lib.hid (show Box2 w1 (w.heap.size + 1) 0 0 from ⟨by omega, r0, r1, z0, z1⟩)
  clear hb2 hB hN2 hc hf hrow r0 r1 z0 z1
  go_wp2_with fail
  go_loopw [10] (fun vi wr => ∃ (k : Nat) (a b : Int), k ≤ ws.length ∧ vi = .int .i64 k ∧ PairAt ys (ws.map (shT v u)) k a b ∧ Below w1.heap.size w1 wr ∧ Box2 wr w1.heap.size a b) (fun vi _ => ws.length - (intOf vi).toNat)
  case atStart => exact ⟨0, 0, 1, Nat.zero_le _, rfl, ⟨rfl, isF_zero_one⟩, below1 _ _, Box2.new _ _ _ _⟩
  case round =>
    obtain ⟨k, a, b, hk, rfl, hP, hB, hS⟩ := hrel
    have HP := Lib.hid hP
    have HB := Lib.hid hB
    have HS := Lib.hid hS
    have hzr := hS.1
    have bc := bcellB hB
    have x0 : wr.cell? ⟨w.heap.size, 0, none⟩ = some (.int .i64 D) := (bc.1 _ _ (by omega)).trans x0
    have x1 : wr.cell? ⟨w.heap.size, 1, none⟩ = some (.int .i64 n) := (bc.1 _ _ (by omega)).trans x1
    have x2 : wr.cell? ⟨w.heap.size, 2, none⟩ = some (.slice (some ⟨g1, 0, none⟩) ys.length cap) := (bc.1 _ _ (by omega)).trans x2
    have HRr := Lib.hid (HR1.out.below hB (by omega))
    have HW := Lib.hid (HW1.out.trans (hB.mono (by omega)))
    clear hP hB hS
    by_cases hlt : k < ws.length
    · have HN := Lib.hid (pair_next (ys := ys) (xs := ws.map (shT v u)) (k := k) (by simpa using hlt) (a, b))
      obtain ⟨rfl, c0⟩ := HRow.out k hlt
      have c1 : wr.cell? ⟨bw, k, none⟩ = some (.string ws[k]) := (bc.1 bw k hbw2).trans c0
      have hsz8 : (ws[k]).size ≤ 8 := by have := HSz.out _ (List.getElem_mem hlt); omega
      rw [List.getElem_map] at HN
      unfold shT at HN
      obtain ⟨s, hs⟩ : ∃ s, ws[k] = s := ⟨_, rfl⟩
      rw [hs] at c1 hsz8 HN
      have HNm := Lib.hid (fun W => (HNum.out s hsz8 W).mono (R' := fun e w' => e = .returned (.int .i64 ((shN v.data.toList u.data.toList s.data.toList : Nat) : Int)) ∧ Below W.heap.size W w') (fun e w' ⟨h, m, e2⟩ => ⟨h, e2 ▸ below_drewN m⟩))
      have hxb := shT_num (v := v) (u := u) hsz8
      obtain ⟨x, hx⟩ : ∃ x, ((shN v.data.toList u.data.toList s.data.toList : Nat) : Int) = x := ⟨_, rfl⟩
      rw [hx] at HN HNm hxb
      have HFx := Lib.hid (isF_wh hxb)
      have hkI : (0 : Int) ≤ (k : Int) := by omega
      have hkL : (k : Int) < (ws.length : Int) := by omega
      have hw0 : w.heap.size < wr.heap.size := by omega
      have hbr : bw < wr.heap.size := by omega
      have hg1r : g1 < wr.heap.size := by omega
      have HVf := Lib.hid (HZ.out s)
      obtain ⟨p, q, hpq⟩ : ∃ p q, valL s.data.toList ys = (p, q) := ⟨_, _, rfl⟩
      have HV := Lib.hid hpq
      have HVl := Lib.hid (fun W (hW : Below wr.heap.size wr W) => l01Value_c (D : Int) n g1 0 cap ys hl2 s W (Nat.lt_of_lt_of_le hg1r hW.size) ((HT1.out.below HW.out hb1).below hW hg1r))
      rw [hpq] at HVf HVl
      have KS := Lib.hid (show ∀ w', Below wr.heap.size wr w' → (w'.cell? ⟨w.heap.size, 0, none⟩ = some (.int .i64 D) ∧ w'.cell? ⟨w.heap.size, 1, none⟩ = some (.int .i64 n) ∧ w'.cell? ⟨w.heap.size, 2, none⟩ = some (.slice (some ⟨g1, 0, none⟩) ys.length cap) ∧ w'.cell? ⟨bw, k, none⟩ = some (.string s)) from fun w' hb => ⟨(hb.cell (p := ⟨w.heap.size, 0, none⟩) hw0).trans x0, (hb.cell (p := ⟨w.heap.size, 1, none⟩) hw0).trans x1, (hb.cell (p := ⟨w.heap.size, 2, none⟩) hw0).trans x2, (hb.cell (p := ⟨bw, k, none⟩) hbr).trans c1⟩)
      clear hs hx c0 bc hpq
      go_upto_region 5 with fail
      go_cut [11] (FrCut1 wr p q)
      case first =>
        go_region_held3 (fun w' => w'.cell? ⟨w.heap.size, 0, none⟩ = some (.int .i64 D) ∧ w'.cell? ⟨w.heap.size, 1, none⟩ = some (.int .i64 n) ∧ w'.cell? ⟨w.heap.size, 2, none⟩ = some (.slice (some ⟨g1, 0, none⟩) ys.length cap) ∧ w'.cell? ⟨bw, k, none⟩ = some (.string s))
          ((refine KS.out _ ?_; repeat' (first | with_reducible assumption | with_reducible exact Below.refl _ _ | (with_reducible refine Below.drew ?_) | (with_reducible refine Below.setCell ?_ (by (try dsimp only); omega) _) | (with_reducible refine Below.alloc ?_ (by (try simp only [World.size_setCell]); (try simp only [World.size_drew]); (try simp only [World.size_alloc]); (try simp only [World.size_setCell]); (try simp only [World.size_alloc]); omega) _))))
          (first
            | (go_at_call 14; (with_reducible refine (HVl.out _ ?_).mono ?_); (focus repeat' (first | with_reducible assumption | with_reducible exact Below.refl _ _ | (with_reducible refine Below.drew ?_) | (with_reducible refine Below.setCell ?_ (by (try dsimp only); omega) _) | (with_reducible refine Below.alloc ?_ (by (try simp only [World.size_setCell]); (try simp only [World.size_drew]); (try simp only [World.size_alloc]); (try simp only [World.size_setCell]); (try simp only [World.size_alloc]); omega) _))); (focus repeat' (first | with_reducible assumption | with_reducible exact Below.refl _ _ | (with_reducible refine Below.drew ?_) | (with_reducible refine Below.setCell ?_ (by (try dsimp only); omega) _) | (with_reducible refine Below.alloc ?_ (by (try simp only [World.size_setCell]); (try simp only [World.size_drew]); (try simp only [World.size_alloc]); (try simp only [World.size_setCell]); (try simp only [World.size_alloc]); omega) _))); rintro e w5 ⟨rfl, hb0⟩; have hbw5 : Below wr.heap.size wr w5 := below_step (by repeat' (first | with_reducible assumption | with_reducible exact Below.refl _ _ | (with_reducible refine Below.drew ?_) | (with_reducible refine Below.setCell ?_ (by (try dsimp only); omega) _) | (with_reducible refine Below.alloc ?_ (by (try simp only [World.size_setCell]); (try simp only [World.size_drew]); (try simp only [World.size_alloc]); (try simp only [World.size_setCell]); (try simp only [World.size_alloc]); omega) _))) hb0 (Nat.le_refl _); have hzw5 := hbw5.size; (try have B0 : Box2 w5 wr.heap.size 0 0 := Box2.next (by exact (Box2.new wr 0 0 _).drew) hb0); (try obtain ⟨Bz0, b00, b01, b02, b03⟩ := id B0))
            | fail)
        all_goals (go_wp2_with fail; go_meet)
        all_goals (refine ⟨_, rfl, ?_, ?_, ?_⟩)
        all_goals (first | (with_reducible assumption) | (with_reducible exact Nat.le_refl _) | ((repeat' (first | with_reducible assumption | with_reducible exact Below.refl _ _ | (with_reducible refine Below.drew ?_) | (with_reducible refine Below.setCell ?_ (by (try dsimp only); omega) _) | (with_reducible refine Below.alloc ?_ (by (try simp only [World.size_setCell]); (try simp only [World.size_drew]); (try simp only [World.size_alloc]); (try simp only [World.size_setCell]); (try simp only [World.size_alloc]); omega) _))); done) | ((repeat' (first | with_reducible assumption | (with_reducible refine Box2.newAt ?_; first | with_reducible rfl | (simp only [World.size_alloc]; done)) | (with_reducible refine Box2.fill ?_) | (with_reducible refine Box2.alloc ?_ _) | fail)); done) | omega | fail)
      case rest =>
        obtain ⟨g, rfl, hg1, hBy, hX⟩ := hcut
        obtain ⟨wy, rfl⟩ : ∃ wy : World, wy = wc := ⟨_, rfl⟩
        have hzy := hBy.size
        have p0y := hX.2.1
        have p1y := hX.2.2.1
        have hgl := hX.1
        have c2y : wy.cell? ⟨bw, k, none⟩ = some (.string s) := (hBy.cell (p := ⟨bw, k, none⟩) hbr).trans c1
        clear x0 x1 x2 c1 KS
        go_wp2_with fail
        refine (l01Zero_c p q _).mono ?_
        rintro e w2 ⟨rfl, hb0⟩
        have HBy := Lib.hid (hBy.trans (hb0.mono hzy))
        have HB1 := Lib.hid (HB.out.trans (HBy.out.mono (by omega)))
        have HS1 := Lib.hid (HS.out.below HBy.out hzr)
        have HX1 := Lib.hid (hX.below hb0 hgl)
        have hz2 := HBy.out.size
        have hgl1 := HX1.out.1
        have c2 : w2.cell? ⟨bw, k, none⟩ = some (.string s) := (hb0.cell (p := ⟨bw, k, none⟩) (by show bw < _; omega)).trans c2y
        have hbr2 : bw < w2.heap.size := by omega
        clear hBy hX hb0 p0y p1y c2y
        by_cases hp0 : p = 0
        · have HA := Lib.hid (show PairAt ys (ws.map (shT v u)) (k + 1) a b from ⟨by
            have e := HN.out
            rw [pair_skip (t := ⟨s, x, 1⟩) HV.out hp0] at e
            exact e.symm.trans HP.out.1, HP.out.2⟩)
          subst hp0
          clear c2
          go_wp2
          go_roundw
          case rel => exact ⟨k + 1, a, b, by omega, by go_num, HA.out, HB1.out, HS1.out⟩
          case measure => simp [intOf]; omega
        · have hpb : (p == 0) = false := by simpa using hp0
          rw [hpb]
          obtain ⟨E0, hE0⟩ : ∃ E0, (1 : Int) * q = E0 := ⟨_, rfl⟩
          have HE0 := Lib.hid hE0
          have hnf := isF_abs HFx.out
          have hpf := isF_abs HVf.out
          have HTf := Lib.hid (fun W => by have h := l01TimesFrac_c p q x 1 hpf.1 hpf.2.1 hnf.1 hnf.2.1 W; rw [Int.mul_comm p x, Int.mul_comm q 1, hE0] at h; exact h)
          have p0 := HX1.out.2.1
          have p1 := HX1.out.2.2.1
          have KV := Lib.hid (show ∀ w', Below w2.heap.size w2 w' → (w'.cell? ⟨g, 0, none⟩ = some (.int .i64 p) ∧ w'.cell? ⟨g, 1, none⟩ = some (.int .i64 q) ∧ w'.cell? ⟨bw, k, none⟩ = some (.string s)) from fun w' hb => ⟨(hb.cell (p := ⟨g, 0, none⟩) hgl1).trans p0, (hb.cell (p := ⟨g, 1, none⟩) hgl1).trans p1, (hb.cell (p := ⟨bw, k, none⟩) hbr2).trans c2⟩)
          clear hnf hpf hE0
          go_upto_region 7 with fail
          go_cut [12, 13] (FrCutB w2 (fN (x * p) E0) (fD (x * p) E0) (fOk (x * p) E0))
          case first =>
            go_region_held3 (fun w' => w'.cell? ⟨g, 0, none⟩ = some (.int .i64 p) ∧ w'.cell? ⟨g, 1, none⟩ = some (.int .i64 q) ∧ w'.cell? ⟨bw, k, none⟩ = some (.string s))
              ((refine KV.out _ ?_; repeat' (first | with_reducible assumption | with_reducible exact Below.refl _ _ | (with_reducible refine Below.drew ?_) | (with_reducible refine Below.setCell ?_ (by (try dsimp only); omega) _) | (with_reducible refine Below.alloc ?_ (by (try simp only [World.size_setCell]); (try simp only [World.size_drew]); (try simp only [World.size_alloc]); (try simp only [World.size_setCell]); (try simp only [World.size_alloc]); omega) _))))
              (first
                | (go_at_call 48; (with_reducible refine (HNm.out _).mono ?_); (focus repeat' (first | with_reducible assumption | with_reducible exact Below.refl _ _ | (with_reducible refine Below.drew ?_) | (with_reducible refine Below.setCell ?_ (by (try dsimp only); omega) _) | (with_reducible refine Below.alloc ?_ (by (try simp only [World.size_setCell]); (try simp only [World.size_drew]); (try simp only [World.size_alloc]); (try simp only [World.size_setCell]); (try simp only [World.size_alloc]); omega) _))); rintro e w5 ⟨rfl, hb0⟩; have hbw5 : Below w2.heap.size w2 w5 := below_step (by repeat' (first | with_reducible assumption | with_reducible exact Below.refl _ _ | (with_reducible refine Below.drew ?_) | (with_reducible refine Below.setCell ?_ (by (try dsimp only); omega) _) | (with_reducible refine Below.alloc ?_ (by (try simp only [World.size_setCell]); (try simp only [World.size_drew]); (try simp only [World.size_alloc]); (try simp only [World.size_setCell]); (try simp only [World.size_alloc]); omega) _))) hb0 (Nat.le_refl _); have hzw5 := hbw5.size; (try have B0 : Box2 w5 w2.heap.size 0 0 := Box2.next (by exact (Box2.new w2 0 0 _).drew) hb0))
                | (go_at_call 34; (with_reducible refine (HTf.out _).mono ?_); (focus repeat' (first | with_reducible assumption | with_reducible exact Below.refl _ _ | (with_reducible refine Below.drew ?_) | (with_reducible refine Below.setCell ?_ (by (try dsimp only); omega) _) | (with_reducible refine Below.alloc ?_ (by (try simp only [World.size_setCell]); (try simp only [World.size_drew]); (try simp only [World.size_alloc]); (try simp only [World.size_setCell]); (try simp only [World.size_alloc]); omega) _))); rintro e w6 ⟨rfl, hb0⟩; have hbw6 : Below w2.heap.size w2 w6 := below_step (by repeat' (first | with_reducible assumption | with_reducible exact Below.refl _ _ | (with_reducible refine Below.drew ?_) | (with_reducible refine Below.setCell ?_ (by (try dsimp only); omega) _) | (with_reducible refine Below.alloc ?_ (by (try simp only [World.size_setCell]); (try simp only [World.size_drew]); (try simp only [World.size_alloc]); (try simp only [World.size_setCell]); (try simp only [World.size_alloc]); omega) _))) hb0 (Nat.le_refl _); have hzw6 := hbw6.size; have hbw5w6 : Below w5.heap.size w5 w6 := below_step (by repeat' (first | with_reducible assumption | with_reducible exact Below.refl _ _ | (with_reducible refine Below.drew ?_) | (with_reducible refine Below.setCell ?_ (by (try dsimp only); omega) _) | (with_reducible refine Below.alloc ?_ (by (try simp only [World.size_setCell]); (try simp only [World.size_drew]); (try simp only [World.size_alloc]); (try simp only [World.size_setCell]); (try simp only [World.size_alloc]); omega) _))) hb0 (Nat.le_refl _); have hzw5w6 := hbw5w6.size; (try have B0 := B0.next hbw5w6); (try have B1 : Box2 w6 w5.heap.size 0 0 := Box2.next (by exact Box2.new w5 0 0 _) hb0); (try obtain ⟨Bz0, b00, b01, b02, b03⟩ := id B0); (try obtain ⟨Bz1, b10, b11, b12, b13⟩ := id B1))
                | fail)
            all_goals (go_wp2_with fail; go_meet)
            all_goals (refine ⟨_, rfl, rfl, ?_, ?_, ?_⟩)
            all_goals (first | (with_reducible assumption) | (with_reducible exact Nat.le_refl _) | ((repeat' (first | with_reducible assumption | with_reducible exact Below.refl _ _ | (with_reducible refine Below.drew ?_) | (with_reducible refine Below.setCell ?_ (by (try dsimp only); omega) _) | (with_reducible refine Below.alloc ?_ (by (try simp only [World.size_setCell]); (try simp only [World.size_drew]); (try simp only [World.size_alloc]); (try simp only [World.size_setCell]); (try simp only [World.size_alloc]); omega) _))); done) | ((repeat' (first | with_reducible assumption | (with_reducible refine Box2.newAt ?_; first | with_reducible rfl | (simp only [World.size_alloc]; done)) | (with_reducible refine Box2.fill ?_) | (with_reducible refine Box2.alloc ?_ _) | fail)); done) | omega | fail)
          case rest =>
            obtain ⟨gm, rfl, rfl, hgm, hBm, hM⟩ := hcut
            obtain ⟨w3, rfl⟩ : ∃ w3 : World, w3 = wc := ⟨_, rfl⟩
            have HB3 := Lib.hid (HB1.out.trans (hBm.mono (by omega)))
            have HS3 := Lib.hid (HS1.out.below hBm (by omega))
            have hz3 := hBm.size
            have HM := Lib.hid hM
            have hgm3 := hM.1
            clear hBm hM c2 p0 p1 KV
            cases hok : fOk (x * p) E0 with
            | false =>
              have HR := Lib.hid (show pairL ys (ws.map (shT v u)) (0, 1) = none by
                have e := HN.out
                rw [pair_bad1 (t := ⟨s, x, 1⟩) HV.out hp0 (show fOk (x * p) (1 * q) = false by rw [HE0.out]; exact hok)] at e
                exact HP.out.1.symm.trans e)
              obtain ⟨hzz, r0, r1, z0, z1⟩ := HR1.out.below HB3.out (by omega)
              have hW := HW1.out.trans (HB3.out.mono (by omega))
              clear hok
              go_wp2_with fail
              rw [HR.out]
              exact bodyPost_ret (v := .tuple #[.agg #[.int .i64 0, .int .i64 0], .bool false]) (by simp [results, Tryd.results35, go_sem, r0, r1]) rfl ⟨rfl, by go_grown⟩
            | true =>
              have hx := fOk_isFp hok
              have HOK := Lib.hid (show fOk (x * p) (1 * q) = true by rw [HE0.out]; exact hok)
              obtain ⟨N, hN⟩ : ∃ N, fN (x * p) E0 = N := ⟨_, rfl⟩
              obtain ⟨E, hD⟩ : ∃ E, fD (x * p) E0 = E := ⟨_, rfl⟩
              rw [hN, hD] at hx HM
              have HN1 := Lib.hid (show fN (x * p) (1 * q) = N by rw [HE0.out]; exact hN)
              have HD1 := Lib.hid (show fD (x * p) (1 * q) = E by rw [HE0.out]; exact hD)
              have m0 := HM.out.2.1
              have m1 := HM.out.2.2.1
              have s0 := HS3.out.2.1
              have s1 := HS3.out.2.2.1
              have hsz3 := HS3.out.1
              have hxb2 := isF_abs hx
              have hab := isF_abs HP.out.2
              have q1 : a.natAbs ≤ 1000000000 := hab.1
              have q2 : b.natAbs ≤ 1000000000 := hab.2.1
              have q3 : N.natAbs ≤ 1000000000 := hxb2.1
              have q4 : E.natAbs ≤ 1000000000 := hxb2.2.1
              clear hok hN hD hxb2 hab hx
              go_wp2_with fail
              refine (l01Plus_c a b N E q1 q2 q3 q4 _).mono ?_
              rintro e w4 ⟨rfl, hb4⟩
              have HB4 := Lib.hid (HB3.out.trans (hb4.mono (by omega)))
              have HS4 := Lib.hid (HS3.out.below hb4 hsz3)
              have hz4 := hb4.size
              clear hb4 m0 m1 s0 s1
              cases hok2 : fOk (a * E + N * b) (b * E) with
              | false =>
                have HR := Lib.hid (show pairL ys (ws.map (shT v u)) (0, 1) = none by
                  have e := HN.out
                  rw [pair_bad2 (t := ⟨s, x, 1⟩) HV.out hp0 HOK.out HN1.out HD1.out hok2] at e
                  exact HP.out.1.symm.trans e)
                obtain ⟨hzz, r0, r1, z0, z1⟩ := HR1.out.below HB4.out (by omega)
                have hW := HW1.out.trans (HB4.out.mono (by omega))
                clear hok2
                generalize fN (a * E + N * b) (b * E) = X at *
                generalize fD (a * E + N * b) (b * E) = Y at *
                go_wp2_with fail
                rw [HR.out]
                exact bodyPost_ret (v := .tuple #[.agg #[.int .i64 0, .int .i64 0], .bool false]) (by simp [results, Tryd.results35, go_sem, r0, r1, hzz]) rfl ⟨rfl, by go_grown⟩
              | true =>
                have HA := Lib.hid (show PairAt ys (ws.map (shT v u)) (k + 1) (fN (a * E + N * b) (b * E)) (fD (a * E + N * b) (b * E)) from ⟨by
                  have e := HN.out
                  rw [pair_good (t := ⟨s, x, 1⟩) HV.out hp0 HOK.out HN1.out HD1.out hok2] at e
                  exact e.symm.trans HP.out.1, fOk_isFp hok2⟩)
                have c4 := HS4.out.2.1
                have c5 := HS4.out.2.2.1
                have f4 := HS4.out.2.2.2.1
                have f5 := HS4.out.2.2.2.2
                have hs4 := HS4.out.1
                clear hok2
                generalize fN (a * E + N * b) (b * E) = X at *
                generalize fD (a * E + N * b) (b * E) = Y at *
                go_wp2
                go_roundw
                case rel =>
                  refine ⟨k + 1, X, Y, by omega, by go_num, HA.out, ?_, ?_⟩
                  · exact ((HB4.out.setCell (p := ⟨w1.heap.size, 0, none⟩) (Nat.le_refl _) _).setCell (p := ⟨w1.heap.size, 1, none⟩) (Nat.le_refl _) _).alloc (by simp; omega) _
                  · exact (HS4.out.store X Y).below (below1 _ _) (by simpa using hs4)
                case measure => simp [intOf]; omega
    · obtain rfl : k = ws.length := by omega
      have HR := Lib.hid (show pairL ys (ws.map (shT v u)) (0, 1) = some (a, b) by
        have e := HP.out.1
        rw [show ws.length = (ws.map (shT v u)).length by simp, List.drop_length] at e
        exact e.symm)
      have s0 := HS.out.2.1
      have s1 := HS.out.2.2.1
      obtain ⟨hzz, r0, r1, z0, z1⟩ := id HRr.out
      have hW := HW.out
      clear bc x0 x1 x2
      go_wp2
      rw [HR.out]
      exact bodyPost_ret (v := .tuple #[.agg #[.int .i64 a, .int .i64 b], .bool true]) (by simp [results, Tryd.results35, go_sem, r0, r1]) rfl ⟨rfl, by go_grown⟩
end Go.Proofs.YtmcmbhnkkloknaaDoor
