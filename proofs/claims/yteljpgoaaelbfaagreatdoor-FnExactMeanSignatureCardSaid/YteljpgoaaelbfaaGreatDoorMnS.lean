/-
  Contracts of the model's MeanSignature.
-/
import Derived.Test.YteljpgoaaelbfaaGreatDoorMnI
import Derived.Test.YteljpgoaaelbfaaGreatDoorSopF
import Derived.Test.YteljpgoaaelbfaaGreatDoorExpM
import Derived.Test.YteljpgoaaelbfaaGreatDoorStepT
import Derived.Test.YteljpgoaaelbfaaGreatDoorSerU
import Derived.Deep.RegionHeld3
namespace Go.Proofs.YteljpgoaaelbfaaGreatDoor
open Go.RowKit
set_option linter.unusedVariables false

theorem terms_bd9 {ws : List ByteArray} {f : VF} (h : GoodV ws f) : ∀ t ∈ termsOf f ws, bdT t := termsOf_bd h
set_option maxRecDepth 100000 in
set_option maxHeartbeats 4000000 in
theorem sMn_1 (L V n : Int) (lo hi : Nat) (a : Option Addr) (cap : Nat) (ps : List (List Int)) (hl : ps.length ≤ 1048576) (hs : flat ps ≤ 1048576) (c : Int) (hc : codeP L V ps = c) (hn : c ≠ 0) (w : World) (hr : PRow lo hi w a ps) (hh : hi ≤ w.heap.size) :
    Calls Tryz.prog 5 #[.int .i64 L, .int .i64 V, .slice a ps.length cap, .int .i64 n] w (SerPost 0 0 [] c w) := by
  have HR := Lib.hid hr
  have HC := Lib.hid hc
  have hnb : (c != 0) = true := by simpa using hn
  have hnc : (c == 0) = false := by simpa using hn
  clear hr hc hn
  go_enter Tryz.func5, Tryz.ntmps5
  go_wp2_with fail
  refine (l04Code1_c lo hi L V a cap ps hl hs (w.heap.size + 1) _ _ (HR.out.below (below2 w _ _) hh) (by go_simp)).mono ?_
  rw [HC.out]
  rintro e w1 ⟨rfl, hb⟩
  have hT := ((T3.new w 0 0 none 0 0 26).alloc (.cells #[.slice a ps.length cap] 22)).next hb
  have HW1 := Lib.hid ((below2 w (.cells #[.int .i64 0, .int .i64 0, .slice none 0 0] 26) (.cells #[.slice a ps.length cap] 22)).trans (hb.mono (by simp; omega)))
  obtain ⟨hz1, r0, r1, r2, z0, z1, z2⟩ := id hT
  have HWz := HW1
  clear hb hT
  go_wp2
  refine bodyPost_ret (v := .tuple #[.agg #[.int .i64 0, .int .i64 0, .slice none 0 0], .int .i64 c]) (by simp [results, Tryz.results5, go_sem, r0, r1, r2]) rfl (SerPost.err c rfl ?_)
  have hW := HWz.out
  go_grown
set_option maxRecDepth 100000 in
set_option maxHeartbeats 4000000 in
theorem sMn_2 (L V n : Int) (lo hi : Nat) (a : Option Addr) (cap : Nat) (ps : List (List Int)) (hl : ps.length ≤ 1048576) (hs : flat ps ≤ 1048576) (hc : codeP L V ps = 0) (hn : ps.length = 0 ∨ inB n 0 8 = false) (w : World) (hr : PRow lo hi w a ps) (hh : hi ≤ w.heap.size) :
    Calls Tryz.prog 5 #[.int .i64 L, .int .i64 V, .slice a ps.length cap, .int .i64 n] w (SerPost 0 0 [] 2 w) := by
  have HR := Lib.hid hr
  have HC := Lib.hid hc
  have HN := Lib.hid hn
  clear hr hc hn
  go_enter Tryz.func5, Tryz.ntmps5
  go_wp2_with fail
  refine (l04Code1_c lo hi L V a cap ps hl hs (w.heap.size + 1) _ _ (HR.out.below (below2 w _ _) hh) (by go_simp)).mono ?_
  rw [HC.out]
  rintro e w1 ⟨rfl, hb⟩
  have hT := ((T3.new w 0 0 none 0 0 26).alloc (.cells #[.slice a ps.length cap] 22)).next hb
  have HW1 := Lib.hid ((below2 w (.cells #[.int .i64 0, .int .i64 0, .slice none 0 0] 26) (.cells #[.slice a ps.length cap] 22)).trans (hb.mono (by simp; omega)))
  obtain ⟨hz1, r0, r1, r2, z0, z1, z2⟩ := id hT
  have HWz := HW1
  clear hb hT
  by_cases hz : ps = []
  · subst hz
    clear HN HC HR
    go_wp2
    refine bodyPost_ret (v := .tuple #[.agg #[.int .i64 0, .int .i64 0, .slice none 0 0], .int .i64 2]) (by simp [results, Tryz.results5, go_sem, r0, r1, r2]) rfl (SerPost.err 2 rfl ?_)
    have hW := HWz.out
    go_grown
  · have hz0 : ¬ ps.length = 0 := fun e => hz (List.eq_nil_of_length_eq_zero e)
    have hzI : ¬ (ps.length : Int) = 0 := by omega
    have hB := HN.out.resolve_left hz0
    have HBt := Lib.hid hB
    clear hB
    go_wp2_with (first | (go_at_call 15; refine (l01In_c _ _ _ _).mono ?_; rw [HBt.out]; rintro e w' ⟨rfl, rfl⟩) | fail)
    refine bodyPost_ret (v := .tuple #[.agg #[.int .i64 0, .int .i64 0, .slice none 0 0], .int .i64 2]) (by simp [results, Tryz.results5, go_sem, r0, r1, r2]) rfl (SerPost.err 2 rfl ?_)
    have hW := HWz.out
    go_grown
set_option maxRecDepth 100000 in
set_option maxHeartbeats 32000000 in
theorem sMn_3 (D N K : Nat) (hD : 1 ≤ D ∧ D ≤ 3) (hN : 1 ≤ N ∧ N ≤ 5) (hK : K ≤ 8) (lo hi : Nat) (a : Option Addr) (cap : Nat) (ps : List (List Int)) (hl : ps.length ≤ 1048576) (hs : flat ps ≤ 1048576) (hp : pathB D ps = true) (hp0 : 1 ≤ ps.length) (hc : codeP D N ps = 0) (w : World) (hr : PRow lo hi w a ps) (hh : hi ≤ w.heap.size) :
    Calls Tryz.prog 5 #[.int .i64 D, .int .i64 N, .slice a ps.length cap, .int .i64 K] w (FitV D N ((meanV ps (allW D N) N).bind fun h => powV h (allW D N) K) w) := by
  have hW := allW_asc hD.2 N
  have hfew := allW_few (D := D) hD.2 (n := N) hN.2
  obtain ⟨-, hl12, hst⟩ := pathB_true hp
  have HR := Lib.hid hr
  have HC := Lib.hid hc
  have HSt := Lib.hid hst
  have HTn := Lib.hid (termsOf_noneF (allW D N))
  have HEx := Lib.hid (fun aQ cQ zs (hz : stepB D zs = true) W r => l02Exp_c D N hD hN.2 aQ cQ (stepV zs) (stepV_good hD hN.1 hz) (stepT zs D) (step_terms hD hN.1 zs) W r)
  have HAd := Lib.hid (fun (s p : VF) (hs : GoodV (allW D N) s) (hp : GoodV (allW D N) p) (x z : Int) (hxz : isF x z = true) aO aP cO cP W t1 t2 => (show Calls Tryz.prog 19 #[.agg #[.int .i64 D, .int .i64 N, .slice aO (termsOf s (allW D N)).length cO], .agg #[.int .i64 D, .int .i64 N, .slice aP (termsOf p (allW D N)).length cP], .agg #[.int .i64 x, .int .i64 z]] W (SumPost D N ((addK p x z (allW D N) s).map fun h => termsOf h (allW D N)) W) from
    addK_put hW (fun _ h => h) s ▸ l02Add_c D N D N x z (isF_abs hxz).1 (isF_abs hxz).2.1 aO aP cO cP (termsOf s (allW D N)) (termsOf p (allW D N)) (by have := termsOf_len s (allW D N); omega) (by have := termsOf_len p (allW D N); omega) (terms_bd9 hs) (terms_bd9 hp) W t1 t2))
  have HTm := Lib.hid (fun aP cP p (hp : GoodV (allW D N) p) aQ cQ q (hq : GoodV (allW D N) q) W r1 r2 => (prodL_V p q (allW D N)) ▸ l02Times_c D N hD hN.2 aP aQ cP cQ p q hp hq (termsOf p (allW D N)) (termsOf q (allW D N)) rfl rfl (by have := termsOf_len p (allW D N); omega) (by have := termsOf_len q (allW D N); omega) hW W r1 r2)
  have HKb := Lib.hid (show inB (K : Int) 0 8 = true from inB_yes (by omega))
  obtain ⟨o, ho⟩ : ∃ o, ((meanV ps (allW D N) N).bind fun h => powV h (allW D N) K) = o := ⟨_, rfl⟩
  rw [ho]
  have HO1 := Lib.hid (fun (h : meanV ps (allW D N) N = none) => show o = none from by rw [← ho, h]; rfl)
  have HO2 := Lib.hid (fun m (h : meanV ps (allW D N) N = some m) => (show o = powV m (allW D N) K from by rw [← ho, h]; rfl))
  have HMn1 := Lib.hid (meanV_1 (ps := ps) (ws := allW D N) (N := N))
  have HMn2 := Lib.hid (fun s => meanV_2 (ps := ps) (ws := allW D N) (N := N) (s := s))
  have hzL : ¬ ps = [] := fun e => by rw [e] at hp0; simp at hp0
  have hz0 : ¬ ps.length = 0 := by omega
  have hzI : ¬ (ps.length : Int) = 0 := by omega
  clear hr hst hp hW hfew ho hc
  go_enter Tryz.func5, Tryz.ntmps5
  go_wp2_with fail
  refine (l04Code1_c lo hi D N a cap ps hl hs (w.heap.size + 1) _ _ (HR.out.below (below2 w _ _) hh) (by go_simp)).mono ?_
  rw [HC.out]
  rintro e w1 ⟨rfl, hb⟩
  have hT := ((T3.new w 0 0 none 0 0 26).alloc (.cells #[.slice a ps.length cap] 22)).next hb
  have HW1 := Lib.hid ((below2 w (.cells #[.int .i64 0, .int .i64 0, .slice none 0 0] 26) (.cells #[.slice a ps.length cap] 22)).trans (hb.mono (by simp; omega)))
  have HT1 := Lib.hid hT
  have hz1 := hT.1
  clear hb hT
  go_wp2_with (first | (go_at_call 15; refine (l01In_c _ _ _ _).mono ?_; rw [HKb.out]; rintro e w' ⟨rfl, rfl⟩) | fail)
  refine (l01Empty_c D N _ rfl _).mono ?_
  rintro e w2 ⟨g0, rfl, -, hb2⟩
  have HT2 := Lib.hid (HT1.out.next hb2)
  have HW2 := Lib.hid (HW1.out.trans (hb2.mono HW1.out.size))
  have hz2 := hb2.size
  clear hb2
  go_wp2_with fail
  have hzb : w.heap.size + 1 ≤ w2.heap.size := by omega
  go_loopw [12] (fun v12 wr => ∃ (k : Nat) (s : VF) (aP : Option Addr) (lP cP : Nat), k ≤ ps.length ∧ v12 = .int .i64 k ∧ mnV ps (allW D N) N k = some s ∧ lP = (termsOf s (allW D N)).length ∧ T3 wr w2.heap.size (.int .i64 D) (.int .i64 N) (.slice aP lP cP) ∧ RowF (w.heap.size + 1) w2.heap.size w2.heap.size wr aP (termsOf s (allW D N)) ∧ Below w2.heap.size w2 wr) (fun v12 _ => ps.length - (intOf v12).toNat)
  case atStart => exact ⟨0, noneF, some ⟨g0, 0, none⟩, 0, 0, Nat.zero_le _, rfl, rfl, by rw [HTn.out]; rfl, T3.new _ _ _ _ _ _ _, by rw [HTn.out]; exact .inl rfl, below1 _ _⟩
  case round =>
    obtain ⟨k, s, aP, lP, cP, hk, rfl, hsk, hlP, hTP, hRP, hB⟩ := hrel
    obtain ⟨wo, rfl⟩ : ∃ wo : World, wo = wr := ⟨_, rfl⟩
    subst hlP
    have HSk := Lib.hid hsk
    have HTP := Lib.hid hTP
    have HRP := Lib.hid hRP
    have HB := Lib.hid hB
    have HGs := Lib.hid (mnV_good hsk)
    have hzo := hB.size
    have hwP := hTP.1
    have HBw := Lib.hid (HW2.out.trans (hB.mono (by omega)))
    have HT4 := Lib.hid (HT2.out.below hB (by omega))
    clear hsk hTP hRP hB
    by_cases hlt : k < ps.length
    · rcases HR.out.below HBw.out hh with h | ⟨b, off, rfl, hlob, hbhi, hPI⟩
      · rw [h] at hlt; simp at hlt
      obtain ⟨ai, ci, hc0, hIR⟩ := hPI k hlt
      have hsb := HSt.out k hlt
      obtain ⟨hlen, -⟩ := stepB_true hsb
      rcases hIR with h | ⟨bi, oi, rfl, hlbi, hbhi2, hII⟩
      · rw [h] at hlen; simp at hlen; omega
      have hgd : ps.getD k [] = ps[k] := by rw [List.getD_eq_getElem?_getD, List.getElem?_eq_getElem hlt]; rfl
      have HNx1 := Lib.hid (mnV_1 (ps := ps) (ws := allW D N) (N := N) (k := k))
      have HNx2 := Lib.hid (fun e h => mnV_2 (ps := ps) (ws := allW D N) (N := N) (k := k) (e := e) HSk.out h)
      have HDd := Lib.hid (fun (hq : mnV ps (allW D N) N (k + 1) = none) => HO1.out (HMn1.out (mnV_dead hq (show k + 1 ≤ ps.length from hlt))))
      rw [hgd] at HNx1 HNx2
      obtain ⟨zs, hzs⟩ : ∃ zs, ps[k] = zs := ⟨_, rfl⟩
      rw [hzs] at HNx1 HNx2 hc0 hII hsb hlen
      have hlz : zs.length = D := by omega
      have hStep0 := l04Step_c D N hD.2 bi oi ci zs hlz wo (by omega) hII
      rw [hlz] at hStep0
      have HStep := Lib.hid hStep0
      clear hStep0
      have HExs := Lib.hid (fun aQ cQ W r => HEx.out aQ cQ zs hsb W r)
      have hkI : (k : Int) < (ps.length : Int) := by omega
      clear hgd hzs hPI hII hsb hlen
      go_wp2_with fail
      refine HStep.out.mono ?_
      rintro e w4 ⟨a2, c2, rfl, hb2, hN2⟩
      have HB2 := Lib.hid hb2
      have HE2 := Lib.hid (HExs.out a2 c2 w4 hN2.row)
      have hz4 := hb2.size
      clear hb2 hN2 hc0
      go_wp2_with fail
      refine HE2.out.mono ?_
      cases he : expV (stepV zs) (allW D N) N with
      | none =>
        rintro e w3 ⟨rfl, hb3⟩
        have hb13 := HB2.out.trans (hb3.mono hz4)
        have HF := Lib.hid (HDd.out (HNx1.out he))
        obtain ⟨hq4, r0, r1, r2, z0, z1, z2⟩ := id (HT4.out.next hb13)
        have HWz := Lib.hid (HBw.out.trans (hb13.mono HBw.out.size))
        clear hb3 hb13 he
        go_wp2
        rw [HF.out]
        refine bodyPost_ret (v := .tuple #[.agg #[.int .i64 0, .int .i64 0, .slice none 0 0], .int .i64 3]) (by simp [results, Tryz.results5, go_sem, r0, r1, r2, hq4]) rfl (SerPost.err 3 rfl ?_)
        have hW := HWz.out
        go_grown
      | some ex =>
        rintro e w3 ⟨a3, c3, rfl, hb3, hN3⟩
        have hb13 := HB2.out.trans (hb3.mono hz4)
        have HPv := Lib.hid (HNx2.out ex he)
        have HGe := Lib.hid (sumK_good (show sumK (stepV zs) (allW D N) expF (N + 1) = some ex from he))
        have hv3 := below1 w3 (.cells #[.int .i64 D, .int .i64 N, .slice a3 (termsOf ex (allW D N)).length c3] 26)
        have hTo := T3.new w3 D N a3 (termsOf ex (allW D N)).length c3 26
        have hbv := hb13.trans (hv3.mono hb13.size)
        have HTPv := Lib.hid (HTP.out.next hbv)
        have HTRv := Lib.hid (HT4.out.next hbv)
        have HBv := Lib.hid (HBw.out.trans (hbv.mono HBw.out.size))
        have HB9 := Lib.hid (HB.out.trans (hbv.mono hzo))
        have HRs := Lib.hid (HRP.out.newRow.row.below hbv)
        have HRe := Lib.hid (hN3.row.below hv3)
        have hz3 := hb13.size
        clear hb3 hN3 he hb13
        go_upto_region 13 with fail
        have hgv : w3.heap.size < (w3.alloc (.cells #[.int .i64 D, .int .i64 N, .slice a3 (termsOf ex (allW D N)).length c3] 26)).heap.size := by simp
        generalize (w3.alloc (.cells #[.int .i64 D, .int .i64 N, .slice a3 (termsOf ex (allW D N)).length c3] 26)) = wv at *
        have hwv : w2.heap.size < wv.heap.size := by omega
        obtain ⟨-, t0, t1, t2, -, -, -⟩ := id HTPv.out
        obtain ⟨-, u0, u1, u2, -, -, -⟩ := id hTo
        obtain ⟨q, hq⟩ : ∃ q, addK ex 1 1 (allW D N) s = q := ⟨_, rfl⟩
        have HOn := Lib.hid (fun W (_ : Below wv.heap.size wv W) => l02One_c 1 W)
        have HA := Lib.hid (fun W (hW : Below wv.heap.size wv W) => (hq ▸ HAd.out s ex HGs.out HGe.out 1 1 (by decide) aP a3 cP c3 W (HRs.out.below hW) (HRe.out.below hW) : Calls Tryz.prog 19 #[.agg #[.int .i64 D, .int .i64 N, .slice aP (termsOf s (allW D N)).length cP], .agg #[.int .i64 D, .int .i64 N, .slice a3 (termsOf ex (allW D N)).length c3], .agg #[.int .i64 1, .int .i64 1]] W (SumPost D N (q.map fun h => termsOf h (allW D N)) W)))
        have HQ := Lib.hid (HPv.out.trans hq)
        have HGq := Lib.hid (fun h (e : q = some h) => GoodV.addK HGs.out (fun _ h => h) (hq.trans e))
        have KV := Lib.hid (show ∀ w', Below wv.heap.size wv w' → (w'.cell? ⟨w2.heap.size, 0, none⟩ = some (.int .i64 D) ∧ w'.cell? ⟨w2.heap.size, 1, none⟩ = some (.int .i64 N) ∧ w'.cell? ⟨w2.heap.size, 2, none⟩ = some (.slice aP (termsOf s (allW D N)).length cP) ∧ w'.cell? ⟨w3.heap.size, 0, none⟩ = some (.int .i64 D) ∧ w'.cell? ⟨w3.heap.size, 1, none⟩ = some (.int .i64 N) ∧ w'.cell? ⟨w3.heap.size, 2, none⟩ = some (.slice a3 (termsOf ex (allW D N)).length c3)) from fun w' hb => ⟨(hb.cell (p := ⟨w2.heap.size, 0, none⟩) hwv).trans t0, (hb.cell (p := ⟨w2.heap.size, 1, none⟩) hwv).trans t1, (hb.cell (p := ⟨w2.heap.size, 2, none⟩) hwv).trans t2, (hb.cell (p := ⟨w3.heap.size, 0, none⟩) hgv).trans u0, (hb.cell (p := ⟨w3.heap.size, 1, none⟩) hgv).trans u1, (hb.cell (p := ⟨w3.heap.size, 2, none⟩) hgv).trans u2⟩)
        clear hq hv3 hbv hTo t0 t1 t2 u0 u1 u2
        go_cut [15, 16] (SerCut wv D N (q.map fun h => termsOf h (allW D N)))
        case first =>
          go_region_held3 (fun w' => w'.cell? ⟨w2.heap.size, 0, none⟩ = some (.int .i64 D) ∧ w'.cell? ⟨w2.heap.size, 1, none⟩ = some (.int .i64 N) ∧ w'.cell? ⟨w2.heap.size, 2, none⟩ = some (.slice aP (termsOf s (allW D N)).length cP) ∧ w'.cell? ⟨w3.heap.size, 0, none⟩ = some (.int .i64 D) ∧ w'.cell? ⟨w3.heap.size, 1, none⟩ = some (.int .i64 N) ∧ w'.cell? ⟨w3.heap.size, 2, none⟩ = some (.slice a3 (termsOf ex (allW D N)).length c3))
            ((refine KV.out _ ?_; repeat' (first | with_reducible assumption | with_reducible exact Below.refl _ _ | (with_reducible refine Below.drew ?_) | (with_reducible refine Below.setCell ?_ (by (try dsimp only); omega) _) | (with_reducible refine Below.alloc ?_ (by (try simp only [World.size_setCell]); (try simp only [World.size_drew]); (try simp only [World.size_alloc]); (try simp only [World.size_setCell]); (try simp only [World.size_alloc]); omega) _))))
            (first
              | (go_at_call 20; (with_reducible refine (HOn.out _ ?_).mono ?_); (focus repeat' (first | with_reducible assumption | with_reducible exact Below.refl _ _ | (with_reducible refine Below.drew ?_) | (with_reducible refine Below.setCell ?_ (by (try dsimp only); omega) _) | (with_reducible refine Below.alloc ?_ (by (try simp only [World.size_setCell]); (try simp only [World.size_drew]); (try simp only [World.size_alloc]); (try simp only [World.size_setCell]); (try simp only [World.size_alloc]); omega) _))); rintro e w4 ⟨rfl, hb0⟩; have hbw4 : Below wv.heap.size wv w4 := below_step (by repeat' (first | with_reducible assumption | with_reducible exact Below.refl _ _ | (with_reducible refine Below.drew ?_) | (with_reducible refine Below.setCell ?_ (by (try dsimp only); omega) _) | (with_reducible refine Below.alloc ?_ (by (try simp only [World.size_setCell]); (try simp only [World.size_drew]); (try simp only [World.size_alloc]); (try simp only [World.size_setCell]); (try simp only [World.size_alloc]); omega) _))) hb0 (Nat.le_refl _); have hzw4 := hbw4.size; (try have B0 : T3 w4 wv.heap.size (.int .i64 0) (.int .i64 0) (.slice none 0 0) := T3.next (by exact (T3.new wv 0 0 none 0 0 _).drew) hb0); (try have L00 := B0.1))
              | (go_at_call 19; (with_reducible refine (HA.out _ ?_).mono ?_); (focus repeat' (first | with_reducible assumption | with_reducible exact Below.refl _ _ | (with_reducible refine Below.drew ?_) | (with_reducible refine Below.setCell ?_ (by (try dsimp only); omega) _) | (with_reducible refine Below.alloc ?_ (by (try simp only [World.size_setCell]); (try simp only [World.size_drew]); (try simp only [World.size_alloc]); (try simp only [World.size_setCell]); (try simp only [World.size_alloc]); omega) _))); rintro e w5 hpost; obtain ⟨X, Y, a5, l5, c5, ok, rfl, hb0, hU⟩ := SumPost.u hpost; (try simp only [World.size_drew] at hU); (try simp only [World.size_alloc] at hU); have hbw5 : Below wv.heap.size wv w5 := below_step (by repeat' (first | with_reducible assumption | with_reducible exact Below.refl _ _ | (with_reducible refine Below.drew ?_) | (with_reducible refine Below.setCell ?_ (by (try dsimp only); omega) _) | (with_reducible refine Below.alloc ?_ (by (try simp only [World.size_setCell]); (try simp only [World.size_drew]); (try simp only [World.size_alloc]); (try simp only [World.size_setCell]); (try simp only [World.size_alloc]); omega) _))) hb0 (Nat.le_refl _); have hzw5 := hbw5.size; have hbw4w5 : Below w4.heap.size w4 w5 := below_step (by repeat' (first | with_reducible assumption | with_reducible exact Below.refl _ _ | (with_reducible refine Below.drew ?_) | (with_reducible refine Below.setCell ?_ (by (try dsimp only); omega) _) | (with_reducible refine Below.alloc ?_ (by (try simp only [World.size_setCell]); (try simp only [World.size_drew]); (try simp only [World.size_alloc]); (try simp only [World.size_setCell]); (try simp only [World.size_alloc]); omega) _))) hb0 (Nat.le_refl _); have hzw4w5 := hbw4w5.size; (try have B0 := B0.next hbw4w5); (try have B1 : T3 w5 w4.heap.size (.int .i64 0) (.int .i64 0) (.slice none 0 0) := T3.next (by exact T3.new w4 0 0 none 0 0 _) hb0); (try have L01 := B0.1); (try have L11 := B1.1); (try obtain ⟨-, b00, b01, b02, b03, b04, b05⟩ := id B0); (try obtain ⟨-, b10, b11, b12, b13, b14, b15⟩ := id B1))
              | fail)
          all_goals (go_wp2_with fail; go_meet)
          all_goals (refine ⟨_, X, Y, a5, l5, c5, ok, rfl, rfl, ?_, ?_, ?_, ?_⟩)
          all_goals (first | (with_reducible assumption) | (with_reducible exact Nat.le_refl _) | ((repeat' (first | with_reducible assumption | with_reducible exact Below.refl _ _ | (with_reducible refine Below.drew ?_) | (with_reducible refine Below.setCell ?_ (by (try dsimp only); omega) _) | (with_reducible refine Below.alloc ?_ (by (try simp only [World.size_setCell]); (try simp only [World.size_drew]); (try simp only [World.size_alloc]); (try simp only [World.size_setCell]); (try simp only [World.size_alloc]); omega) _))); done) | ((repeat' (first | with_reducible assumption | (with_reducible refine T3.newAt ?_; first | with_reducible rfl | (simp only [World.size_setCell]; done) | (simp only [World.size_alloc]; done) | (simp only [World.size_alloc, World.size_setCell]; done)) | (with_reducible refine T3.fill ?_) | (with_reducible refine T3.far ?_ (by first | with_reducible assumption | omega)) | (with_reducible refine T3.alloc ?_ _))); done) | omega | (with_reducible exact (hU.below (below1 _ _)).mono (by omega)) | (with_reducible exact (((hU.far (by omega)).far (by omega)).far (by omega)).mono (by omega)))
        case rest =>
          obtain ⟨g8, X8, Y8, a8, l8, c8, ok8, rfl, rfl, hg8, hbc8, hT8, hU8⟩ := hcut
          obtain ⟨w8, rfl⟩ : ∃ w8 : World, w8 = wc := ⟨_, rfl⟩
          have hz8 := hbc8.size
          cases q with
          | none =>
            obtain ⟨rfl, rfl, rfl, rfl, rfl, rfl⟩ := hU8
            have HF := Lib.hid (HDd.out HQ.out)
            have hT4 := HTRv.out.next hbc8
            obtain ⟨hq4, r0, r1, r2, z0, z1, z2⟩ := id hT4
            have HWz := Lib.hid (HBv.out.trans (hbc8.mono HBv.out.size))
            clear hbc8 hT4 hT8
            go_wp2_with fail
            rw [HF.out]
            refine bodyPost_ret (v := .tuple #[.agg #[.int .i64 0, .int .i64 0, .slice none 0 0], .int .i64 3]) (by simp [results, Tryz.results5, go_sem, r0, r1, r2]) rfl (SerPost.err 3 rfl ?_)
            have hW := HWz.out
            go_grown
          | some h =>
            obtain ⟨rfl, rfl, rfl, rfl, hN8⟩ := hU8
            have hTO8 := HTPv.out.next hbc8
            have HTO := Lib.hid (hTO8.set3 (x' := .int .i64 D) (y' := .int .i64 N) (z' := .slice a8 (termsOf h (allW D N)).length c8))
            have HRO := Lib.hid (((((RowF.of (B := w.heap.size + 1) (p := w2.heap.size) (q := w2.heap.size) hN8 (by omega) (.inl hwv) (.inl hwv)).set (n := w2.heap.size) (i := 0) (u := .int .i64 D) (.inl rfl)).set (n := w2.heap.size) (i := 1) (u := .int .i64 N) (.inl rfl)).set (n := w2.heap.size) (i := 2) (u := .slice a8 (termsOf h (allW D N)).length c8) (.inl rfl)))
            have HB8 := Lib.hid ((((HB9.out.trans (hbc8.mono (by omega))).setCell (p := ⟨w2.heap.size, 0, none⟩) (Nat.le_refl _) (.int .i64 D)).setCell (p := ⟨w2.heap.size, 1, none⟩) (Nat.le_refl _) (.int .i64 N)).setCell (p := ⟨w2.heap.size, 2, none⟩) (Nat.le_refl _) (.slice a8 (termsOf h (allW D N)).length c8))
            obtain ⟨hq4, r0, r1, r2, z0, z1, z2⟩ := id hTO8
            obtain ⟨hq5, t0, t1, t2, -, -, -⟩ := id hT8
            clear hbc8 hTO8 hN8 hT8
            go_wp2_with fail
            go_roundw
            case rel => exact ⟨k + 1, h, a8, _, c8, hlt, by go_num, HQ.out, rfl, HTO.out, HRO.out, HB8.out⟩
            case measure => simp [intOf]; omega
    · obtain rfl : k = ps.length := by omega
      have HM2 := Lib.hid (HMn2.out s HSk.out)
      obtain ⟨qm, hqm⟩ : ∃ qm, addK s 1 (ps.length : Int) (allW D N) noneF = qm := ⟨_, rfl⟩
      rw [hqm] at HM2
      have HGm := Lib.hid (fun h (e : qm = some h) => GoodV.addK (good_none (allW D N)) (fun _ h => h) (hqm.trans e))
      obtain ⟨-, t0, t1, t2, -, -, -⟩ := id HTP.out
      have HRs := Lib.hid HRP.out.newRow.row
      have HEm := Lib.hid (fun W (_ : Below wo.heap.size wo W) => l01Empty_c D N (.slice aP (termsOf s (allW D N)).length cP) rfl W)
      have HA8 := Lib.hid (fun g3 W (hW : Below wo.heap.size wo W) => (by
        have h := HAd.out noneF s (good_none (allW D N)) HGs.out 1 (ps.length : Int) (isF_over hp0 hl12) (some ⟨g3, 0, none⟩) aP 0 cP W (by rw [HTn.out]; exact .inl rfl) (HRs.out.below hW)
        rw [hqm, HTn.out] at h
        exact h : Calls Tryz.prog 19 #[.agg #[.int .i64 D, .int .i64 N, .slice (some ⟨g3, 0, none⟩) 0 0], .agg #[.int .i64 D, .int .i64 N, .slice aP (termsOf s (allW D N)).length cP], .agg #[.int .i64 1, .int .i64 (ps.length : Int)]] W (SumPost D N (qm.map fun h => termsOf h (allW D N)) W)))
      have K8 := Lib.hid (show ∀ w', Below wo.heap.size wo w' → (w'.cell? ⟨w2.heap.size, 0, none⟩ = some (.int .i64 D) ∧ w'.cell? ⟨w2.heap.size, 1, none⟩ = some (.int .i64 N) ∧ w'.cell? ⟨w2.heap.size, 2, none⟩ = some (.slice aP (termsOf s (allW D N)).length cP)) from fun w' hb => ⟨(hb.cell (p := ⟨w2.heap.size, 0, none⟩) hwP).trans t0, (hb.cell (p := ⟨w2.heap.size, 1, none⟩) hwP).trans t1, (hb.cell (p := ⟨w2.heap.size, 2, none⟩) hwP).trans t2⟩)
      have hkI : ¬ (ps.length : Int) < (ps.length : Int) := by omega
      clear hqm t0 t1 t2
      go_upto_region 17 with fail
      go_cut [17, 18] (SerCut wo D N (qm.map fun h => termsOf h (allW D N)))
      case first =>
        go_region_held3 (fun w' => w'.cell? ⟨w2.heap.size, 0, none⟩ = some (.int .i64 D) ∧ w'.cell? ⟨w2.heap.size, 1, none⟩ = some (.int .i64 N) ∧ w'.cell? ⟨w2.heap.size, 2, none⟩ = some (.slice aP (termsOf s (allW D N)).length cP))
          ((refine K8.out _ ?_; repeat' (first | with_reducible assumption | with_reducible exact Below.refl _ _ | (with_reducible refine Below.drew ?_) | (with_reducible refine Below.setCell ?_ (by (try dsimp only); omega) _) | (with_reducible refine Below.alloc ?_ (by (try simp only [World.size_setCell]); (try simp only [World.size_drew]); (try simp only [World.size_alloc]); (try simp only [World.size_setCell]); (try simp only [World.size_alloc]); omega) _))))
          (first
            | (go_at_call 16; (with_reducible refine (HEm.out _ ?_).mono ?_); (focus repeat' (first | with_reducible assumption | with_reducible exact Below.refl _ _ | (with_reducible refine Below.drew ?_) | (with_reducible refine Below.setCell ?_ (by (try dsimp only); omega) _) | (with_reducible refine Below.alloc ?_ (by (try simp only [World.size_setCell]); (try simp only [World.size_drew]); (try simp only [World.size_alloc]); (try simp only [World.size_setCell]); (try simp only [World.size_alloc]); omega) _))); rintro e w8 ⟨g3, rfl, -, hb0⟩; have hbw8 : Below wo.heap.size wo w8 := below_step (by repeat' (first | with_reducible assumption | with_reducible exact Below.refl _ _ | (with_reducible refine Below.drew ?_) | (with_reducible refine Below.setCell ?_ (by (try dsimp only); omega) _) | (with_reducible refine Below.alloc ?_ (by (try simp only [World.size_setCell]); (try simp only [World.size_drew]); (try simp only [World.size_alloc]); (try simp only [World.size_setCell]); (try simp only [World.size_alloc]); omega) _))) hb0 (Nat.le_refl _); have hzw8 := hbw8.size; (try have B0 : T3 w8 wo.heap.size (.int .i64 0) (.int .i64 0) (.slice none 0 0) := T3.next (by exact (T3.new wo 0 0 none 0 0 _).drew) hb0); (try have L00 := B0.1))
            | (go_at_call 19; (with_reducible refine (HA8.out _ _ ?_).mono ?_); (focus repeat' (first | with_reducible assumption | with_reducible exact Below.refl _ _ | (with_reducible refine Below.drew ?_) | (with_reducible refine Below.setCell ?_ (by (try dsimp only); omega) _) | (with_reducible refine Below.alloc ?_ (by (try simp only [World.size_setCell]); (try simp only [World.size_drew]); (try simp only [World.size_alloc]); (try simp only [World.size_setCell]); (try simp only [World.size_alloc]); omega) _))); rintro e w9 hpost; obtain ⟨X, Y, a6, l6, c6, ok, rfl, hb0, hU⟩ := SumPost.u hpost; (try simp only [World.size_drew] at hU); (try simp only [World.size_alloc] at hU); have hbw9 : Below wo.heap.size wo w9 := below_step (by repeat' (first | with_reducible assumption | with_reducible exact Below.refl _ _ | (with_reducible refine Below.drew ?_) | (with_reducible refine Below.setCell ?_ (by (try dsimp only); omega) _) | (with_reducible refine Below.alloc ?_ (by (try simp only [World.size_setCell]); (try simp only [World.size_drew]); (try simp only [World.size_alloc]); (try simp only [World.size_setCell]); (try simp only [World.size_alloc]); omega) _))) hb0 (Nat.le_refl _); have hzw9 := hbw9.size; have hbw8w9 : Below w8.heap.size w8 w9 := below_step (by repeat' (first | with_reducible assumption | with_reducible exact Below.refl _ _ | (with_reducible refine Below.drew ?_) | (with_reducible refine Below.setCell ?_ (by (try dsimp only); omega) _) | (with_reducible refine Below.alloc ?_ (by (try simp only [World.size_setCell]); (try simp only [World.size_drew]); (try simp only [World.size_alloc]); (try simp only [World.size_setCell]); (try simp only [World.size_alloc]); omega) _))) hb0 (Nat.le_refl _); have hzw8w9 := hbw8w9.size; (try have B0 := B0.next hbw8w9); (try have B1 : T3 w9 w8.heap.size (.int .i64 0) (.int .i64 0) (.slice none 0 0) := T3.next (by exact T3.new w8 0 0 none 0 0 _) hb0); (try have L01 := B0.1); (try have L11 := B1.1); (try obtain ⟨-, b00, b01, b02, b03, b04, b05⟩ := id B0); (try obtain ⟨-, b10, b11, b12, b13, b14, b15⟩ := id B1))
            | fail)
        all_goals (go_wp2_with fail; go_meet)
        all_goals (refine ⟨_, X, Y, a6, l6, c6, ok, rfl, rfl, ?_, ?_, ?_, ?_⟩)
        all_goals (first | (with_reducible assumption) | (with_reducible exact Nat.le_refl _) | ((repeat' (first | with_reducible assumption | with_reducible exact Below.refl _ _ | (with_reducible refine Below.drew ?_) | (with_reducible refine Below.setCell ?_ (by (try dsimp only); omega) _) | (with_reducible refine Below.alloc ?_ (by (try simp only [World.size_setCell]); (try simp only [World.size_drew]); (try simp only [World.size_alloc]); (try simp only [World.size_setCell]); (try simp only [World.size_alloc]); omega) _))); done) | ((repeat' (first | with_reducible assumption | (with_reducible refine T3.newAt ?_; first | with_reducible rfl | (simp only [World.size_setCell]; done) | (simp only [World.size_alloc]; done) | (simp only [World.size_alloc, World.size_setCell]; done)) | (with_reducible refine T3.fill ?_) | (with_reducible refine T3.far ?_ (by first | with_reducible assumption | omega)) | (with_reducible refine T3.alloc ?_ _))); done) | omega | (with_reducible exact (hU.below (below1 _ _)).mono (by omega)) | (with_reducible exact (((hU.far (by omega)).far (by omega)).far (by omega)).mono (by omega)))
      case rest =>
        obtain ⟨g9, X, Y, a6, l6, c6, ok, rfl, rfl, hg9, hbc9, hT9, hU⟩ := hcut
        obtain ⟨w9, rfl⟩ : ∃ w9 : World, w9 = wc := ⟨_, rfl⟩
        have hz9 := hbc9.size
        cases qm with
        | none =>
          obtain ⟨rfl, rfl, rfl, rfl, rfl, rfl⟩ := hU
          have HF := Lib.hid (HO1.out HM2.out)
          have hT4 := HT4.out.next hbc9
          obtain ⟨hq4, r0, r1, r2, z0, z1, z2⟩ := id hT4
          have HWz := Lib.hid (HBw.out.trans (hbc9.mono HBw.out.size))
          clear hbc9 hT4 hT9
          go_wp2_with fail
          rw [HF.out]
          refine bodyPost_ret (v := .tuple #[.agg #[.int .i64 0, .int .i64 0, .slice none 0 0], .int .i64 3]) (by simp [results, Tryz.results5, go_sem, r0, r1, r2]) rfl (SerPost.err 3 rfl ?_)
          have hW := HWz.out
          go_grown
        | some m =>
          obtain ⟨rfl, rfl, rfl, rfl, hN9⟩ := hU
          have HO := Lib.hid (HO2.out m HM2.out)
          have HGd := Lib.hid (HGm.out m rfl)
          have HT9 := Lib.hid hT9
          have HTR9 := Lib.hid (HT4.out.next hbc9)
          have HW9 := Lib.hid (HBw.out.trans (hbc9.mono HBw.out.size))
          have HRm := Lib.hid hN9.row
          obtain ⟨hq9, x0, x1, x2, -, -, -⟩ := id hT9
          have HUt := Lib.hid (unit_terms D N)
          clear hbc9 hT9 hN9
          go_wp2_with fail
          refine (l02Unit_c D N _ _ _ _).mono ?_
          rintro e w5 ⟨a5, c5, rfl, hb5, hN5⟩
          have HT9b := Lib.hid (HT9.out.next hb5)
          have HTRb := Lib.hid (HTR9.out.next hb5)
          have HWb := Lib.hid (HW9.out.trans (hb5.mono HW9.out.size))
          have HRmb := Lib.hid (HRm.out.below hb5)
          have hz5 := hb5.size
          have HR5 := Lib.hid (RowF.of (B := w.heap.size + 1) (p := w5.heap.size) (q := w5.heap.size) hN5 (by omega) (.inr (Nat.le_refl _)) (.inr (Nat.le_refl _)))
          clear hb5 hN5 x0 x1 x2
          go_wp2_with fail
          go_loopw [3] (fun v3 wq => ∃ (j : Nat) (h : VF) (aQ : Option Addr) (lQ cQ : Nat), j ≤ K ∧ v3 = .int .i64 ((K : Int) - j) ∧ powV m (allW D N) j = some h ∧ lQ = (termsOf h (allW D N)).length ∧ T3 wq w5.heap.size (.int .i64 D) (.int .i64 N) (.slice aQ lQ cQ) ∧ RowF (w.heap.size + 1) w5.heap.size w5.heap.size wq aQ (termsOf h (allW D N)) ∧ Below w5.heap.size w5 wq) (fun v3 _ => (intOf v3).toNat)
          case atStart => exact ⟨0, unitF, a5, 1, c5, Nat.zero_le _, by simp, rfl, by rw [HUt.out]; rfl, T3.new _ _ _ _ _ _ _, by rw [HUt.out]; exact HR5.out.alloc _, below1 _ _⟩
          case round =>
            obtain ⟨j, h, aQ, lQ, cQ, hj, rfl, hpj, hlQ, hTQ, hRQ, hBq⟩ := hrel
            obtain ⟨wq, rfl⟩ : ∃ wq : World, wq = wr := ⟨_, rfl⟩
            subst hlQ
            have HP := Lib.hid hpj
            have HTQ := Lib.hid hTQ
            have HRQ := Lib.hid hRQ
            have HBq := Lib.hid hBq
            have hzq := hBq.size
            have hwq := hTQ.1
            have HT9q := Lib.hid (HT9b.out.below hBq (by omega))
            have HTRq := Lib.hid (HTRb.out.below hBq (by omega))
            have HWq := Lib.hid (HWb.out.trans (hBq.mono (by omega)))
            have HRmq := Lib.hid (HRmb.out.below hBq)
            clear hpj hTQ hRQ hBq
            by_cases hjK : j < K
            · have hpos : (0 : Int) < (K : Int) - j := by omega
              have HTc := Lib.hid (HTm.out aQ cQ h (powV_good HP.out) a6 c6 m HGd.out wq HRQ.out.newRow.row HRmq.out)
              have HNx := Lib.hid (powV_next HP.out)
              have HDp := Lib.hid (fun e => powV_dead (base := m) (ws := allW D N) (k := j + 1) e hjK)
              obtain ⟨-, t0, t1, t2, -, -, -⟩ := id HTQ.out
              obtain ⟨-, x0, x1, x2, -, -, -⟩ := id HT9q.out
              go_wp2_with fail
              refine HTc.out.mono ?_
              clear t0 t1 t2 x0 x1 x2
              cases hv : prodV h m (allW D N) with
              | none =>
                rintro e w6 ⟨rfl, hb6⟩
                have HF := Lib.hid (HO.out.trans (HDp.out (HNx.out.trans hv)))
                obtain ⟨hq4, r0, r1, r2, z0, z1, z2⟩ := id (HTRq.out.next hb6)
                have HWz := Lib.hid (HWq.out.trans (hb6.mono HWq.out.size))
                clear hb6 hv
                go_wp2
                rw [HF.out]
                refine bodyPost_ret (v := .tuple #[.agg #[.int .i64 0, .int .i64 0, .slice none 0 0], .int .i64 3]) (by simp [results, Tryz.results5, go_sem, r0, r1, r2, hq4]) rfl (SerPost.err 3 rfl ?_)
                have hW := HWz.out
                go_grown
              | some h' =>
                rintro e w6 ⟨a7, c7, rfl, hb6, hN6⟩
                have HPn := Lib.hid (HNx.out.trans hv)
                have hT6 := HTQ.out.next hb6
                have HT6 := Lib.hid (hT6.set3 (x' := .int .i64 D) (y' := .int .i64 N) (z' := .slice a7 (termsOf h' (allW D N)).length c7))
                have HR6 := Lib.hid ((((RowF.of (B := w.heap.size + 1) (p := w5.heap.size) (q := w5.heap.size) hN6 (by omega) (.inl (by omega)) (.inl (by omega))).set (n := w5.heap.size) (i := 0) (u := .int .i64 D) (.inl rfl)).set (n := w5.heap.size) (i := 1) (u := .int .i64 N) (.inl rfl)).set (n := w5.heap.size) (i := 2) (u := .slice a7 (termsOf h' (allW D N)).length c7) (.inl rfl))
                have HB6 := Lib.hid ((((HBq.out.trans (hb6.mono hzq)).setCell (p := ⟨w5.heap.size, 0, none⟩) (Nat.le_refl _) (.int .i64 D)).setCell (p := ⟨w5.heap.size, 1, none⟩) (Nat.le_refl _) (.int .i64 N)).setCell (p := ⟨w5.heap.size, 2, none⟩) (Nat.le_refl _) (.slice a7 (termsOf h' (allW D N)).length c7))
                obtain ⟨hq4, r0, r1, r2, z0, z1, z2⟩ := id hT6
                have hz6 := hb6.size
                clear hb6 hv hN6 hT6
                go_wp2_with fail
                go_roundw
                case rel => exact ⟨j + 1, h', a7, _, c7, hjK, by first | rfl | (congr 1; omega) | go_num, HPn.out, rfl, HT6.out.alloc _, HR6.out.alloc _, HB6.out.alloc (by simp; omega) _⟩
                case measure => simp [intOf]; omega
            · obtain rfl : j = K := by omega
              have hnn : ¬ (0 : Int) < (j : Int) - j := by omega
              have HF := Lib.hid (HO.out.trans HP.out)
              obtain ⟨hq4, r0, r1, r2, z0, z1, z2⟩ := id HTRq.out
              obtain ⟨-, t0, t1, t2, -, -, -⟩ := id HTQ.out
              have HNw := Lib.hid HRQ.out.newRow
              go_wp2
              rw [HF.out]
              refine bodyPost_ret (v := .tuple #[.agg #[.int .i64 D, .int .i64 N, .slice aQ (termsOf h (allW D N)).length cQ], .int .i64 0]) (by simp [results, Tryz.results5, go_sem, r0, r1, r2]) rfl ⟨aQ, cQ, rfl, ?_, ?_⟩
              · have hW := HWq.out
                go_grown
              · exact (((HNw.out.far1s (by omega)).far1s (by omega)).far1s (by omega)).mono (by omega) (by simp)
end Go.Proofs.YteljpgoaaelbfaaGreatDoor
