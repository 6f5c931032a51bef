/-
  The values of a path's signature; the contract of the model's signature.
  Contracts of the model's SignatureOf.
  The closure of SignatureOf: the product of the steps' signatures, or a fraction does not fit and it panics; contracts of SignatureOf, of the program.
-/
import Derived.Test.YtgcjpenlcokgjaaGreatDoorStepT
import Derived.Test.YtgcjpenlcokgjaaGreatDoorExpM
import Derived.Test.YtgcjpenlcokgjaaGreatDoorPaths
import Derived.Test.YtgcjpenlcokgjaaGreatDoorPathC
import Derived.Test.YtgcjpenlcokgjaaGreatDoorGate
import Derived.Test.YtgcjpenlcokgjaaGreatDoorEndOf
import Derived.Deep.RegionHeld2
import Derived.Deep.RegionHeld3
namespace Go.Proofs.YtgcjpenlcokgjaaGreatDoor
open Go.RowKit

/-- the values of the signature of the first k steps -/
def sigV (ps : List (List Int)) (ws : List ByteArray) (N : Nat) : Nat → Option VF
  | 0 => some unitF
  | k + 1 => (sigV ps ws N k).bind fun s => (expV (stepV (ps.getD k [])) ws N).bind fun e => prodV s e ws
theorem sigV_1 {ps : List (List Int)} {ws : List ByteArray} {N k : Nat} (h : expV (stepV (ps.getD k [])) ws N = none) : sigV ps ws N (k + 1) = none := by
  rw [sigV, h]
  cases sigV ps ws N k <;> rfl
theorem sigV_2 {ps : List (List Int)} {ws : List ByteArray} {N k : Nat} {s e : VF} (h : sigV ps ws N k = some s) (h2 : expV (stepV (ps.getD k [])) ws N = some e) : sigV ps ws N (k + 1) = prodV s e ws := by rw [sigV, h, h2]; rfl
theorem sigV_dead {ps : List (List Int)} {ws : List ByteArray} {N k : Nat} (h : sigV ps ws N k = none) : ∀ {m : Nat}, k ≤ m → sigV ps ws N m = none
  | 0, hm => by obtain rfl : k = 0 := by omega
                exact h
  | m + 1, hm => by
    by_cases e : k = m + 1
    · subst e; exact h
    · rw [sigV, sigV_dead h (show k ≤ m by omega)]; rfl
theorem sigV_good {ps : List (List Int)} {D N : Nat} : ∀ {k : Nat} {s : VF}, sigV ps (allW D N) N k = some s → GoodV (allW D N) s
  | 0, s, h => by rw [sigV] at h; injection h with h; rw [← h]; exact good_unit D N
  | k + 1, s, h => by
    rw [sigV] at h
    obtain ⟨q, _, h2⟩ := Option.bind_eq_some_iff.1 h
    obtain ⟨e, _, h3⟩ := Option.bind_eq_some_iff.1 h2
    exact GoodV.prodV h3
theorem stepV_good {D N : Nat} (hD : 1 ≤ D ∧ D ≤ 3) (hN : 1 ≤ N) {zs : List Int} (h : stepB D zs = true) : GoodV (allW D N) (stepV zs) := by
  obtain ⟨hl, hb⟩ := stepB_true h
  have hx : ∀ i, -1000000000 ≤ zs.getD i 0 ∧ zs.getD i 0 ≤ 1000000000 := fun i => by
    by_cases hi : i < zs.length
    · have := hb i hi
      rw [List.getD_eq_getElem?_getD, List.getElem?_eq_getElem hi]
      show -1000000000 ≤ zs[i] ∧ zs[i] ≤ 1000000000
      omega
    · rw [List.getD_eq_getElem?_getD, List.getElem?_eq_none (by omega)]
      decide
  have hz : ∀ i, D ≤ i → zs.getD i 0 = 0 := fun i hi => by
    rw [List.getD_eq_getElem?_getD, List.getElem?_eq_none (by omega)]
    rfl
  exact stepF_good hD.1 hN (hx 0) (hx 1) (hx 2) (fun h => hz 1 (by omega)) (fun h => hz 2 (by omega))

set_option maxRecDepth 100000 in
set_option maxHeartbeats 8000000 in
theorem l04Signature_c (D N : Nat) (hD : 1 ≤ D ∧ D ≤ 3) (hN : 1 ≤ N ∧ N ≤ 5) (lo hi : Nat) (a : Option Addr) (cap : Nat) (ps : List (List Int)) (hp : pathB D ps = true) (w : World) (hr : PRow lo hi w a ps) (hh : hi ≤ w.heap.size) :
    Calls Tryz.prog 132 #[.int .i64 D, .int .i64 N, .slice a ps.length cap] w (SumPost D N ((sigV ps (allW D N) N ps.length).map fun h => termsOf h (allW D N)) w) := by
  have hW := allW_asc hD.2 N
  have hfew := allW_few (D := D) hD.2 (n := N) hN.2
  obtain ⟨-, hl12, hst⟩ := pathB_true hp
  have HPR := Lib.hid hr
  have HSt := Lib.hid hst
  have HUt := Lib.hid (unit_terms D N)
  have HEx := Lib.hid (fun aQ cQ zs (hz : stepB D zs = true) W r => l02Exp_c D N hD hN.2 aQ cQ (stepV zs) (stepV_good hD hN.1 hz) (stepT zs D) (step_terms hD hN.1 zs) W r)
  have HTm := Lib.hid (fun aP cP p (hp : GoodV (allW D N) p) aQ cQ q (hq : GoodV (allW D N) q) W r1 r2 => (prodL_V p q (allW D N)) ▸ l02Times_c D N hD hN.2 aP aQ cP cQ p q hp hq (termsOf p (allW D N)) (termsOf q (allW D N)) rfl rfl (by have := termsOf_len p (allW D N); omega) (by have := termsOf_len q (allW D N); omega) hW W r1 r2)
  obtain ⟨o, ho⟩ : ∃ o, sigV ps (allW D N) N ps.length = o := ⟨_, rfl⟩
  rw [ho]
  have HOut := Lib.hid ho
  clear hr hst hp hW hfew ho
  go_enter Tryz.func132, Tryz.ntmps132
  go_wp2_with fail
  have HWb := Lib.hid (below1 w (.cells #[.int .i64 0, .int .i64 0, .slice none 0 0] 26))
  refine (l02Unit_c D N _ _ _ _).mono ?_
  rintro e w1 ⟨a1, c1, rfl, hb1, hN1⟩
  have hT1 := (T3.new w 0 0 none 0 0 26).next hb1
  have hz1 := hT1.1
  have HT1 := Lib.hid hT1
  have HB1 := Lib.hid (HWb.out.trans (hb1.mono (by simp)))
  have hN1' := hN1
  simp only [World.size_alloc] at hN1'
  have HR1 := Lib.hid (RowF.of (B := w.heap.size + 1) (p := w1.heap.size) (q := w1.heap.size) hN1' (Nat.le_refl _) (.inr (Nat.le_refl _)) (.inr (Nat.le_refl _)))
  clear hb1 hN1 hN1' hT1
  go_wp2_with fail
  have hzb : w.heap.size + 1 ≤ w1.heap.size := by omega
  go_loopw [9] (fun v9 wr => ∃ (k : Nat) (s : VF) (aP : Option Addr) (lP cP : Nat), k ≤ ps.length ∧ v9 = .int .i64 k ∧ sigV ps (allW D N) N k = some s ∧ lP = (termsOf s (allW D N)).length ∧ T3 wr w1.heap.size (.int .i64 D) (.int .i64 N) (.slice aP lP cP) ∧ RowF (w.heap.size + 1) w1.heap.size w1.heap.size wr aP (termsOf s (allW D N)) ∧ Below w1.heap.size w1 wr) (fun v9 _ => ps.length - (intOf v9).toNat)
  case atStart => exact ⟨0, unitF, a1, 1, c1, Nat.zero_le _, rfl, rfl, by rw [HUt.out]; rfl, T3.new _ _ _ _ _ _ _, by rw [HUt.out]; exact HR1.out.alloc _, below1 _ _⟩
  case round =>
    obtain ⟨k, s, aP, lP, cP, hk, rfl, hsk, hlP, hTP, hRP, hB⟩ := hrel
    obtain ⟨wo, rfl⟩ : ∃ wo : World, wo = wr := ⟨_, rfl⟩
    subst hlP
    have HSk := Lib.hid hsk
    have HTP := Lib.hid hTP
    have HRP := Lib.hid hRP
    have HB := Lib.hid hB
    have HGs := Lib.hid (sigV_good hsk)
    have hzo := hB.size
    have hwP := hTP.1
    have HBw := Lib.hid (HB1.out.trans (hB.mono (by omega)))
    have HT4 := Lib.hid (HT1.out.below hB (by omega))
    clear hsk hTP hRP hB
    by_cases hlt : k < ps.length
    · rcases HPR.out.below HBw.out hh with h | ⟨b, off, rfl, hlob, hbhi, hPI⟩
      · rw [h] at hlt; simp at hlt
      obtain ⟨ai, ci, hc0, hIR⟩ := hPI k hlt
      have hsb := HSt.out k hlt
      obtain ⟨hlen, -⟩ := stepB_true hsb
      rcases hIR with h | ⟨bi, oi, rfl, hlbi, hbhi2, hII⟩
      · rw [h] at hlen; simp at hlen; omega
      have hgd : ps.getD k [] = ps[k] := by rw [List.getD_eq_getElem?_getD, List.getElem?_eq_getElem hlt]; rfl
      have HNx1 := Lib.hid (sigV_1 (ps := ps) (ws := allW D N) (N := N) (k := k))
      have HNx2 := Lib.hid (fun e h => sigV_2 (ps := ps) (ws := allW D N) (N := N) (k := k) (e := e) HSk.out h)
      have HDd := Lib.hid (fun (hq : sigV ps (allW D N) N (k + 1) = none) => sigV_dead hq (show k + 1 ≤ ps.length from hlt))
      rw [hgd] at HNx1 HNx2
      obtain ⟨zs, hzs⟩ : ∃ zs, ps[k] = zs := ⟨_, rfl⟩
      rw [hzs] at HNx1 HNx2 hc0 hII hsb hlen
      have hlz : zs.length = D := by omega
      have hStep0 := l04Step_c D N hD.2 bi oi ci zs hlz wo (by omega) hII
      rw [hlz] at hStep0
      have HStep := Lib.hid hStep0
      clear hStep0
      have HExs := Lib.hid (fun aQ cQ W r => HEx.out aQ cQ zs hsb W r)
      have hkI : (k : Int) < (ps.length : Int) := by omega
      clear hgd hzs hPI hII hsb hlen
      go_wp2_with fail
      refine HStep.out.mono ?_
      rintro e w2 ⟨a2, c2, rfl, hb2, hN2⟩
      have HB2 := Lib.hid hb2
      have HE2 := Lib.hid (HExs.out a2 c2 w2 hN2.row)
      have hz2 := hb2.size
      clear hb2 hN2 hc0
      go_wp2_with fail
      refine HE2.out.mono ?_
      cases he : expV (stepV zs) (allW D N) N with
      | none =>
        rintro e w3 ⟨rfl, hb3⟩
        have hb13 := HB2.out.trans (hb3.mono hz2)
        have HF := Lib.hid (HDd.out (HNx1.out he))
        obtain ⟨hq4, r0, r1, r2, z0, z1, z2⟩ := id (HT4.out.next hb13)
        have HWz := Lib.hid (HBw.out.trans (hb13.mono HBw.out.size))
        clear hb3 hb13 he
        go_wp2
        have e : o = none := HOut.out.symm.trans HF.out
        rw [e]
        refine bodyPost_ret (v := .tuple #[.agg #[.int .i64 0, .int .i64 0, .slice none 0 0], .bool false]) (by simp [results, Tryz.results132, go_sem, r0, r1, r2, hq4]) rfl ⟨rfl, ?_⟩
        have hW := HWz.out
        go_grown
      | some ex =>
        rintro e w3 ⟨a3, c3, rfl, hb3, hN3⟩
        have hb13 := HB2.out.trans (hb3.mono hz2)
        have HPv := Lib.hid (HNx2.out ex he)
        have HGe := Lib.hid (sumK_good (show sumK (stepV zs) (allW D N) expF (N + 1) = some ex from he))
        have hv3 := below1 w3 (.cells #[.int .i64 D, .int .i64 N, .slice a3 (termsOf ex (allW D N)).length c3] 26)
        have hbv := hb13.trans (hv3.mono hb13.size)
        have HTc := Lib.hid (HTm.out aP cP s HGs.out a3 c3 ex HGe.out _ (HRP.out.newRow.row.below hbv) (hN3.row.below hv3))
        have HT3 := Lib.hid (HTP.out.next hb13)
        have HR4 := Lib.hid (HT4.out.next hb13)
        have HB3 := Lib.hid hb13
        have HV3 := Lib.hid hv3
        obtain ⟨hq3, t0, t1, t2, -, -, -⟩ := id (HTP.out.next hb13)
        have hz3 := hb13.size
        clear hb3 hb13 hN3 hv3 hbv he
        go_wp2_with fail
        refine HTc.out.mono ?_
        cases hv : prodV s ex (allW D N) with
        | none =>
          rintro e w4 ⟨rfl, hb4⟩
          have hb34 : Below w3.heap.size w3 w4 := below_step HV3.out hb4 (Nat.le_refl _)
          have HF := Lib.hid (HDd.out (HPv.out.trans hv))
          obtain ⟨hq4, r0, r1, r2, z0, z1, z2⟩ := id (HR4.out.next hb34)
          have HWz := Lib.hid (HBw.out.trans ((HB3.out.trans (hb34.mono hz3)).mono HBw.out.size))
          clear hb4 hb34 hv t0 t1 t2
          go_wp2
          have e : o = none := HOut.out.symm.trans HF.out
          rw [e]
          refine bodyPost_ret (v := .tuple #[.agg #[.int .i64 0, .int .i64 0, .slice none 0 0], .bool false]) (by simp [results, Tryz.results132, go_sem, r0, r1, r2, hq4]) rfl ⟨rfl, ?_⟩
          have hW := HWz.out
          go_grown
        | some s' =>
          rintro e w4 ⟨a4, c4, rfl, hb4, hN4⟩
          have hb34 : Below w3.heap.size w3 w4 := below_step HV3.out hb4 (Nat.le_refl _)
          have HSn := Lib.hid (HPv.out.trans hv)
          have hT4' := HT3.out.next hb34
          have HT5 := Lib.hid ((hT4'.set3 (x' := .int .i64 D) (y' := .int .i64 N) (z' := .slice a4 (termsOf s' (allW D N)).length c4)))
          simp only [World.size_alloc] at hN4
          have HR5 := Lib.hid ((((RowF.of (B := w.heap.size + 1) (p := w1.heap.size) (q := w1.heap.size) hN4 (by omega) (.inl (by omega)) (.inl (by omega))).set (n := w1.heap.size) (i := 0) (u := .int .i64 D) (.inl rfl)).set (n := w1.heap.size) (i := 1) (u := .int .i64 N) (.inl rfl)).set (n := w1.heap.size) (i := 2) (u := .slice a4 (termsOf s' (allW D N)).length c4) (.inl rfl))
          have HB5 := Lib.hid ((((HB.out.trans ((HB3.out.trans (hb34.mono hz3)).mono hzo)).setCell (p := ⟨w1.heap.size, 0, none⟩) (Nat.le_refl _) (.int .i64 D)).setCell (p := ⟨w1.heap.size, 1, none⟩) (Nat.le_refl _) (.int .i64 N)).setCell (p := ⟨w1.heap.size, 2, none⟩) (Nat.le_refl _) (.slice a4 (termsOf s' (allW D N)).length c4))
          obtain ⟨hq4, r0, r1, r2, z0, z1, z2⟩ := id hT4'
          have hz4 := hb34.size
          clear hb4 hb34 hv hN4 hT4' t0 t1 t2
          go_wp2_with fail
          go_roundw
          case rel => exact ⟨k + 1, s', a4, _, c4, hlt, by go_num, HSn.out, rfl, HT5.out.alloc _, HR5.out.alloc _, HB5.out.alloc (by simp; omega) _⟩
          case measure => simp [intOf]; omega
    · obtain rfl : k = ps.length := by omega
      have HO2 := Lib.hid (HOut.out.symm.trans HSk.out)
      obtain ⟨hq4, r0, r1, r2, z0, z1, z2⟩ := id HT4.out
      obtain ⟨-, t0, t1, t2, -, -, -⟩ := id HTP.out
      have HNw := Lib.hid HRP.out.newRow
      go_wp2
      rw [HO2.out]
      refine bodyPost_ret (v := .tuple #[.agg #[.int .i64 D, .int .i64 N, .slice aP (termsOf s (allW D N)).length cP], .bool true]) (by simp [results, Tryz.results132, go_sem, r0, r1, r2]) rfl ⟨aP, cP, rfl, ?_, ?_⟩
      · have hW := HBw.out
        go_grown
      · exact (((HNw.out.far1s (by omega)).far1s (by omega)).far1s (by omega)).mono (by omega) (by simp)
end Go.Proofs.YtgcjpenlcokgjaaGreatDoor

namespace Go.Proofs.YtgcjpenlcokgjaaGreatDoor
open Go.RowKit

set_option maxRecDepth 100000 in
set_option maxHeartbeats 4000000 in
theorem sSig_1 (L V : Int) (lo hi : Nat) (a : Option Addr) (cap : Nat) (ps : List (List Int)) (hl : ps.length ≤ 1048576) (hs : flat ps ≤ 1048576) (c : Int) (hc : codeP L V ps = c) (hn : c ≠ 0) (w : World) (hr : PRow lo hi w a ps) (hh : hi ≤ w.heap.size) :
    Calls Tryz.prog 97 #[.int .i64 L, .int .i64 V, .slice a ps.length cap] w (SerPost 0 0 [] c w) := by
  have HR := Lib.hid hr
  have HC := Lib.hid hc
  have hnb : (c != 0) = true := by simpa using hn
  clear hr hc hn
  go_enter Tryz.func97, Tryz.ntmps97
  go_wp2_with fail
  refine (l04Code1_c lo hi L V a cap ps hl hs (w.heap.size + 1) _ _ (HR.out.below (below2 w _ _) hh) (by go_simp)).mono ?_
  rw [HC.out]
  rintro e w1 ⟨rfl, hb⟩
  have hT := ((T3.new w 0 0 none 0 0 26).alloc (.cells #[.slice a ps.length cap] 42)).next hb
  have HW1 := Lib.hid ((below2 w (.cells #[.int .i64 0, .int .i64 0, .slice none 0 0] 26) (.cells #[.slice a ps.length cap] 42)).trans (hb.mono (by simp; omega)))
  obtain ⟨hz1, r0, r1, r2, z0, z1, z2⟩ := id hT
  clear hb hT
  go_wp2
  refine bodyPost_ret (v := .tuple #[.agg #[.int .i64 0, .int .i64 0, .slice none 0 0], .int .i64 c]) (by simp [results, Tryz.results97, go_sem, r0, r1, r2]) rfl (SerPost.err c rfl ?_)
  have hW := HW1.out
  go_grown
set_option maxRecDepth 100000 in
set_option maxHeartbeats 4000000 in
theorem sSig_2 (D N : Nat) (hD : 1 ≤ D ∧ D ≤ 3) (hN : 1 ≤ N ∧ N ≤ 5) (lo hi : Nat) (a : Option Addr) (cap : Nat) (ps : List (List Int)) (hl : ps.length ≤ 1048576) (hs : flat ps ≤ 1048576) (hp : pathB D ps = true) (hc : codeP D N ps = 0) (hq : sigV ps (allW D N) N ps.length = none) (w : World) (hr : PRow lo hi w a ps) (hh : hi ≤ w.heap.size) :
    Calls Tryz.prog 97 #[.int .i64 D, .int .i64 N, .slice a ps.length cap] w (SerPost 0 0 [] 3 w) := by
  have HR := Lib.hid hr
  have HC := Lib.hid hc
  have HP := Lib.hid hp
  have HQ := Lib.hid hq
  clear hr hc hp hq
  go_enter Tryz.func97, Tryz.ntmps97
  go_wp2_with fail
  refine (l04Code1_c lo hi D N a cap ps hl hs (w.heap.size + 1) _ _ (HR.out.below (below2 w _ _) hh) (by go_simp)).mono ?_
  rw [HC.out]
  rintro e w1 ⟨rfl, hb⟩
  have hT := ((T3.new w 0 0 none 0 0 26).alloc (.cells #[.slice a ps.length cap] 42)).next hb
  have HW1 := Lib.hid ((below2 w (.cells #[.int .i64 0, .int .i64 0, .slice none 0 0] 26) (.cells #[.slice a ps.length cap] 42)).trans (hb.mono (by simp; omega)))
  have HT := Lib.hid hT
  have hz1 := hT.1
  clear hb hT
  have HSg := Lib.hid (l04Signature_c D N hD hN lo hi a cap ps HP.out w1 (HR.out.below HW1.out hh) (by omega))
  go_wp2_with fail
  refine HSg.out.mono ?_
  rw [HQ.out]
  rintro e w2 ⟨rfl, hb2⟩
  have hT2 := HT.out.next hb2
  have HW2 := Lib.hid (HW1.out.trans (hb2.mono HW1.out.size))
  obtain ⟨hzr, r0, r1, r2, z0, z1, z2⟩ := id hT2
  clear hb2 hT2
  go_wp2
  refine bodyPost_ret (v := .tuple #[.agg #[.int .i64 0, .int .i64 0, .slice none 0 0], .int .i64 3]) (by simp [results, Tryz.results97, go_sem, r0, r1, r2, hzr]) rfl (SerPost.err 3 rfl ?_)
  have hW := HW2.out
  go_grown
set_option maxRecDepth 100000 in
set_option maxHeartbeats 4000000 in
theorem sSig_3 (D N : Nat) (hD : 1 ≤ D ∧ D ≤ 3) (hN : 1 ≤ N ∧ N ≤ 5) (lo hi : Nat) (a : Option Addr) (cap : Nat) (ps : List (List Int)) (hl : ps.length ≤ 1048576) (hs : flat ps ≤ 1048576) (hp : pathB D ps = true) (hc : codeP D N ps = 0) (h : VF) (hq : sigV ps (allW D N) N ps.length = some h) (w : World) (hr : PRow lo hi w a ps) (hh : hi ≤ w.heap.size) :
    Calls Tryz.prog 97 #[.int .i64 D, .int .i64 N, .slice a ps.length cap] w (SerPost D N (termsOf h (allW D N)) 0 w) := by
  have HR := Lib.hid hr
  have HC := Lib.hid hc
  have HP := Lib.hid hp
  have HQ := Lib.hid hq
  clear hr hc hp hq
  go_enter Tryz.func97, Tryz.ntmps97
  go_wp2_with fail
  refine (l04Code1_c lo hi D N a cap ps hl hs (w.heap.size + 1) _ _ (HR.out.below (below2 w _ _) hh) (by go_simp)).mono ?_
  rw [HC.out]
  rintro e w1 ⟨rfl, hb⟩
  have hT := ((T3.new w 0 0 none 0 0 26).alloc (.cells #[.slice a ps.length cap] 42)).next hb
  have HW1 := Lib.hid ((below2 w (.cells #[.int .i64 0, .int .i64 0, .slice none 0 0] 26) (.cells #[.slice a ps.length cap] 42)).trans (hb.mono (by simp; omega)))
  have HT := Lib.hid hT
  have hz1 := hT.1
  clear hb hT
  have HSg := Lib.hid (l04Signature_c D N hD hN lo hi a cap ps HP.out w1 (HR.out.below HW1.out hh) (by omega))
  go_wp2_with fail
  refine HSg.out.mono ?_
  rw [HQ.out]
  rintro e w2 ⟨a4, c4, rfl, hb2, hN4⟩
  have hT2 := HT.out.next hb2
  have HW2 := Lib.hid (HW1.out.trans (hb2.mono HW1.out.size))
  have HN4 := Lib.hid hN4
  have hz4 := hb2.size
  obtain ⟨hzr, r0, r1, r2, z0, z1, z2⟩ := id hT2
  clear hb2 hT2 hN4
  go_wp2
  refine bodyPost_ret (v := .tuple #[.agg #[.int .i64 D, .int .i64 N, .slice a4 (termsOf h (allW D N)).length c4], .int .i64 0]) (by simp [results, Tryz.results97, go_sem, r0, r1, r2, hzr]) rfl ⟨a4, c4, rfl, ?_, ?_⟩
  · have hW := HW2.out
    go_grown
  · first
      | exact (((HN4.out.far1s (by omega)).far1s (by omega)).far1s (by omega)).mono (by omega) (by simp)
      | exact ((((HN4.out.below (below1 _ _) (by simp)).far1s (by omega)).far1s (by omega)).far1s (by omega)).mono (by omega) (by simp)
      | exact ((((HN4.out.far1s (by omega)).far1s (by omega)).far1s (by omega)).below (below1 _ _) (by simp)).mono (by omega) (by simp)
end Go.Proofs.YtgcjpenlcokgjaaGreatDoor

namespace Go.Proofs.YtgcjpenlcokgjaaGreatDoor
open Go.RowKit

set_option maxRecDepth 100000 in
set_option maxHeartbeats 8000000 in
theorem sigWork (D N : Nat) (hD : 1 ≤ D ∧ D ≤ 3) (hN : 1 ≤ N ∧ N ≤ 5) (p pp : Nat) (aS a1 : Option Addr) (cS c1 lo hi : Nat) (ps : List (List Int)) (hp : pathB D ps = true) (w : World) (hpw : p < w.heap.size) (hpp : pp < w.heap.size) (s0 : w.cell? ⟨p, 0, none⟩ = some (.int .i64 D)) (s1 : w.cell? ⟨p, 1, none⟩ = some (.int .i64 N)) (s2 : w.cell? ⟨p, 2, none⟩ = some (.slice aS (allW D N).length cS)) (x0 : w.cell? ⟨pp, 0, none⟩ = some (.slice a1 ps.length c1)) (hrs : SRow w aS (allW D N)) (hr1 : PRow lo hi w a1 ps) (hh : hi ≤ w.heap.size) :
    Calls Tryz.prog 136 #[.pointer (some ⟨pp, 0, none⟩), .pointer (some ⟨p, 0, none⟩)] w (WorkPost (sigV ps (allW D N) N ps.length) w) := by
  obtain ⟨-, hl12, hst⟩ := pathB_true hp
  have hfew := allW_few (D := D) hD.2 (n := N) hN.2
  have HWl := Lib.hid (show (allW D N).length ≤ 100000 by omega)
  have HWs := Lib.hid (show ∀ s ∈ allW D N, s.size ≤ 1000 from fun s hs => by have := allW_size D N s hs; omega)
  have HU := Lib.hid (good_unit D N)
  have HAa := Lib.hid (show ∀ p, aS = some p → p.block < w.heap.size from fun p e => by
    rcases hrs with h | ⟨b, o, e2, h3, _⟩
    · obtain ⟨r, hr, _⟩ := allW_head D N
      rw [hr] at h
      cases h
    · rw [e2] at e
      injection e with e
      rw [← e]
      exact h3)
  have HRS := Lib.hid hrs
  have HR := Lib.hid hr1
  have HSt := Lib.hid hst
  have KS := Lib.hid (show ∀ w', Below w.heap.size w w' → (w'.cell? ⟨p, 0, none⟩ = some (.int .i64 D) ∧ w'.cell? ⟨p, 1, none⟩ = some (.int .i64 N) ∧ w'.cell? ⟨p, 2, none⟩ = some (.slice aS (allW D N).length cS)) from fun w' hb => ⟨(hb.cell (p := ⟨p, 0, none⟩) hpw).trans s0, (hb.cell (p := ⟨p, 1, none⟩) hpw).trans s1, (hb.cell (p := ⟨p, 2, none⟩) hpw).trans s2⟩)
  have KX := Lib.hid (show ∀ w', Below w.heap.size w w' → w'.cell? ⟨pp, 0, none⟩ = some (.slice a1 ps.length c1) from fun w' hb => (hb.cell (p := ⟨pp, 0, none⟩) hpp).trans x0)
  obtain ⟨o, ho⟩ : ∃ o, sigV ps (allW D N) N ps.length = o := ⟨_, rfl⟩
  rw [ho]
  have HOut := Lib.hid ho
  clear hrs hr1 hst hp hfew ho s0 s1 s2 x0
  go_enter Tryz.func136, Tryz.ntmps136
  go_wp2_with fail
  refine (unitValues_c _).mono ?_
  rintro e w1 ⟨m1, rfl, hm1, hb1, hM1⟩
  have HM1 := Lib.hid hM1
  have HB1 := Lib.hid hb1
  have hbl1 := hM1.lt
  have x1' := KX.out w1 hb1
  clear hM1 hb1
  go_wp2_with fail
  refine (movesOf_c lo hi a1 c1 ps hl12 (fun i hi => by have h1 := (stepB_true (HSt.out i hi)).1; omega) _ (HR.out.below HB1.out hh) (by have := HB1.out.size; omega)).mono ?_
  rintro e w2 ⟨am, cm, rfl, hb2, hO2⟩
  have HR2 := Lib.hid hO2.at_.2.row
  have HLn := Lib.hid (show (ps.map mvOf).length = ps.length from by simp)
  have HM2 := Lib.hid (HM1.out.below hb2 hbl1)
  have HB2 := Lib.hid (HB1.out.trans (hb2.mono HB1.out.size))
  have hz1 := HB1.out.size
  have hz2 := hb2.size
  clear hb2 hO2 x1'
  go_wp2_with fail
  go_loopw [3, 10] (fun vs vi wr => ∃ (k : Nat) (s : VF) (b n : Nat), k ≤ ps.length ∧ vi = .int .i64 k ∧ vs = .map (some b) ∧ sigV ps (allW D N) N k = some s ∧ w.heap.size ≤ b ∧ n ≤ 1048576 ∧ MapV wr b n s ∧ Below w2.heap.size w2 wr) (fun _ vi _ => ps.length - (intOf vi).toNat)
  case atStart => exact ⟨0, unitF, m1, 1, Nat.zero_le _, rfl, rfl, rfl, hm1, by omega, HM2.out, Below.refl _ _⟩
  case round =>
    obtain ⟨k, s, b, n, hk, rfl, rfl, hsk, hwb, hn, hM, hB2⟩ := hrel
    have HSk := Lib.hid hsk
    have HM := Lib.hid hM
    have HBx := Lib.hid hB2
    have HB := Lib.hid (HB2.out.trans (hB2.mono (by omega)))
    have hlb := hM.lt
    have hzw := hB2.size
    clear hsk hM hB2
    by_cases hlt : k < ps.length
    · have hsb := HSt.out k hlt
      have hgd : ps.getD k [] = ps[k] := by rw [List.getD_eq_getElem?_getD, List.getElem?_eq_getElem hlt]; rfl
      have HGx0 : GoodV (allW D N) (stepV (ps.getD k [])) := by rw [hgd]; exact stepV_good hD hN.1 hsb
      have hbd : ∀ i, -1000000000 ≤ (ps.getD k []).getD i 0 ∧ (ps.getD k []).getD i 0 ≤ 1000000000 := fun i => by
        rw [hgd]
        obtain ⟨_, hb⟩ := stepB_true hsb
        by_cases hi : i < (ps[k]).length
        · have := hb i hi
          rw [List.getD_eq_getElem?_getD, List.getElem?_eq_getElem hi]
          show -1000000000 ≤ (ps[k])[i] ∧ (ps[k])[i] ≤ 1000000000
          omega
        · rw [List.getD_eq_getElem?_getD, List.getElem?_eq_none (by omega)]
          decide
      have HNx1 := Lib.hid (sigV_1 (ps := ps) (ws := allW D N) (N := N) (k := k))
      have HNx2 := Lib.hid (fun e h => sigV_2 (ps := ps) (ws := allW D N) (N := N) (k := k) (e := e) HSk.out h)
      have HDd := Lib.hid (fun (hq : sigV ps (allW D N) N (k + 1) = none) => sigV_dead hq (show k + 1 ≤ ps.length from hlt))
      have HGp := Lib.hid (show ∀ t q, s t = some q → isF q.1 q.2 = true from fun t q e => (sigV_good HSk.out t q e).2.1)
      obtain ⟨bm, om, rfl, d0, d1, d2⟩ := (HR2.out.below HBx.out (Nat.le_refl _)).get (Below.refl wr.heap.size wr) hzw (k := k) (by rw [HLn.out]; exact hlt)
      rw [mv_get] at d0 d1 d2
      have b0 := hbd 0
      have b1 := hbd 1
      have b2 := hbd 2
      have HSv := Lib.hid (show stepV (ps.getD k []) = stepF ((ps.getD k []).getD 0 0) ((ps.getD k []).getD 1 0) ((ps.getD k []).getD 2 0) from rfl)
      rw [HSv.out] at HGx0 HNx1 HNx2
      clear hgd hsb hbd HSv
      generalize (ps.getD k []).getD 0 0 = x0 at d0 b0 HGx0 HNx1 HNx2
      generalize (ps.getD k []).getD 1 0 = x1 at d1 b1 HGx0 HNx1 HNx2
      generalize (ps.getD k []).getD 2 0 = x2 at d2 b2 HGx0 HNx1 HNx2
      have HGx := Lib.hid HGx0
      clear HGx0
      go_upto_region 5 with fail
      have HBv := Lib.hid (HB.out.trans ((below1 wr (.cells #[.int .i64 x0, .int .i64 x1, .int .i64 x2] 160)).mono HB.out.size))
      have HB2v := Lib.hid (HBx.out.trans ((below1 wr (.cells #[.int .i64 x0, .int .i64 x1, .int .i64 x2] 160)).mono hzw))
      have HMv := Lib.hid (HM.out.alloc (.cells #[.int .i64 x0, .int .i64 x1, .int .i64 x2] 160))
      have c0 : (wr.alloc (.cells #[.int .i64 x0, .int .i64 x1, .int .i64 x2] 160)).cell? ⟨wr.heap.size, 0, none⟩ = some (.int .i64 x0) := by go_simp
      have c1 : (wr.alloc (.cells #[.int .i64 x0, .int .i64 x1, .int .i64 x2] 160)).cell? ⟨wr.heap.size, 1, none⟩ = some (.int .i64 x1) := by go_simp
      have c2 : (wr.alloc (.cells #[.int .i64 x0, .int .i64 x1, .int .i64 x2] 160)).cell? ⟨wr.heap.size, 2, none⟩ = some (.int .i64 x2) := by go_simp
      have hzv : wr.heap.size < (wr.alloc (.cells #[.int .i64 x0, .int .i64 x1, .int .i64 x2] 160)).heap.size := by simp
      generalize (wr.alloc (.cells #[.int .i64 x0, .int .i64 x1, .int .i64 x2] 160)) = wv at *
      have HKS := Lib.hid (show ∀ w', Below wv.heap.size wv w' → (w'.cell? ⟨p, 0, none⟩ = some (.int .i64 D) ∧ w'.cell? ⟨p, 1, none⟩ = some (.int .i64 N) ∧ w'.cell? ⟨p, 2, none⟩ = some (.slice aS (allW D N).length cS) ∧ w'.cell? ⟨wr.heap.size, 0, none⟩ = some (.int .i64 x0) ∧ w'.cell? ⟨wr.heap.size, 1, none⟩ = some (.int .i64 x1) ∧ w'.cell? ⟨wr.heap.size, 2, none⟩ = some (.int .i64 x2)) from fun w' hb => by
        obtain ⟨q0, q1, q2⟩ := KS.out w' (HBv.out.trans (hb.mono HBv.out.size))
        exact ⟨q0, q1, q2, (hb.cell (p := ⟨wr.heap.size, 0, none⟩) hzv).trans c0, (hb.cell (p := ⟨wr.heap.size, 1, none⟩) hzv).trans c1, (hb.cell (p := ⟨wr.heap.size, 2, none⟩) hzv).trans c2⟩)
      have hzw2 : w2.heap.size ≤ wv.heap.size := by omega
      clear d0 d1 d2 c0 c1 c2 hzv
      cases he : expV (stepF x0 x1 x2) (allW D N) N with
      | none =>
        have HF := Lib.hid (HOut.out.symm.trans (HDd.out (HNx1.out he)))
        go_region_held2 (fun w' => w'.cell? ⟨p, 0, none⟩ = some (.int .i64 D) ∧ w'.cell? ⟨p, 1, none⟩ = some (.int .i64 N) ∧ w'.cell? ⟨p, 2, none⟩ = some (.slice aS (allW D N).length cS) ∧ w'.cell? ⟨wr.heap.size, 0, none⟩ = some (.int .i64 x0) ∧ w'.cell? ⟨wr.heap.size, 1, none⟩ = some (.int .i64 x1) ∧ w'.cell? ⟨wr.heap.size, 2, none⟩ = some (.int .i64 x2)) (first | (exact HKS.out _ (Below.drew (Below.refl _ _))) | (exact HKS.out _ hb3) | (exact HKS.out _ hb34) | fail)
          (first
            | (go_at_call 139; have hSt := stepSignature_c D N hN.2 aS cS (allW D N) HWl.out HWs.out HU.out x0 x1 x2 b0 b1 b2 HGx.out wv.drew (HRS.out.below (B := w.heap.size) HBv.out.drew (Nat.le_refl _)) (fun q e => Nat.lt_of_lt_of_le (HAa.out q e) HBv.out.size); rw [he] at hSt; refine dead_few (.map none) hSt (fun w3 hb3 => ⟨rfl, by rw [HF.out]; exact ⟨rfl, HBv.out.trans (Below.mono (show Below wv.heap.size wv w3 from ⟨hb3.os, hb3.tape, hb3.output, hb3.size, hb3.block⟩) HBv.out.size)⟩⟩) ?_; intro hF)
            | (go_at_call 105; refine dead_call hF (.map none) ?_)
            | fail)
        all_goals exact hF.out.elim
      | some e0 =>
        have HNe := Lib.hid (HNx2.out e0 he)
        have HGe := Lib.hid (show ∀ t q, e0 t = some q → isF q.1 q.2 = true from fun t q e => (sumK_good (show sumK (stepF x0 x1 x2) (allW D N) expF (N + 1) = some e0 from he) t q e).2.1)
        cases hv : prodV s e0 (allW D N) with
        | none =>
          have HF := Lib.hid (HOut.out.symm.trans (HDd.out (HNe.out.trans hv)))
          go_region_held2 (fun w' => w'.cell? ⟨p, 0, none⟩ = some (.int .i64 D) ∧ w'.cell? ⟨p, 1, none⟩ = some (.int .i64 N) ∧ w'.cell? ⟨p, 2, none⟩ = some (.slice aS (allW D N).length cS) ∧ w'.cell? ⟨wr.heap.size, 0, none⟩ = some (.int .i64 x0) ∧ w'.cell? ⟨wr.heap.size, 1, none⟩ = some (.int .i64 x1) ∧ w'.cell? ⟨wr.heap.size, 2, none⟩ = some (.int .i64 x2)) (first | (exact HKS.out _ (Below.drew (Below.refl _ _))) | (exact HKS.out _ hb3) | (exact HKS.out _ hb34) | fail)
            (first
              | (go_at_call 139; have hSt := stepSignature_c D N hN.2 aS cS (allW D N) HWl.out HWs.out HU.out x0 x1 x2 b0 b1 b2 HGx.out wv.drew (HRS.out.below (B := w.heap.size) HBv.out.drew (Nat.le_refl _)) (fun q e => Nat.lt_of_lt_of_le (HAa.out q e) HBv.out.size); rw [he] at hSt; (with_reducible refine hSt.mono ?_); rintro e w3 ⟨me, ne, rfl, hme, hb3', hne, hM3⟩; have hb3 : Below wv.heap.size wv w3 := ⟨hb3'.os, hb3'.tape, hb3'.output, hb3'.size, hb3'.block⟩; have hbz := HBv.out.trans (hb3.mono HBv.out.size))
              | (go_at_call 105; have hPr := product_c D N aS cS (allW D N) (by have := HWl.out; omega) HWs.out s e0 HGp.out HGe.out b n me ne w3 (HRS.out.below hbz (Nat.le_refl _)) (HMv.out.below hb3 HMv.out.lt) hM3; rw [hv] at hPr; refine dead_of (.map none) hPr (fun w4 hb4 => ⟨rfl, by rw [HF.out]; exact ⟨rfl, hbz.trans (hb4.mono hbz.size)⟩⟩) ?_; intro hF)
              | fail)
          all_goals exact hF.out.elim
        | some h' =>
          have HP3 := Lib.hid (HNe.out.trans hv)
          go_region_held3 (fun w' => w'.cell? ⟨p, 0, none⟩ = some (.int .i64 D) ∧ w'.cell? ⟨p, 1, none⟩ = some (.int .i64 N) ∧ w'.cell? ⟨p, 2, none⟩ = some (.slice aS (allW D N).length cS) ∧ w'.cell? ⟨wr.heap.size, 0, none⟩ = some (.int .i64 x0) ∧ w'.cell? ⟨wr.heap.size, 1, none⟩ = some (.int .i64 x1) ∧ w'.cell? ⟨wr.heap.size, 2, none⟩ = some (.int .i64 x2)) (first | (exact HKS.out _ (Below.drew (Below.refl _ _))) | (exact HKS.out _ hb3) | (exact HKS.out _ hb34) | fail)
            (first
              | (go_at_call 139; have hSt := stepSignature_c D N hN.2 aS cS (allW D N) HWl.out HWs.out HU.out x0 x1 x2 b0 b1 b2 HGx.out wv.drew (HRS.out.below (B := w.heap.size) HBv.out.drew (Nat.le_refl _)) (fun q e => Nat.lt_of_lt_of_le (HAa.out q e) HBv.out.size); rw [he] at hSt; (with_reducible refine hSt.mono ?_); rintro e w3 ⟨me, ne, rfl, hme, hb3', hne, hM3⟩; have hb3 : Below wv.heap.size wv w3 := ⟨hb3'.os, hb3'.tape, hb3'.output, hb3'.size, hb3'.block⟩; have hbz := HBv.out.trans (hb3.mono HBv.out.size))
              | (go_at_call 105; have hPr := product_c D N aS cS (allW D N) (by have := HWl.out; omega) HWs.out s e0 HGp.out HGe.out b n me ne w3 (HRS.out.below hbz (Nat.le_refl _)) (HMv.out.below hb3 HMv.out.lt) hM3; rw [hv] at hPr; (with_reducible refine hPr.mono ?_); rintro e w4 ⟨b4, n4, rfl, hb4l, hb4, hn4, hM4⟩; have hb34 := hb3.trans (hb4.mono hb3.size); have HB4 := Lib.hid (HB2v.out.trans (hb34.mono hzw2)); have hbw := hb3.size)
              | fail)
          all_goals
            have hsz4 : w.heap.size ≤ b4 := by have := HBv.out.size; omega
            clear hb34 hb4 hb3 hb3' hbw hbz hM3
            go_wp2
            go_roundw
            case rel => exact ⟨k + 1, h', b4, n4, hlt, by go_num, rfl, HP3.out, hsz4, hn4, hM4, HB4.out⟩
            case measure => simp [intOf]; omega
    · obtain rfl : k = ps.length := by omega
      have HF := Lib.hid (HOut.out.symm.trans HSk.out)
      go_wp2
      go_ret
      rw [HF.out]
      exact ⟨b, n, rfl, hwb, HB.out, hn, HM.out⟩
set_option maxRecDepth 100000 in
set_option maxHeartbeats 4000000 in
theorem iSig_1 (L V : Int) (lo hi : Nat) (a : Option Addr) (cap : Nat) (ps : List (List Int)) (hl : ps.length ≤ 1048576) (hs : flat ps ≤ 1048576) (c : Int) (hc : codeP L V ps = c) (hn : c ≠ 0) (w : World) (hr : PRow lo hi w a ps) (hh : hi ≤ w.heap.size) :
    Calls Tryz.prog 99 #[.int .i64 L, .int .i64 V, .slice a ps.length cap] w (SerPost 0 0 [] c w) := by
  have HR := Lib.hid hr
  have HC := Lib.hid hc
  have hnb : (c != 0) = true := by simpa using hn
  clear hr hc hn
  go_enter Tryz.func99, Tryz.ntmps99
  go_wp2_with fail
  refine (checkPaths1_c lo hi L V a cap ps hl hs (w.heap.size + 1 + 1) _ _ (HR.out.below (below3 w _ _ _) hh) (by go_simp)).mono ?_
  rw [HC.out]
  rintro e w1 ⟨rfl, hb⟩
  have hT := (((T3.new (w.alloc (.cells #[.slice a ps.length cap] 42)) 0 0 none 0 0 26).alloc (.cells #[.slice a ps.length cap] 42)).next hb)
  have HW1 := Lib.hid ((below3 w (.cells #[.slice a ps.length cap] 42) (.cells #[.int .i64 0, .int .i64 0, .slice none 0 0] 26) (.cells #[.slice a ps.length cap] 42)).trans (hb.mono (by simp; omega)))
  simp only [World.size_alloc] at hT
  obtain ⟨hz1, r0, r1, r2, z0, z1, z2⟩ := id hT
  clear hb hT
  go_wp2
  refine bodyPost_ret (v := .tuple #[.agg #[.int .i64 0, .int .i64 0, .slice none 0 0], .int .i64 c]) (by simp [results, Tryz.results99, go_sem, r0, r1, r2]) rfl (SerPost.err c rfl ?_)
  have hW := HW1.out
  go_grown
set_option maxRecDepth 100000 in
set_option maxHeartbeats 4000000 in
theorem iSig_3no (D N : Nat) (hD : 1 ≤ D ∧ D ≤ 3) (hN : 1 ≤ N ∧ N ≤ 5) (lo hi : Nat) (a : Option Addr) (cap : Nat) (ps : List (List Int)) (hl : ps.length ≤ 1048576) (hs : flat ps ≤ 1048576) (hp : pathB D ps = true) (hc : codeP D N ps = 0) (hq : sigV ps (allW D N) N ps.length = none) (w : World) (hr : PRow lo hi w a ps) (hh : hi ≤ w.heap.size) :
    Calls Tryz.prog 99 #[.int .i64 D, .int .i64 N, .slice a ps.length cap] w (SerPost 0 0 [] 3 w) := by
  have HR := Lib.hid hr
  have HC := Lib.hid hc
  have HP := Lib.hid hp
  have HQ := Lib.hid hq
  have hmf : ∀ (fn : Fn) (first cap : Array Value) (w : World), (Instr.makeFunc fn first cap).run Tryz.prog w = .ok (.func fn first cap) w := fun _ _ _ _ => rfl
  have hfew := allW_few (D := D) (by omega) (n := N) (by omega)
  have HWl := Lib.hid (show (allW D N).length ≤ 1048576 by omega)
  have HWs := Lib.hid (show ∀ s ∈ allW D N, s.size ≤ 1048576 from fun s hs => by have := allW_size D N s hs; omega)
  clear hr hc hp hq hfew
  go_enter Tryz.func99, Tryz.ntmps99
  go_wp2_with fail
  refine (checkPaths1_c lo hi D N a cap ps hl hs (w.heap.size + 1 + 1) _ _ (HR.out.below (below3 w _ _ _) hh) (by go_simp)).mono ?_
  rw [HC.out]
  rintro e w1 ⟨rfl, hb⟩
  have hT := (((T3.new (w.alloc (.cells #[.slice a ps.length cap] 42)) 0 0 none 0 0 26).alloc (.cells #[.slice a ps.length cap] 42)).next hb)
  have HW1 := Lib.hid ((below3 w (.cells #[.slice a ps.length cap] 42) (.cells #[.int .i64 0, .int .i64 0, .slice none 0 0] 26) (.cells #[.slice a ps.length cap] 42)).trans (hb.mono (by simp; omega)))
  simp only [World.size_alloc] at hT
  have bc := bcellB hb
  have x0 : w1.cell? ⟨w.heap.size, 0, none⟩ = some (.slice a ps.length cap) := (bc.1 _ _ (by simp; omega)).trans (by go_simp)
  have HT := Lib.hid hT
  have hz1 := hT.1
  clear hb hT bc
  go_wp2_with fail
  refine (spaceOf_c D N (by omega) (by omega) _).mono ?_
  rintro e w4 ⟨aS, cS, rfl, hb4, hN4⟩
  have HW4 := Lib.hid (HW1.out.trans (hb4.mono HW1.out.size))
  have HT4 := Lib.hid (HT.out.next hb4)
  have hz4 := hb4.size
  have v0 := (hb4.cell (p := ⟨w.heap.size, 0, none⟩) (by show w.heap.size < _; omega)).trans x0
  have hba := below1 w4 (.cells #[.int .i64 D, .int .i64 N, .slice aS (allW D N).length cS] 64)
  have HW5 := Lib.hid (HW4.out.trans (hba.mono HW4.out.size))
  have HT5 := Lib.hid (HT4.out.next hba)
  have Kx0 := (hba.cell (p := ⟨w.heap.size, 0, none⟩) (by show w.heap.size < _; omega)).trans v0
  have Ks0 : (w4.alloc (.cells #[.int .i64 D, .int .i64 N, .slice aS (allW D N).length cS] 64)).cell? ⟨w4.heap.size, 0, none⟩ = some (.int .i64 D) := by go_simp
  have Ks1 : (w4.alloc (.cells #[.int .i64 D, .int .i64 N, .slice aS (allW D N).length cS] 64)).cell? ⟨w4.heap.size, 1, none⟩ = some (.int .i64 N) := by go_simp
  have Ks2 : (w4.alloc (.cells #[.int .i64 D, .int .i64 N, .slice aS (allW D N).length cS] 64)).cell? ⟨w4.heap.size, 2, none⟩ = some (.slice aS (allW D N).length cS) := by go_simp
  have HNs := Lib.hid (hN4.row.below hba (Nat.le_refl _))
  have hzz : (w4.alloc (.cells #[.int .i64 D, .int .i64 N, .slice aS (allW D N).length cS] 64)).heap.size = w4.heap.size + 1 := by simp
  have HWork := Lib.hid (fun W (hW : Below (w4.alloc (.cells #[.int .i64 D, .int .i64 N, .slice aS (allW D N).length cS] 64)).heap.size (w4.alloc (.cells #[.int .i64 D, .int .i64 N, .slice aS (allW D N).length cS] 64)) W) => (HQ.out ▸ sigWork D N hD hN w4.heap.size w.heap.size aS a cS cap lo hi ps HP.out W (by have := hW.size; omega) (by have := hW.size; omega) ((hW.cell (p := ⟨w4.heap.size, 0, none⟩) (by show w4.heap.size < _; omega)).trans Ks0) ((hW.cell (p := ⟨w4.heap.size, 1, none⟩) (by show w4.heap.size < _; omega)).trans Ks1) ((hW.cell (p := ⟨w4.heap.size, 2, none⟩) (by show w4.heap.size < _; omega)).trans Ks2) ((hW.cell (p := ⟨w.heap.size, 0, none⟩) (by show w.heap.size < _; omega)).trans Kx0) (HNs.out.below hW (Nat.le_refl _)) (HR.out.below (HW5.out.trans (hW.mono (by omega))) hh) (by have := hW.size; omega) : Calls Tryz.prog 136 #[.pointer (some ⟨w.heap.size, 0, none⟩), .pointer (some ⟨w4.heap.size, 0, none⟩)] W (WorkPost (none) W)))
  have HDoor := Lib.hid (door_no D N aS (allW D N).length cS 136 #[.pointer (some ⟨w.heap.size, 0, none⟩), .pointer (some ⟨w4.heap.size, 0, none⟩)] (fun _ => by kernel_rfl) (w4.alloc (.cells #[.int .i64 D, .int .i64 N, .slice aS (allW D N).length cS] 64)) HWork.out)
  clear hb4 hN4 x0 v0 Kx0 Ks0 Ks1 Ks2 hba
  go_wp2_with fail
  refine HDoor.out.mono ?_
  rintro e w6 ⟨rfl, hb6⟩
  have hT6 := HT5.out.next hb6
  have HW6 := Lib.hid (HW5.out.trans (hb6.mono HW5.out.size))
  obtain ⟨hzr, r0, r1, r2, z0, z1, z2⟩ := id hT6
  clear hb6 hT6
  go_wp2
  refine bodyPost_ret (v := .tuple #[.agg #[.int .i64 0, .int .i64 0, .slice none 0 0], .int .i64 3]) (by simp [results, Tryz.results99, go_sem, r0, r1, r2]) rfl (SerPost.err 3 rfl ?_)
  have hW := HW6.out
  go_grown
set_option maxRecDepth 100000 in
set_option maxHeartbeats 4000000 in
theorem iSig_3yes (D N : Nat) (hD : 1 ≤ D ∧ D ≤ 3) (hN : 1 ≤ N ∧ N ≤ 5) (lo hi : Nat) (a : Option Addr) (cap : Nat) (ps : List (List Int)) (hl : ps.length ≤ 1048576) (hs : flat ps ≤ 1048576) (hp : pathB D ps = true) (hc : codeP D N ps = 0) (h : VF) (hq : sigV ps (allW D N) N ps.length = some h) (w : World) (hr : PRow lo hi w a ps) (hh : hi ≤ w.heap.size) :
    Calls Tryz.prog 99 #[.int .i64 D, .int .i64 N, .slice a ps.length cap] w (SerPost D N (termsOf h (allW D N)) 0 w) := by
  have HR := Lib.hid hr
  have HC := Lib.hid hc
  have HP := Lib.hid hp
  have HQ := Lib.hid hq
  have hmf : ∀ (fn : Fn) (first cap : Array Value) (w : World), (Instr.makeFunc fn first cap).run Tryz.prog w = .ok (.func fn first cap) w := fun _ _ _ _ => rfl
  have hfew := allW_few (D := D) (by omega) (n := N) (by omega)
  have HWl := Lib.hid (show (allW D N).length ≤ 1048576 by omega)
  have HWs := Lib.hid (show ∀ s ∈ allW D N, s.size ≤ 1048576 from fun s hs => by have := allW_size D N s hs; omega)
  clear hr hc hp hq hfew
  go_enter Tryz.func99, Tryz.ntmps99
  go_wp2_with fail
  refine (checkPaths1_c lo hi D N a cap ps hl hs (w.heap.size + 1 + 1) _ _ (HR.out.below (below3 w _ _ _) hh) (by go_simp)).mono ?_
  rw [HC.out]
  rintro e w1 ⟨rfl, hb⟩
  have hT := (((T3.new (w.alloc (.cells #[.slice a ps.length cap] 42)) 0 0 none 0 0 26).alloc (.cells #[.slice a ps.length cap] 42)).next hb)
  have HW1 := Lib.hid ((below3 w (.cells #[.slice a ps.length cap] 42) (.cells #[.int .i64 0, .int .i64 0, .slice none 0 0] 26) (.cells #[.slice a ps.length cap] 42)).trans (hb.mono (by simp; omega)))
  simp only [World.size_alloc] at hT
  have bc := bcellB hb
  have x0 : w1.cell? ⟨w.heap.size, 0, none⟩ = some (.slice a ps.length cap) := (bc.1 _ _ (by simp; omega)).trans (by go_simp)
  have HT := Lib.hid hT
  have hz1 := hT.1
  clear hb hT bc
  go_wp2_with fail
  refine (spaceOf_c D N (by omega) (by omega) _).mono ?_
  rintro e w4 ⟨aS, cS, rfl, hb4, hN4⟩
  have HW4 := Lib.hid (HW1.out.trans (hb4.mono HW1.out.size))
  have HT4 := Lib.hid (HT.out.next hb4)
  have hz4 := hb4.size
  have v0 := (hb4.cell (p := ⟨w.heap.size, 0, none⟩) (by show w.heap.size < _; omega)).trans x0
  have hba := below1 w4 (.cells #[.int .i64 D, .int .i64 N, .slice aS (allW D N).length cS] 64)
  have HW5 := Lib.hid (HW4.out.trans (hba.mono HW4.out.size))
  have HT5 := Lib.hid (HT4.out.next hba)
  have Kx0 := (hba.cell (p := ⟨w.heap.size, 0, none⟩) (by show w.heap.size < _; omega)).trans v0
  have Ks0 : (w4.alloc (.cells #[.int .i64 D, .int .i64 N, .slice aS (allW D N).length cS] 64)).cell? ⟨w4.heap.size, 0, none⟩ = some (.int .i64 D) := by go_simp
  have Ks1 : (w4.alloc (.cells #[.int .i64 D, .int .i64 N, .slice aS (allW D N).length cS] 64)).cell? ⟨w4.heap.size, 1, none⟩ = some (.int .i64 N) := by go_simp
  have Ks2 : (w4.alloc (.cells #[.int .i64 D, .int .i64 N, .slice aS (allW D N).length cS] 64)).cell? ⟨w4.heap.size, 2, none⟩ = some (.slice aS (allW D N).length cS) := by go_simp
  have HNs := Lib.hid (hN4.row.below hba (Nat.le_refl _))
  have hzz : (w4.alloc (.cells #[.int .i64 D, .int .i64 N, .slice aS (allW D N).length cS] 64)).heap.size = w4.heap.size + 1 := by simp
  have HWork := Lib.hid (fun W (hW : Below (w4.alloc (.cells #[.int .i64 D, .int .i64 N, .slice aS (allW D N).length cS] 64)).heap.size (w4.alloc (.cells #[.int .i64 D, .int .i64 N, .slice aS (allW D N).length cS] 64)) W) => (HQ.out ▸ sigWork D N hD hN w4.heap.size w.heap.size aS a cS cap lo hi ps HP.out W (by have := hW.size; omega) (by have := hW.size; omega) ((hW.cell (p := ⟨w4.heap.size, 0, none⟩) (by show w4.heap.size < _; omega)).trans Ks0) ((hW.cell (p := ⟨w4.heap.size, 1, none⟩) (by show w4.heap.size < _; omega)).trans Ks1) ((hW.cell (p := ⟨w4.heap.size, 2, none⟩) (by show w4.heap.size < _; omega)).trans Ks2) ((hW.cell (p := ⟨w.heap.size, 0, none⟩) (by show w.heap.size < _; omega)).trans Kx0) (HNs.out.below hW (Nat.le_refl _)) (HR.out.below (HW5.out.trans (hW.mono (by omega))) hh) (by have := hW.size; omega) : Calls Tryz.prog 136 #[.pointer (some ⟨w.heap.size, 0, none⟩), .pointer (some ⟨w4.heap.size, 0, none⟩)] W (WorkPost (some h) W)))
  have HDoor := Lib.hid (door_yes D N aS cS (allW D N) HWl.out HWs.out h 136 #[.pointer (some ⟨w.heap.size, 0, none⟩), .pointer (some ⟨w4.heap.size, 0, none⟩)] (fun _ => by kernel_rfl) (w4.alloc (.cells #[.int .i64 D, .int .i64 N, .slice aS (allW D N).length cS] 64)) HWork.out HNs.out)
  clear hb4 hN4 x0 v0 Kx0 Ks0 Ks1 Ks2 hba
  go_wp2_with fail
  refine HDoor.out.mono ?_
  rintro e w6 ⟨a4, c4, rfl, hb6, hN6⟩
  have hT6 := HT5.out.next hb6
  have HW6 := Lib.hid (HW5.out.trans (hb6.mono HW5.out.size))
  have HN4 := Lib.hid hN6
  have hz6 := hb6.size
  obtain ⟨hzr, r0, r1, r2, z0, z1, z2⟩ := id hT6
  clear hb6 hT6 hN6
  go_wp2
  refine bodyPost_ret (v := .tuple #[.agg #[.int .i64 D, .int .i64 N, .slice a4 (termsOf h (allW D N)).length c4], .int .i64 0]) (by simp [results, Tryz.results99, go_sem, r0, r1, r2]) rfl ⟨a4, c4, rfl, ?_, ?_⟩
  · have hW := HW6.out
    go_grown
  · exact (((HN4.out.far1s (by omega)).far1s (by omega)).far1s (by omega)).mono (by omega) (by simp)
end Go.Proofs.YtgcjpenlcokgjaaGreatDoor
