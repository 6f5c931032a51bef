/-
  The values of a path's signature; the contract of the model's signature.
  Contracts of the model's SignatureOf.
-/
import Derived.Test.YtoeednnkadmjpaaDoorStepT
import Derived.Test.YtoeednnkadmjpaaDoorExpM
import Derived.Test.YtoeednnkadmjpaaDoorPaths
import Derived.Test.YtoeednnkadmjpaaDoorIsPath
import Derived.Test.YtoeednnkadmjpaaDoorPathC
namespace Go.Proofs.YtoeednnkadmjpaaDoor
open Go.RowKit

/-- the values of the signature of the first k steps -/
def sigV (ps : List (List Int)) (ws : List ByteArray) (N : Nat) : Nat → Option VF
  | 0 => some unitF
  | k + 1 => (sigV ps ws N k).bind fun s => (expV (stepV (ps.getD k [])) ws N).bind fun e => prodV s e ws
theorem sigV_1 {ps : List (List Int)} {ws : List ByteArray} {N k : Nat} (h : expV (stepV (ps.getD k [])) ws N = none) : sigV ps ws N (k + 1) = none := by
  rw [sigV, h]
  cases sigV ps ws N k <;> rfl
theorem sigV_2 {ps : List (List Int)} {ws : List ByteArray} {N k : Nat} {s e : VF} (h : sigV ps ws N k = some s) (h2 : expV (stepV (ps.getD k [])) ws N = some e) : sigV ps ws N (k + 1) = prodV s e ws := by rw [sigV, h, h2]; rfl
theorem sigV_dead {ps : List (List Int)} {ws : List ByteArray} {N k : Nat} (h : sigV ps ws N k = none) : ∀ {m : Nat}, k ≤ m → sigV ps ws N m = none
  | 0, hm => by obtain rfl : k = 0 := by omega
                exact h
  | m + 1, hm => by
    by_cases e : k = m + 1
    · subst e; exact h
    · rw [sigV, sigV_dead h (show k ≤ m by omega)]; rfl
theorem sigV_good {ps : List (List Int)} {D N : Nat} : ∀ {k : Nat} {s : VF}, sigV ps (allW D N) N k = some s → GoodV (allW D N) s
  | 0, s, h => by rw [sigV] at h; injection h with h; rw [← h]; exact good_unit D N
  | k + 1, s, h => by
    rw [sigV] at h
    obtain ⟨q, _, h2⟩ := Option.bind_eq_some_iff.1 h
    obtain ⟨e, _, h3⟩ := Option.bind_eq_some_iff.1 h2
    exact GoodV.prodV h3
theorem stepV_good {D N : Nat} (hD : 1 ≤ D ∧ D ≤ 3) (hN : 1 ≤ N) {zs : List Int} (h : stepB D zs = true) : GoodV (allW D N) (stepV zs) := by
  obtain ⟨hl, hb⟩ := stepB_true h
  have hx : ∀ i, -1000000000 ≤ zs.getD i 0 ∧ zs.getD i 0 ≤ 1000000000 := fun i => by
    by_cases hi : i < zs.length
    · have := hb i hi
      rw [List.getD_eq_getElem?_getD, List.getElem?_eq_getElem hi]
      show -1000000000 ≤ zs[i] ∧ zs[i] ≤ 1000000000
      omega
    · rw [List.getD_eq_getElem?_getD, List.getElem?_eq_none (by omega)]
      decide
  have hz : ∀ i, D ≤ i → zs.getD i 0 = 0 := fun i hi => by
    rw [List.getD_eq_getElem?_getD, List.getElem?_eq_none (by omega)]
    rfl
  exact stepF_good hD.1 hN (hx 0) (hx 1) (hx 2) (fun h => hz 1 (by omega)) (fun h => hz 2 (by omega))

set_option maxRecDepth 100000 in
set_option maxHeartbeats 8000000 in
theorem l04Signature_c (D N : Nat) (hD : 1 ≤ D ∧ D ≤ 3) (hN : 1 ≤ N ∧ N ≤ 5) (lo hi : Nat) (a : Option Addr) (cap : Nat) (ps : List (List Int)) (hp : pathB D ps = true) (w : World) (hr : PRow lo hi w a ps) (hh : hi ≤ w.heap.size) :
    Calls Tryd.prog 66 #[.int .i64 D, .int .i64 N, .slice a ps.length cap] w (SumPost D N ((sigV ps (allW D N) N ps.length).map fun h => termsOf h (allW D N)) w) := by
  have hW := allW_asc hD.2 N
  have hfew := allW_few (D := D) hD.2 (n := N) hN.2
  obtain ⟨-, hl12, hst⟩ := pathB_true hp
  have HPR := Lib.hid hr
  have HSt := Lib.hid hst
  have HUt := Lib.hid (unit_terms D N)
  have HEx := Lib.hid (fun aQ cQ zs (hz : stepB D zs = true) W r => l02Exp_c D N hD hN.2 aQ cQ (stepV zs) (stepV_good hD hN.1 hz) (stepT zs D) (step_terms hD hN.1 zs) W r)
  have HTm := Lib.hid (fun aP cP p (hp : GoodV (allW D N) p) aQ cQ q (hq : GoodV (allW D N) q) W r1 r2 => (prodL_V p q (allW D N)) ▸ l02Times_c D N hD hN.2 aP aQ cP cQ p q hp hq (termsOf p (allW D N)) (termsOf q (allW D N)) rfl rfl (by have := termsOf_len p (allW D N); omega) (by have := termsOf_len q (allW D N); omega) hW W r1 r2)
  obtain ⟨o, ho⟩ : ∃ o, sigV ps (allW D N) N ps.length = o := ⟨_, rfl⟩
  rw [ho]
  have HOut := Lib.hid ho
  clear hr hst hp hW hfew ho
  go_enter Tryd.func66, Tryd.ntmps66
  go_wp2_with fail
  have HWb := Lib.hid (below1 w (.cells #[.int .i64 0, .int .i64 0, .slice none 0 0] 24))
  refine (l02Unit_c D N _ _ _ _).mono ?_
  rintro e w1 ⟨a1, c1, rfl, hb1, hN1⟩
  have hT1 := (T3.new w 0 0 none 0 0 24).next hb1
  have hz1 := hT1.1
  have HT1 := Lib.hid hT1
  have HB1 := Lib.hid (HWb.out.trans (hb1.mono (by simp)))
  have hN1' := hN1
  simp only [World.size_alloc] at hN1'
  have HR1 := Lib.hid (RowF.of (B := w.heap.size + 1) (p := w1.heap.size) (q := w1.heap.size) hN1' (Nat.le_refl _) (.inr (Nat.le_refl _)) (.inr (Nat.le_refl _)))
  clear hb1 hN1 hN1' hT1
  go_wp2_with fail
  have hzb : w.heap.size + 1 ≤ w1.heap.size := by omega
  go_loopw [9] (fun v9 wr => ∃ (k : Nat) (s : VF) (aP : Option Addr) (lP cP : Nat), k ≤ ps.length ∧ v9 = .int .i64 k ∧ sigV ps (allW D N) N k = some s ∧ lP = (termsOf s (allW D N)).length ∧ T3 wr w1.heap.size (.int .i64 D) (.int .i64 N) (.slice aP lP cP) ∧ RowF (w.heap.size + 1) w1.heap.size w1.heap.size wr aP (termsOf s (allW D N)) ∧ Below w1.heap.size w1 wr) (fun v9 _ => ps.length - (intOf v9).toNat)
  case atStart => exact ⟨0, unitF, a1, 1, c1, Nat.zero_le _, rfl, rfl, by rw [HUt.out]; rfl, T3.new _ _ _ _ _ _ _, by rw [HUt.out]; exact HR1.out.alloc _, below1 _ _⟩
  case round =>
    obtain ⟨k, s, aP, lP, cP, hk, rfl, hsk, hlP, hTP, hRP, hB⟩ := hrel
    obtain ⟨wo, rfl⟩ : ∃ wo : World, wo = wr := ⟨_, rfl⟩
    subst hlP
    have HSk := Lib.hid hsk
    have HTP := Lib.hid hTP
    have HRP := Lib.hid hRP
    have HB := Lib.hid hB
    have HGs := Lib.hid (sigV_good hsk)
    have hzo := hB.size
    have hwP := hTP.1
    have HBw := Lib.hid (HB1.out.trans (hB.mono (by omega)))
    have HT4 := Lib.hid (HT1.out.below hB (by omega))
    clear hsk hTP hRP hB
    by_cases hlt : k < ps.length
    · rcases HPR.out.below HBw.out hh with h | ⟨b, off, rfl, hlob, hbhi, hPI⟩
      · rw [h] at hlt; simp at hlt
      obtain ⟨ai, ci, hc0, hIR⟩ := hPI k hlt
      have hsb := HSt.out k hlt
      obtain ⟨hlen, -⟩ := stepB_true hsb
      rcases hIR with h | ⟨bi, oi, rfl, hlbi, hbhi2, hII⟩
      · rw [h] at hlen; simp at hlen; omega
      have hgd : ps.getD k [] = ps[k] := by rw [List.getD_eq_getElem?_getD, List.getElem?_eq_getElem hlt]; rfl
      have HNx1 := Lib.hid (sigV_1 (ps := ps) (ws := allW D N) (N := N) (k := k))
      have HNx2 := Lib.hid (fun e h => sigV_2 (ps := ps) (ws := allW D N) (N := N) (k := k) (e := e) HSk.out h)
      have HDd := Lib.hid (fun (hq : sigV ps (allW D N) N (k + 1) = none) => sigV_dead hq (show k + 1 ≤ ps.length from hlt))
      rw [hgd] at HNx1 HNx2
      obtain ⟨zs, hzs⟩ : ∃ zs, ps[k] = zs := ⟨_, rfl⟩
      rw [hzs] at HNx1 HNx2 hc0 hII hsb hlen
      have hlz : zs.length = D := by omega
      have hStep0 := l04Step_c D N hD.2 bi oi ci zs hlz wo (by omega) hII
      rw [hlz] at hStep0
      have HStep := Lib.hid hStep0
      clear hStep0
      have HExs := Lib.hid (fun aQ cQ W r => HEx.out aQ cQ zs hsb W r)
      have hkI : (k : Int) < (ps.length : Int) := by omega
      clear hgd hzs hPI hII hsb hlen
      go_wp2_with fail
      refine HStep.out.mono ?_
      rintro e w2 ⟨a2, c2, rfl, hb2, hN2⟩
      have HB2 := Lib.hid hb2
      have HE2 := Lib.hid (HExs.out a2 c2 w2 hN2.row)
      have hz2 := hb2.size
      clear hb2 hN2 hc0
      go_wp2_with fail
      refine HE2.out.mono ?_
      cases he : expV (stepV zs) (allW D N) N with
      | none =>
        rintro e w3 ⟨rfl, hb3⟩
        have hb13 := HB2.out.trans (hb3.mono hz2)
        have HF := Lib.hid (HDd.out (HNx1.out he))
        obtain ⟨hq4, r0, r1, r2, z0, z1, z2⟩ := id (HT4.out.next hb13)
        have HWz := Lib.hid (HBw.out.trans (hb13.mono HBw.out.size))
        clear hb3 hb13 he
        go_wp2
        have e : o = none := HOut.out.symm.trans HF.out
        rw [e]
        refine bodyPost_ret (v := .tuple #[.agg #[.int .i64 0, .int .i64 0, .slice none 0 0], .bool false]) (by simp [results, Tryd.results66, go_sem, r0, r1, r2, hq4]) rfl ⟨rfl, ?_⟩
        have hW := HWz.out
        go_grown
      | some ex =>
        rintro e w3 ⟨a3, c3, rfl, hb3, hN3⟩
        have hb13 := HB2.out.trans (hb3.mono hz2)
        have HPv := Lib.hid (HNx2.out ex he)
        have HGe := Lib.hid (sumK_good (show sumK (stepV zs) (allW D N) expF (N + 1) = some ex from he))
        have hv3 := below1 w3 (.cells #[.int .i64 D, .int .i64 N, .slice a3 (termsOf ex (allW D N)).length c3] 24)
        have hbv := hb13.trans (hv3.mono hb13.size)
        have HTc := Lib.hid (HTm.out aP cP s HGs.out a3 c3 ex HGe.out _ (HRP.out.newRow.row.below hbv) (hN3.row.below hv3))
        have HT3 := Lib.hid (HTP.out.next hb13)
        have HR4 := Lib.hid (HT4.out.next hb13)
        have HB3 := Lib.hid hb13
        have HV3 := Lib.hid hv3
        obtain ⟨hq3, t0, t1, t2, -, -, -⟩ := id (HTP.out.next hb13)
        have hz3 := hb13.size
        clear hb3 hb13 hN3 hv3 hbv he
        go_wp2_with fail
        refine HTc.out.mono ?_
        cases hv : prodV s ex (allW D N) with
        | none =>
          rintro e w4 ⟨rfl, hb4⟩
          have hb34 : Below w3.heap.size w3 w4 := below_step HV3.out hb4 (Nat.le_refl _)
          have HF := Lib.hid (HDd.out (HPv.out.trans hv))
          obtain ⟨hq4, r0, r1, r2, z0, z1, z2⟩ := id (HR4.out.next hb34)
          have HWz := Lib.hid (HBw.out.trans ((HB3.out.trans (hb34.mono hz3)).mono HBw.out.size))
          clear hb4 hb34 hv t0 t1 t2
          go_wp2
          have e : o = none := HOut.out.symm.trans HF.out
          rw [e]
          refine bodyPost_ret (v := .tuple #[.agg #[.int .i64 0, .int .i64 0, .slice none 0 0], .bool false]) (by simp [results, Tryd.results66, go_sem, r0, r1, r2, hq4]) rfl ⟨rfl, ?_⟩
          have hW := HWz.out
          go_grown
        | some s' =>
          rintro e w4 ⟨a4, c4, rfl, hb4, hN4⟩
          have hb34 : Below w3.heap.size w3 w4 := below_step HV3.out hb4 (Nat.le_refl _)
          have HSn := Lib.hid (HPv.out.trans hv)
          have hT4' := HT3.out.next hb34
          have HT5 := Lib.hid ((hT4'.set3 (x' := .int .i64 D) (y' := .int .i64 N) (z' := .slice a4 (termsOf s' (allW D N)).length c4)))
          simp only [World.size_alloc] at hN4
          have HR5 := Lib.hid ((((RowF.of (B := w.heap.size + 1) (p := w1.heap.size) (q := w1.heap.size) hN4 (by omega) (.inl (by omega)) (.inl (by omega))).set (n := w1.heap.size) (i := 0) (u := .int .i64 D) (.inl rfl)).set (n := w1.heap.size) (i := 1) (u := .int .i64 N) (.inl rfl)).set (n := w1.heap.size) (i := 2) (u := .slice a4 (termsOf s' (allW D N)).length c4) (.inl rfl))
          have HB5 := Lib.hid ((((HB.out.trans ((HB3.out.trans (hb34.mono hz3)).mono hzo)).setCell (p := ⟨w1.heap.size, 0, none⟩) (Nat.le_refl _) (.int .i64 D)).setCell (p := ⟨w1.heap.size, 1, none⟩) (Nat.le_refl _) (.int .i64 N)).setCell (p := ⟨w1.heap.size, 2, none⟩) (Nat.le_refl _) (.slice a4 (termsOf s' (allW D N)).length c4))
          obtain ⟨hq4, r0, r1, r2, z0, z1, z2⟩ := id hT4'
          have hz4 := hb34.size
          clear hb4 hb34 hv hN4 hT4' t0 t1 t2
          go_wp2_with fail
          go_roundw
          case rel => exact ⟨k + 1, s', a4, _, c4, hlt, by go_num, HSn.out, rfl, HT5.out.alloc _, HR5.out.alloc _, HB5.out.alloc (by simp; omega) _⟩
          case measure => simp [intOf]; omega
    · obtain rfl : k = ps.length := by omega
      have HO2 := Lib.hid (HOut.out.symm.trans HSk.out)
      obtain ⟨hq4, r0, r1, r2, z0, z1, z2⟩ := id HT4.out
      obtain ⟨-, t0, t1, t2, -, -, -⟩ := id HTP.out
      have HNw := Lib.hid HRP.out.newRow
      go_wp2
      rw [HO2.out]
      refine bodyPost_ret (v := .tuple #[.agg #[.int .i64 D, .int .i64 N, .slice aP (termsOf s (allW D N)).length cP], .bool true]) (by simp [results, Tryd.results66, go_sem, r0, r1, r2]) rfl ⟨aP, cP, rfl, ?_, ?_⟩
      · have hW := HBw.out
        go_grown
      · exact (((HNw.out.far1s (by omega)).far1s (by omega)).far1s (by omega)).mono (by omega) (by simp)
end Go.Proofs.YtoeednnkadmjpaaDoor

namespace Go.Proofs.YtoeednnkadmjpaaDoor
open Go.RowKit

end Go.Proofs.YtoeednnkadmjpaaDoor
