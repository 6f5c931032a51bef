/-
  The contract of the model's l09Step: one number more behind a group word.
-/
import Derived.Test.YtddfijlgehpjfaaGreatDoorGwL
import Derived.RegionTactic
import Derived.BigRegion
namespace Go.Proofs.YtddfijlgehpjfaaGreatDoor
open Go.RowKit

section
variable {wb w5 : World} {D N : Nat} {lt s : ByteArray} {o : Obj} {a : Option Addr} {t : TypeId}
theorem cut_1 (hs : s = lt) (hb : Below wb.heap.size wb w5) : OutCut wb D N lt (.pointer (some ⟨w5.heap.size + 1, 0, none⟩)) (.string s) (.int .i64 1) ((w5.alloc o).alloc (.cells #[.int .i64 D, .int .i64 N, .slice a 0 0] t)) := by
  have h := hb.size
  exact ⟨_, a, rfl, by rw [hs], rfl, by omega, (hb.alloc h o).alloc (by simp; omega) _, T3.newAt (by simp)⟩
theorem cut_2 (hs : s = lt) (hb : Below wb.heap.size wb w5) : OutCut wb D N lt (.pointer (some ⟨w5.heap.size, 0, none⟩)) (.string s) (.int .i64 1) ((w5.alloc (.cells #[.int .i64 D, .int .i64 N, .slice a 0 0] t)).alloc o) := by
  have h := hb.size
  exact ⟨_, a, rfl, by rw [hs], rfl, h, (hb.alloc h _).alloc (by simp; omega) _, (T3.newAt rfl).alloc o⟩
theorem cut_3 (hs : s = lt) (hb : Below wb.heap.size wb w5) : OutCut wb D N lt (.pointer (some ⟨w5.heap.size, 0, none⟩)) (.string s) (.int .i64 1) (w5.alloc (.cells #[.int .i64 D, .int .i64 N, .slice a 0 0] t)) := by
  have h := hb.size
  exact ⟨_, a, rfl, by rw [hs], rfl, h, hb.alloc h _, T3.newAt rfl⟩
theorem cut_4 (hs : s = lt) (hb : Below wb.heap.size wb w5) (h0 : Below ((wb.alloc o).alloc (.cells #[.int .i64 0, .int .i64 0, .slice none 0 0] t)).drew.heap.size ((wb.alloc o).alloc (.cells #[.int .i64 0, .int .i64 0, .slice none 0 0] t)).drew w5) :
    OutCut wb D N lt (.pointer (some ⟨wb.heap.size + 1, 0, none⟩)) (.string s) (.int .i64 1) (((w5.setCell ⟨wb.heap.size + 1, 0, none⟩ (.int .i64 D)).setCell ⟨wb.heap.size + 1, 1, none⟩ (.int .i64 N)).setCell ⟨wb.heap.size + 1, 2, none⟩ (.slice a 0 0)) := by
  refine ⟨_, a, rfl, by rw [hs], rfl, by omega, ((hb.setCell (p := ⟨wb.heap.size + 1, 0, none⟩) (by show _ ≤ wb.heap.size + 1; omega) _).setCell (p := ⟨wb.heap.size + 1, 1, none⟩) (by show _ ≤ wb.heap.size + 1; omega) _).setCell (p := ⟨wb.heap.size + 1, 2, none⟩) (by show _ ≤ wb.heap.size + 1; omega) _, T3.fill (T3.next (w := ((wb.alloc o).alloc (.cells #[.int .i64 0, .int .i64 0, .slice none 0 0] t)).drew) (T3.drew (T3.newAt (by simp))) h0)⟩
theorem cut_5 (hs : s = lt) (hb : Below wb.heap.size wb w5) (h0 : Below (wb.alloc (.cells #[.int .i64 0, .int .i64 0, .slice none 0 0] t)).drew.heap.size (wb.alloc (.cells #[.int .i64 0, .int .i64 0, .slice none 0 0] t)).drew w5) :
    OutCut wb D N lt (.pointer (some ⟨wb.heap.size, 0, none⟩)) (.string s) (.int .i64 1) ((((w5.setCell ⟨wb.heap.size, 0, none⟩ (.int .i64 D)).setCell ⟨wb.heap.size, 1, none⟩ (.int .i64 N)).setCell ⟨wb.heap.size, 2, none⟩ (.slice a 0 0)).alloc o) := by
  have h := hb.size
  refine ⟨_, a, rfl, by rw [hs], rfl, Nat.le_refl _, (((hb.setCell (p := ⟨wb.heap.size, 0, none⟩) (Nat.le_refl _) _).setCell (p := ⟨wb.heap.size, 1, none⟩) (Nat.le_refl _) _).setCell (p := ⟨wb.heap.size, 2, none⟩) (Nat.le_refl _) _).alloc (by simp only [World.size_setCell]; exact h) _, (T3.fill (T3.next (w := (wb.alloc (.cells #[.int .i64 0, .int .i64 0, .slice none 0 0] t)).drew) (T3.drew (T3.newAt rfl)) h0)).alloc o⟩
theorem cut_6 (hs : s = lt) (hb : Below wb.heap.size wb w5) (h0 : Below ((wb.alloc (.cells #[.int .i64 0, .int .i64 0, .slice none 0 0] t)).alloc o).drew.heap.size ((wb.alloc (.cells #[.int .i64 0, .int .i64 0, .slice none 0 0] t)).alloc o).drew w5) :
    OutCut wb D N lt (.pointer (some ⟨wb.heap.size, 0, none⟩)) (.string s) (.int .i64 1) (((w5.setCell ⟨wb.heap.size, 0, none⟩ (.int .i64 D)).setCell ⟨wb.heap.size, 1, none⟩ (.int .i64 N)).setCell ⟨wb.heap.size, 2, none⟩ (.slice a 0 0)) := by
  refine ⟨_, a, rfl, by rw [hs], rfl, Nat.le_refl _, ((hb.setCell (p := ⟨wb.heap.size, 0, none⟩) (Nat.le_refl _) _).setCell (p := ⟨wb.heap.size, 1, none⟩) (Nat.le_refl _) _).setCell (p := ⟨wb.heap.size, 2, none⟩) (Nat.le_refl _) _, T3.fill (T3.next (w := ((wb.alloc (.cells #[.int .i64 0, .int .i64 0, .slice none 0 0] t)).alloc o).drew) (T3.drew ((T3.newAt rfl).alloc o)) h0)⟩
end

set_option maxRecDepth 100000 in
set_option maxHeartbeats 8000000 in
theorem l09Step_c (D N : Nat) (hD : 1 ≤ D ∧ D ≤ 3) (hN : 1 ≤ N ∧ N ≤ 5) (x : Int) (hx : Six x) (hxD : x.natAbs ≤ D) {k : Nat} (hk : k ≤ 12) {G : List UInt8 → Int} (hG : BdG G k) {h : VF} (hr : RepV (allW D N) h G) (a : Option Addr) (cap : Nat) (w : World) (row : Row w a (termsOf h (allW D N))) :
    Calls Tryz.prog 27 #[.agg #[.int .i64 D, .int .i64 N, .slice a (termsOf h (allW D N)).length cap], .int .i64 x] w (StepG D N (mulG G (eG (chL x) (sgL x))) w) := by
  have hput := fun i j hi hj f hf => rps_put (i := i) (j := j) hD hN hx hxD hk hG hr hi hj (f := f) hf
  have hstart := rps_start hD hN hx hxD hk hG hr
  have hnext := fun i j hi hj f hf => rps_next (i := i) (j := j) hD hN hx hxD hk hG hr hi hj (f := f) hf
  have hend := fun i hi f hf => rps_end (i := i) hD hN hx hxD hk hG hr hi (f := f) hf
  have hbd := fun i j f hf => rps_bd (i := i) (j := j) hD hN hx hxD hk hG hr (f := f) hf
  have hv0 := fun t ht => vlS_0 hD hN hx hxD hk hG hr (t := t) ht
  have hvb := fun t j hj => vlS_bd hD hN hx hxD hk hG hr (t := t) (j := j) hj
  have hfew := fun f => termsOf_1458 hD.2 hN.2 f
  have hsz := fun t (ht : t ∈ termsOf h (allW D N)) => allW_size D N _ (terms_rep hr (ws_small hN) ht).1
  obtain ⟨ts, hts⟩ : ∃ ts, termsOf h (allW D N) = ts := ⟨_, rfl⟩
  rw [hts] at row hput hstart hnext hend hbd hv0 hsz ⊢
  have HR := Lib.hid row
  have HX := Lib.hid hx
  have HPut := Lib.hid hput
  have HStart := Lib.hid hstart
  have HNext := Lib.hid hnext
  have HEnd := Lib.hid hend
  have HBd := Lib.hid hbd
  have HV0 := Lib.hid hv0
  have HVb := Lib.hid hvb
  have HFew := Lib.hid hfew
  have HSz := Lib.hid hsz
  have hN5 := hN.2
  have hlts : ts.length ≤ 1458 := by rw [← hts]; exact hfew h
  clear row hx hput hstart hnext hend hbd hv0 hvb hfew hsz hts hr hG hxD hk
  go_enter Tryz.func27, Tryz.ntmps27
  go_upto_region 1 with fail
  obtain ⟨wb, hwb⟩ : ∃ wb, ((w.alloc (.cells #[.int .i64 D, .int .i64 N, .slice a ts.length cap] 25)).alloc (.cells #[.int .i64 0, .int .i64 0, .slice none 0 0] 25)) = wb := ⟨_, rfl⟩
  have x0 : wb.cell? ⟨w.heap.size, 0, none⟩ = some (.int .i64 D) := by subst hwb; go_simp
  have x1 : wb.cell? ⟨w.heap.size, 1, none⟩ = some (.int .i64 N) := by subst hwb; go_simp
  have x2 : wb.cell? ⟨w.heap.size, 2, none⟩ = some (.slice a ts.length cap) := by subst hwb; go_simp
  have hzb : wb.heap.size = w.heap.size + 1 + 1 := by subst hwb; simp
  have HZ := Lib.hid hzb
  have hzl : w.heap.size < wb.heap.size := by omega
  have HBw := Lib.hid (show Below w.heap.size w wb from by subst hwb; exact below2 _ _ _)
  have HT0 := Lib.hid (show T3 wb (w.heap.size + 1) (.int .i64 0) (.int .i64 0) (.slice none 0 0) from by subst hwb; exact T3.newAt (by simp))
  rw [hwb]
  clear hwb hzb
  go_cut [5, 6, 7] (OutCut wb D N (wrd [chL x]))
  case first =>
    have HK := Lib.hid (show ∀ w', Below wb.heap.size wb w' → (w'.cell? ⟨w.heap.size, 0, none⟩ = some (.int .i64 D) ∧ w'.cell? ⟨w.heap.size, 1, none⟩ = some (.int .i64 N) ∧ w'.cell? ⟨w.heap.size, 2, none⟩ = some (.slice a ts.length cap)) from fun w' hb => ⟨(hb.cell (p := ⟨w.heap.size, 0, none⟩) hzl).trans x0, (hb.cell (p := ⟨w.heap.size, 1, none⟩) hzl).trans x1, (hb.cell (p := ⟨w.heap.size, 2, none⟩) hzl).trans x2⟩)
    have HE := Lib.hid (fun W => l01Empty_c (D : Int) (N : Int) (.slice a ts.length cap) rfl W)
    obtain ⟨m, hm⟩ : ∃ m : Int, max x (-x) = m := ⟨_, rfl⟩
    have hxb : -3 ≤ x ∧ x ≤ 3 ∧ x ≠ 0 := by have h6 := HX.out; unfold Six at h6; omega
    have hmb : 1 ≤ m ∧ m ≤ 3 ∧ m = (x.natAbs : Int) := by have := hm; omega
    have hcv := fun W g hc => conv_letter (47 + m) W g hc
    have HW := Lib.hid (show (⟨#[UInt8.ofNat (47 + m).toNat]⟩ : ByteArray) = wrd [chL x] from by unfold chL wrd; rw [show (47 + m).toNat = 47 + x.natAbs from by omega])
    have k1 : IntKind.i64.wrap (-x) = -x := IntWalk.i64_in _ (by omega)
    have k2 : IntKind.i64.wrap (48 + m) = 48 + m := IntWalk.i64_in _ (by omega)
    have k3 : IntKind.i64.wrap (48 + m - 1) = 47 + m := by rw [IntWalk.i64_in _ (by omega)]; omega
    have k4 : IntKind.u8.wrap (47 + m) = 47 + m := by
      simp [IntKind.wrap, IntKind.signed, IntKind.bits]
      omega
    clear hmb hxb HPut HStart HNext HEnd HBd HV0 HVb HFew HSz HR
    have hl2 : wb.heap.size < wb.heap.size + 1 + 1 := by omega
    have hl1 : wb.heap.size < wb.heap.size + 1 := by omega
    go_region_law (first
      | (go_simp; go_at_call 15; (with_reducible refine (HE.out _).mono ?_); rintro e w5 ⟨g5, rfl, -, hb0⟩; have hb5 : Below wb.heap.size wb w5 := below_step (by repeat' (first | with_reducible assumption | with_reducible exact Below.refl _ _ | (with_reducible refine Below.drew ?_) | (with_reducible refine Below.setCell ?_ (by (try dsimp only); omega) _) | (with_reducible refine Below.alloc ?_ (by (try simp only [World.size_setCell]); (try simp only [World.size_drew]); (try simp only [World.size_alloc]); (try simp only [World.size_setCell]); (try simp only [World.size_alloc]); omega) _))) hb0 (Nat.le_refl _); have hz5 := hb5.size; obtain ⟨bc1, bc2⟩ := bcellB hb0; have hzz := hb0.size; (try simp only [World.size_drew] at hzz); (try simp only [World.size_alloc] at hzz); (try simp only [World.size_drew] at hzz); (try have hs1 : wb.heap.size < w5.heap.size := Nat.lt_of_succ_le hzz); (try have hs2 : wb.heap.size + 1 < w5.heap.size := Nat.lt_of_succ_le hzz); (try have hs3 : wb.heap.size < w5.heap.size := Nat.lt_of_succ_lt (Nat.lt_of_succ_le hzz)); clear hzz)
      | fail)
    all_goals (go_wp2_with fail; go_meet)
    all_goals (first | with_reducible exact cut_1 HW.out hb5 | with_reducible exact cut_2 HW.out hb5 | with_reducible exact cut_3 HW.out hb5 | with_reducible exact cut_4 HW.out hb5 hb0 | with_reducible exact cut_5 HW.out hb5 hb0 | with_reducible exact cut_6 HW.out hb5 hb0)
  case rest =>
    obtain ⟨g, aO, rfl, rfl, rfl, hge, hbO, hTO⟩ := hcut
    obtain ⟨w1, rfl⟩ : ∃ w1 : World, w1 = wc := ⟨_, rfl⟩
    have HB1 := Lib.hid hbO
    have HTO := Lib.hid hTO
    have hz1 := hbO.size
    have hzl1 : w.heap.size < w1.heap.size := by omega
    have q1 := (hbO.cell (p := ⟨w.heap.size, 1, none⟩) hzl).trans x1
    have q2 := (hbO.cell (p := ⟨w.heap.size, 2, none⟩) hzl).trans x2
    have HX1 := Lib.hid q1
    have HX2 := Lib.hid q2
    have HR1 := Lib.hid ((HR.out.below HBw.out).below (by have h := hbO; exact h))
    have HTR := Lib.hid (HT0.out.below hbO (by rw [HZ.out]; omega))
    have hg1 := hTO.1
    have hgz : w.heap.size + 1 < g := by rw [HZ.out] at hge; omega
    clear hbO hTO x0 x1 x2 HT0 q1 q2
    go_upto_if 28 with fail
    go_cut [7] (fun v7 wy => v7 = .int .i64 (sgL x) ∧ w1 = wy)
    case first =>
      by_cases hneg : x < 0
      · have HS := Lib.hid (show sgL x = -1 from by unfold sgL; rw [if_pos hneg])
        go_wp2
        go_meet
        exact ⟨by rw [HS.out], rfl⟩
      · have HS := Lib.hid (show sgL x = 1 from by unfold sgL; rw [if_neg hneg])
        go_wp2
        go_meet
        exact ⟨by rw [HS.out], rfl⟩
    case rest =>
      obtain ⟨rfl, rfl⟩ := hcut
      have HSg := Lib.hid (sgL_sg x)
      have HVn := Lib.hid (fun t j => vlS_next G t x j)
      have HWn := Lib.hid (fun t j => wrS_next t x j)
      obtain ⟨sg, hsg⟩ : ∃ sg, sgL x = sg := ⟨_, rfl⟩
      simp only [hsg] at HSg HVn
      rw [hsg]
      obtain ⟨lt, hlt⟩ : ∃ lt, wrd [chL x] = lt := ⟨_, rfl⟩
      have hls : lt.size = 1 := by rw [← hlt, wrd_size]; rfl
      simp only [hlt] at HWn
      rw [hlt]
      have hgn : g ≠ w.heap.size := by omega
      clear hsg hlt
      go_wp2_with fail
      go_loopw [8] (fun vi wr => ∃ (i : Nat) (f : VF) (a5 : Option Addr) (l5 c5 : Nat), i ≤ ts.length ∧ vi = .int .i64 i ∧ RpS D N x G ts i 0 f ∧ l5 = (termsOf f (allW D N)).length ∧ l5 ≤ c5 ∧ T3 wr g (.int .i64 D) (.int .i64 N) (.slice a5 l5 c5) ∧ RowF (w.heap.size + 2) g g wr a5 (termsOf f (allW D N)) ∧ Below wb.heap.size wb wr ∧ Below g w1 wr) (fun vi _ => ts.length - (intOf vi).toNat)
      case atStart => exact ⟨0, fun _ => none, aO, 0, 0, Nat.zero_le _, rfl, HStart.out, by rw [termsOf_no]; rfl, Nat.le_refl _, HTO.out, .inl (termsOf_no _), HB1.out, Below.refl _ _⟩
      case round =>
        obtain ⟨i, f, a5, l5, c5, hi, rfl, hf, hl5, hlc5, hT, hRow, hBw, hBg⟩ := hrel
        have HF := Lib.hid hf
        have HL5 := Lib.hid hl5
        have HT5 := Lib.hid hT
        have HRow := Lib.hid hRow
        have HBb := Lib.hid hBw
        have HBg := Lib.hid hBg
        have hgr := hT.1
        have hzr := hBg.size
        have hzb := hBw.size
        have z2 := (hBg.cell (p := ⟨w.heap.size, 2, none⟩) (by show w.heap.size < g; omega)).trans HX2.out
        clear hf hl5 hT hRow hBw hBg
        obtain ⟨wo, rfl⟩ : ∃ wo : World, wo = wr := ⟨_, rfl⟩
        by_cases hlt : i < ts.length
        · rcases HR.out with h0 | ⟨b, off, rfl, hbw, hti⟩
          · rw [h0] at hlt; simp at hlt
          have HBr := Lib.hid (HBw.out.trans (HBb.out.mono (by rw [HZ.out]; omega)))
          obtain ⟨c0, c1, c2⟩ := hti.below HBr.out hbw i hlt
          have HPi := Lib.hid (fun j hj f hf => HPut.out i j hlt hj f hf)
          have HNi := Lib.hid (fun j hj f hf => HNext.out i j hlt hj f hf)
          have HV0i := Lib.hid (HV0.out ts[i] (List.getElem_mem hlt))
          have hsz0 := HSz.out ts[i] (List.getElem_mem hlt)
          have HW0 := Lib.hid (wrS_0 ts[i] x)
          have HVbi := Lib.hid (fun j (hj : (ts[i]'hlt).s.size + j ≤ N) => HVb.out (ts[i]'hlt) j hj)
          have HVni := Lib.hid (fun j => HVn.out ts[i] j)
          have HWni := Lib.hid (fun j => HWn.out ts[i] j)
          have HWsi := Lib.hid (fun j => wrS_size ts[i] x j)
          obtain ⟨s0, n0, d0, hte⟩ : ∃ s n d, ts[i] = ⟨s, n, d⟩ := ⟨_, _, _, rfl⟩
          simp only [hte] at c0 c1 c2 HPi HNi HV0i hsz0 HW0 HVbi HVni HWni HWsi
          have e0 : (0 : Int) ≤ (i : Int) := by omega
          have e1 : (i : Int) < (ts.length : Int) := by omega
          have hwo : w.heap.size < wo.heap.size := by omega
          have hbo : b < wo.heap.size := by omega
          clear hte hti
          go_wp2_with fail
          go_region
          go_wp2_with fail
          have HTv := Lib.hid (HT5.out.alloc (.cells #[.int .i64 n0, .int .i64 d0] 47))
          have HRv := Lib.hid ((HRow.out.second (Nat.le_refl _)).alloc (.cells #[.int .i64 n0, .int .i64 d0] 47))
          have hsN : s0.size ≤ N := hsz0
          have hgo : g < wo.heap.size := hgr
          have hne1 : ¬ g = wo.heap.size := by omega
          have hne2 : ¬ wo.heap.size = g := by omega
          go_loopw [9, 11] (fun v9 vn wr => ∃ (j : Nat) (wd : ByteArray) (f' : VF) (a6 : Option Addr) (l6 c6 : Nat), v9 = .string wd ∧ Hid (wd = wrS ⟨s0, n0, d0⟩ x j) ∧ vn = .int .i64 ((j : Int) + 1) ∧ wd.size = s0.size + j ∧ s0.size + j ≤ N + 1 ∧ RpS D N x G ts i j f' ∧ l6 = (termsOf f' (allW D N)).length ∧ l6 ≤ c6 ∧ T3 wr g (.int .i64 D) (.int .i64 N) (.slice a6 l6 c6) ∧ RowF (w.heap.size + 2) g wo.heap.size wr a6 (termsOf f' (allW D N)) ∧ Box2 wr wo.heap.size (vlS G ⟨s0, n0, d0⟩ x j).1 (vlS G ⟨s0, n0, d0⟩ x j).2 ∧ Below g wo wr) (fun _ vn _ => N + 2 - (intOf vn).toNat)
          case atStart =>
            refine ⟨0, s0, f, a5, l5, c5, rfl, Lib.hid HW0.out.symm, rfl, by omega, by omega, HF.out, HL5.out, hlc5, HTv.out, HRv.out, ?_, ?_⟩
            · rw [HV0i.out]; exact Box2.new wo n0 d0 _
            · exact ((Below.refl g wo).alloc (by omega) _).drew
          case round =>
            obtain ⟨j, wd, f', a6, l6, c6, rfl, hwd, rfl, hwz, hjN, hf', hl6, hlc6, hT6, hRow6, hBx, hB6⟩ := hrel
            have HB6 := Lib.hid hB6
            have q1 := (hB6.cell (p := ⟨w.heap.size, 1, none⟩) (by show w.heap.size < g; omega)).trans ((HBg.out.cell (p := ⟨w.heap.size, 1, none⟩) (by show w.heap.size < g; omega)).trans HX1.out)
            have hz6 := hB6.size
            clear c0 c1 c2 z2
            obtain ⟨wq, rfl⟩ : ∃ wq : World, wq = wr := ⟨_, rfl⟩
            by_cases hle : s0.size + j ≤ N
            · have hwI : (wd.size : Int) ≤ (N : Int) := by omega
              have hwS : wd.size ≤ 5 := by omega
              have hvb := HVbi.out j hle
              obtain ⟨q, hq, hRq⟩ := HPi.out j hle f' hf'
              have HRq := Lib.hid hRq
              have HVnj := Lib.hid (HVni.out j)
              have HBdj := Lib.hid (HBd.out i j f' hf')
              obtain ⟨vn, hvn⟩ : ∃ v, (vlS G ⟨s0, n0, d0⟩ x j).1 = v := ⟨_, rfl⟩
              obtain ⟨vd, hvd⟩ : ∃ v, (vlS G ⟨s0, n0, d0⟩ x j).2 = v := ⟨_, rfl⟩
              rw [hvn, hvd] at hvb hBx HVnj
              rw [← hwd.out, hvn, hvd] at hq
              have HC := l01Put_c a6 l6 c6 (termsOf f' (allW D N)) hl6 wd vn vd ⟨by omega, by omega⟩ HBdj.out (by have := HFew.out f'; omega) hlc6 wq hRow6.newRow.row
              rw [hq] at HC
              have HCh := Lib.hid HC
              have HT6 := Lib.hid hT6
              have HBx := Lib.hid hBx
              obtain ⟨-, t0, t1, t2, -, -, -⟩ := hT6
              obtain ⟨-, b0, b1, -, -⟩ := hBx
              have hlw : (l6 : Int) ≤ 1458 := by have := HFew.out f'; omega
              clear hq hRq hf' HC hvn hvd hRow6 hl6 hB6
              go_wp2_with fail
              refine HCh.out.mono ?_
              rintro e w2 ⟨a7, c7, rfl, hlc7, hb2, hN2⟩
              have hz2 := hb2.size
              have HT7 := Lib.hid (HT6.out.next hb2)
              have HB7 := Lib.hid (box_next HBx.out hb2)
              have HN7 := Lib.hid (RowF.of (B := w.heap.size + 2) (p := g) (q := wo.heap.size) hN2 (by omega) (.inl (by omega)) (.inl (by have := HBx.out.1; omega)))
              have HBe2 := Lib.hid (HB6.out.trans (hb2.mono (by omega)))
              have HQ7 := Lib.hid (HFew.out q)
              obtain ⟨ts7, hts7⟩ : ∃ ts7, termsOf q (allW D N) = ts7 := ⟨_, rfl⟩
              rw [hts7] at HN7 hlc7 HQ7
              rw [hts7]
              have HTS := Lib.hid hts7
              clear t0 t1 t2 b0 b1 q1 hb2 hN2 hts7
              obtain ⟨hg7, t0, t1, t2, u0, u1, u2⟩ := HT7.out
              obtain ⟨hv7, b0, b1, f0, f1⟩ := HB7.out
              have hsgm : (sg = 1 ∨ sg = -1) := HSg.out
              have hmul : -1000000000 ≤ vn * sg ∧ vn * sg ≤ 1000000000 := by rcases hsgm with rfl | rfl <;> omega
              have hj6 : (j : Int) ≤ 5 := by omega
              have hj0 : (0 : Int) ≤ (j : Int) := by omega
              have hmul2 : 0 ≤ vd * ((j : Int) + 1) ∧ vd * ((j : Int) + 1) ≤ 6000000000 := by
                constructor
                · exact Int.mul_nonneg (by omega) (by omega)
                · have := Int.mul_le_mul hvb.2.2 (show (j : Int) + 1 ≤ 6 by omega) (by omega) (by omega)
                  omega
              clear hsgm
              have HFr := Lib.hid (fun W => l01Frac_c (vn * sg) (vd * ((j : Int) + 1)) (by omega) (by omega) W)
              go_wp2_with fail
              refine (HFr.out _).mono ?_
              rintro e w3 ⟨rfl, hb3⟩
              have hz3 := hb3.size
              simp only [World.size_setCell] at hz3
              have HT8 := Lib.hid ((HT7.out.third (.slice a7 ts7.length c7)).next hb3)
              have HB8 := Lib.hid (box_next (HB7.out.far (n := g) (i := 2) hne1 (.slice a7 ts7.length c7)) hb3)
              have HN8 := Lib.hid ((HN7.out.set (n := g) (i := 2) (u := .slice a7 ts7.length c7) (.inl rfl)).below hb3)
              have HBe3 := Lib.hid ((HBe2.out.setCell (p := ⟨g, 2, none⟩) (Nat.le_refl _) (.slice a7 ts7.length c7)).trans (hb3.mono (by simp; omega)))
              clear hb3 t0 t1 t2 u0 u1 u2 b0 b1 f0 f1
              obtain ⟨hv8, b0, b1, f0, f1⟩ := HB8.out
              obtain ⟨fn, hfn⟩ : ∃ z, fN (vn * sg) (vd * ((j : Int) + 1)) = z := ⟨_, rfl⟩
              obtain ⟨fd, hfd⟩ : ∃ z, fD (vn * sg) (vd * ((j : Int) + 1)) = z := ⟨_, rfl⟩
              rw [hfn, hfd] at HVnj
              rw [hfn, hfd]
              have hwv : wo.heap.size < w3.heap.size := hv8
              clear hfn hfd hmul hmul2
              go_wp2_with fail
              go_roundw
              case rel =>
                refine ⟨j + 1, wd ++ lt, q, a7, _, c7, rfl, Lib.hid (by rw [hwd.out]; exact HWni.out j), by go_num, by rw [ByteArray.size_append, hls, hwz]; omega, by omega, HRq.out, by rw [HTS.out], hlc7, ?_, ?_, ?_, ?_⟩
                · exact ((HT8.out.far hne2).far hne2).alloc _
                · rw [HTS.out]; exact ((HN8.out.set (.inr rfl)).set (.inr rfl)).alloc _
                · rw [HVnj.out]; exact box_next (HB8.out.store fn fd) (below1 _ _)
                · exact ((HBe3.out.setCell (p := ⟨wo.heap.size, 0, none⟩) (by show g ≤ wo.heap.size; omega) _).setCell (p := ⟨wo.heap.size, 1, none⟩) (by show g ≤ wo.heap.size; omega) _).alloc (by simp; omega) _
              case measure => simp [intOf]; omega
            · have hwI : ¬ (wd.size : Int) ≤ (N : Int) := by omega
              have HNx := Lib.hid (HNi.out j (by omega) f' hf')
              have HT6 := Lib.hid hT6
              have HRow6 := Lib.hid hRow6
              have HL6 := Lib.hid hl6
              have hzz : wb.heap.size ≤ g := hge
              clear hf' hT6 hRow6 hBx hB6 hl6
              go_wp2_with fail
              go_roundw
              case rel => exact ⟨i + 1, f', a6, l6, c6, by omega, by go_num, HNx.out, HL6.out, hlc6, HT6.out, HRow6.out.first, HBb.out.trans (HB6.out.mono hzz), HBg.out.trans HB6.out⟩
              case measure => simp [intOf]; omega
        · obtain rfl : i = ts.length := by omega
          have HE := Lib.hid (HEnd.out ts.length (Nat.le_refl _) f HF.out)
          have HBr := Lib.hid (HBw.out.trans (HBb.out.mono (by rw [HZ.out]; omega)))
          have hTR := HTR.out.below HBg.out (by omega)
          obtain ⟨hr4, e0, e1, e2, d0, d1, d2⟩ := hTR
          obtain ⟨-, m0, m1, m2, -, -, -⟩ := HT5.out
          have HN := Lib.hid HRow.out.newRow
          have hll := HL5.out
          have HLL := Lib.hid hll
          clear hll
          go_wp2_with fail
          refine bodyPost_ret (v := .agg #[.int .i64 D, .int .i64 N, .slice a5 l5 c5]) (by simp [results, Tryz.results27, go_sem, e0, e1, e2]) rfl ?_
          refine ⟨f, a5, c5, HE.out, by rw [← HLL.out], by rw [← HLL.out]; exact hlc5, ?_, ?_⟩
          · exact ((HBr.out.setCell (p := ⟨w.heap.size + 1, 0, none⟩) (by show w.heap.size ≤ w.heap.size + 1; omega) _).setCell (p := ⟨w.heap.size + 1, 1, none⟩) (by show w.heap.size ≤ w.heap.size + 1; omega) _).setCell (p := ⟨w.heap.size + 1, 2, none⟩) (by show w.heap.size ≤ w.heap.size + 1; omega) _
          · exact (((HN.out.far1s (by omega)).far1s (by omega)).far1s (by omega)).mono (by omega) (by simp)
end Go.Proofs.YtddfijlgehpjfaaGreatDoor
