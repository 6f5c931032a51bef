/-
  Contracts of IsGroupLike, of both sides.
-/
import Derived.Test.YtmcmbhnkkloknaaDoorHsL
import Derived.Test.YtmcmbhnkkloknaaDoorHsS
import Derived.Test.YtmcmbhnkkloknaaDoorConst
import Derived.Test.YtmcmbhnkkloknaaDoorGate
namespace Go.Proofs.YtmcmbhnkkloknaaDoor
open Go.RowKit
set_option linter.unusedVariables false

theorem valV_val {ts : List Tm} (hd : ts.Pairwise (fun a b => a.s ≠ b.s)) (hn : ∀ t ∈ ts, t.n ≠ 0) (s : ByteArray) : valF (valV ts ts.length) s = valL s.data.toList ts := by
  rcases valV_valL hd hn s with ⟨h1, h2⟩ | ⟨t, _, h1, h2, _⟩
  · rw [valF_none h1, h2]
  · rw [valF_some h1, h2]
set_option maxRecDepth 100000 in
set_option maxHeartbeats 8000000 in
theorem wantMul_c (ys : List Tm) (hV : ∀ s : ByteArray, valF (valV ys ys.length) s = valL s.data.toList ys) (hZ : ∀ s : ByteArray, isF (valL s.data.toList ys).1 (valL s.data.toList ys).2 = true) (mb nb pb : Nat) (v u : ByteArray) (hv : v.size ≤ 5) (hu : u.size ≤ 5) (W : World) (hpb : pb < W.heap.size) (c0 : W.cell? ⟨pb, 0, none⟩ = some (.map (some mb))) (hM : MapV W mb nb (valV ys ys.length)) :
    Calls Tryd.prog 21 #[.string v, .string u, .pointer (some ⟨pb, 0, none⟩)] W (FracPost (pairC (hsW ys true (v, u))) W) := by
  have HM := Lib.hid hM
  have hmb := hM.lt
  have h1 := hZ v
  have h2 := hZ u
  obtain ⟨a, b, hab⟩ : ∃ a b, valL v.data.toList ys = (a, b) := ⟨_, _, rfl⟩
  obtain ⟨c, d, hcd⟩ : ∃ c d, valL u.data.toList ys = (c, d) := ⟨_, _, rfl⟩
  rw [hab] at h1
  rw [hcd] at h2
  have HR := Lib.hid (show mulR a b c d = pairC (hsW ys true (v, u)) by
    unfold hsW
    rw [if_pos rfl, hab, hcd, mulR_y h1 h2]
    cases hok : fOk (a * c) (b * d) with
    | true => rw [if_pos rfl]; unfold q3; rw [(low_yes hok).2.2]; rfl
    | false => rw [if_neg (by simp)]; unfold q3; rw [(low_no hok).1, (low_no hok).2.1, (low_no hok).2.2]; rfl)
  obtain ⟨⟨t1, t2, t3⟩, hr⟩ : ∃ t, mulR a b c d = t := ⟨_, rfl⟩
  rw [← HR.out, hr]
  have HMl := Lib.hid (fun W' => by
    have h := iMul_c a b c d W'
    rw [hr] at h
    exact h)
  clear HR hr h1 h2
  go_enter Tryd.func21, Tryd.ntmps21
  go_upto_region 1 with fail
  have hb1 := below1 W (.cells #[.int .i64 0, .int .i64 0] 37)
  have hT := Box2.new W 0 0 37
  have c1 := (hb1.cell (p := ⟨pb, 0, none⟩) hpb).trans c0
  have hz1 : (W.alloc (.cells #[.int .i64 0, .int .i64 0] 37)).heap.size = W.heap.size + 1 := by simp
  generalize (W.alloc (.cells #[.int .i64 0, .int .i64 0] 37)) = w1 at *
  have hpb1 : pb < w1.heap.size := by omega
  have HTb := Lib.hid hT
  have HB1 := Lib.hid hb1
  have HAv := Lib.hid (fun W' (hW : Below w1.heap.size w1 W') => by
    have h := at_c mb nb (valV ys ys.length) v (by unfold maxLen; omega) W' (HM.out.below (hb1.trans (hW.mono (by omega))) hmb)
    rw [hV v, hab] at h
    exact h)
  have HAu := Lib.hid (fun W' (hW : Below w1.heap.size w1 W') => by
    have h := at_c mb nb (valV ys ys.length) u (by unfold maxLen; omega) W' (HM.out.below (hb1.trans (hW.mono (by omega))) hmb)
    rw [hV u, hcd] at h
    exact h)
  have KV := Lib.hid (show ∀ w', Below W.heap.size W w' → w'.cell? ⟨pb, 0, none⟩ = some (.map (some mb)) from fun w' hb => (hb.cell (p := ⟨pb, 0, none⟩) hpb).trans c0)
  have hzl : W.heap.size ≤ w1.heap.size := by omega
  clear c0 c1 hT hab hcd hV hZ hz1
  go_region_held3 (fun w' => w'.cell? ⟨pb, 0, none⟩ = some (.map (some mb)))
    ((refine KV.out _ ?_; repeat' (first | with_reducible assumption | with_reducible exact Below.refl _ _ | (with_reducible refine Below.drew ?_) | (with_reducible refine Below.setCell ?_ (by (try dsimp only); omega) _) | (with_reducible refine Below.alloc ?_ (by (try simp only [World.size_setCell]); (try simp only [World.size_drew]); (try simp only [World.size_alloc]); (try simp only [World.size_setCell]); (try simp only [World.size_alloc]); omega) _))))
    (first
      | (go_at_call 23; (with_reducible refine (HAv.out _ ?_).mono ?_); (focus repeat' (first | with_reducible assumption | with_reducible exact Below.refl _ _ | (with_reducible refine Below.drew ?_) | (with_reducible refine Below.setCell ?_ (by (try dsimp only); omega) _) | (with_reducible refine Below.alloc ?_ (by (try simp only [World.size_setCell]); (try simp only [World.size_drew]); (try simp only [World.size_alloc]); (try simp only [World.size_setCell]); (try simp only [World.size_alloc]); omega) _))); rintro e w5 ⟨rfl, hb0⟩; have hbw5 : Below w1.heap.size w1 w5 := below_step (by repeat' (first | with_reducible assumption | with_reducible exact Below.refl _ _ | (with_reducible refine Below.drew ?_) | (with_reducible refine Below.setCell ?_ (by (try dsimp only); omega) _) | (with_reducible refine Below.alloc ?_ (by (try simp only [World.size_setCell]); (try simp only [World.size_drew]); (try simp only [World.size_alloc]); (try simp only [World.size_setCell]); (try simp only [World.size_alloc]); omega) _))) hb0 (Nat.le_refl _); have hbWw5 : Below W.heap.size W w5 := hb1.trans (hbw5.mono hzl); have hzw5 := hbWw5.size)
      | (go_at_call 23; (with_reducible refine (HAu.out _ ?_).mono ?_); (focus repeat' (first | with_reducible assumption | with_reducible exact Below.refl _ _ | (with_reducible refine Below.drew ?_) | (with_reducible refine Below.setCell ?_ (by (try dsimp only); omega) _) | (with_reducible refine Below.alloc ?_ (by (try simp only [World.size_setCell]); (try simp only [World.size_drew]); (try simp only [World.size_alloc]); (try simp only [World.size_setCell]); (try simp only [World.size_alloc]); omega) _))); rintro e w6 ⟨rfl, hb0⟩; have hbw6 : Below w1.heap.size w1 w6 := below_step (by repeat' (first | with_reducible assumption | with_reducible exact Below.refl _ _ | (with_reducible refine Below.drew ?_) | (with_reducible refine Below.setCell ?_ (by (try dsimp only); omega) _) | (with_reducible refine Below.alloc ?_ (by (try simp only [World.size_setCell]); (try simp only [World.size_drew]); (try simp only [World.size_alloc]); (try simp only [World.size_setCell]); (try simp only [World.size_alloc]); omega) _))) hb0 (Nat.le_refl _); have hbWw6 : Below W.heap.size W w6 := hb1.trans (hbw6.mono hzl); have hzw6 := hbWw6.size)
      | (go_at_call 22; (with_reducible refine (HMl.out _).mono ?_); rintro e w7 ⟨rfl, hb0⟩; have hbw7 : Below w1.heap.size w1 w7 := below_step (by repeat' (first | with_reducible assumption | with_reducible exact Below.refl _ _ | (with_reducible refine Below.drew ?_) | (with_reducible refine Below.setCell ?_ (by (try dsimp only); omega) _) | (with_reducible refine Below.alloc ?_ (by (try simp only [World.size_setCell]); (try simp only [World.size_drew]); (try simp only [World.size_alloc]); (try simp only [World.size_setCell]); (try simp only [World.size_alloc]); omega) _))) hb0 (Nat.le_refl _); have hbWw7 : Below W.heap.size W w7 := hb1.trans (hbw7.mono hzl); have hzw7 := hbWw7.size; obtain ⟨hz7, r0, r1, z0, z1⟩ := HTb.out.below hbw7 HTb.out.1)
      | fail)
  all_goals
    have hW7 := HB1.out.trans (hbw7.mono (by have := HB1.out.size; omega))
    go_wp2
    exact bodyPost_ret (v := .tuple #[.agg #[.int .i64 t1, .int .i64 t2], .int .i64 t3]) (by simp [results, Tryd.results21, go_sem, r0, r1]) rfl ⟨rfl, by go_grown⟩
section
variable (L V : Int) (g : Nat) (ys : List Tm) (hl : ys.length ≤ 1048576) (hs : ∀ i (h : i < ys.length), (ys[i]).s.size ≤ maxLen) (w : World) (hb : g < w.heap.size) (ht : TermsIn w g 0 ys)
include hl hs hb ht
set_option maxRecDepth 100000 in
theorem sGrl_1 (h1 : serB L V ys = false) : Calls Tryd.prog 6 #[.agg #[.int .i64 L, .int .i64 V, .slice (some ⟨g, 0, none⟩) ys.length ys.length]] w (HsPost (false, 1) w) := by
  have HT := Lib.hid ht
  have HS := Lib.hid hs
  have H1 := Lib.hid h1
  clear ht hs h1
  go_enter Tryd.func6, Tryd.ntmps6
  go_wp2_with fail
  refine (l01Is_c L V g 0 _ ys hl HS.out _ (by simp; omega) (HT.out.below (below1 w _) hb)).mono ?_
  rw [H1.out]
  rintro e w1 ⟨rfl, hb1⟩
  have hW : Below w.heap.size w w1 := (below1 w _).trans (hb1.mono (by simp))
  clear hb1
  go_wp2
  go_ret2
  exact ⟨rfl, hW⟩
set_option maxRecDepth 100000 in
theorem iGrl_1 (h1 : serB L V ys = false) : Calls Tryd.prog 8 #[.agg #[.int .i64 L, .int .i64 V, .slice (some ⟨g, 0, none⟩) ys.length ys.length]] w (HsPost (false, 1) w) := by
  have HT := Lib.hid ht
  have HS := Lib.hid hs
  have HC := Lib.hid (coef_1 (s := { data := #[] }) h1)
  clear ht hs h1
  go_enter Tryd.func8, Tryd.ntmps8
  go_wp2_with fail
  refine (iConst_c L V g 0 _ ys _ hl HS.out (by simp; omega) (HT.out.below (below1 w _) hb) 0 0 1 HC.out).mono ?_
  rintro e w1 ⟨rfl, hb1⟩
  have hW : Below w.heap.size w w1 := (below1 w _).trans (hb1.mono (by simp))
  clear hb1
  have HX := Lib.hid (hW.trans ((below1 w1 (.cells #[.int .i64 0, .int .i64 0] 37)).mono hW.size))
  clear hW
  go_wp2_with fail
  go_region
  all_goals
    go_wp2
    go_ret2
    exact ⟨rfl, by first | exact HX.out | exact HX.out.drew⟩
set_option maxRecDepth 100000 in
theorem sGrl_2 (h1 : serB L V ys = true) (h2 : ¬ ((valL [] ys).1 = 1 ∧ (valL [] ys).2 = 1)) : Calls Tryd.prog 6 #[.agg #[.int .i64 L, .int .i64 V, .slice (some ⟨g, 0, none⟩) ys.length ys.length]] w (HsPost (false, 0) w) := by
  have HT := Lib.hid ht
  have HS := Lib.hid hs
  have H1 := Lib.hid h1
  have HV2 := Lib.hid h2
  clear ht hs h1 h2
  go_enter Tryd.func6, Tryd.ntmps6
  go_wp2_with fail
  refine (l01Is_c L V g 0 _ ys hl HS.out _ (by simp; omega) (HT.out.below (below1 w _) hb)).mono ?_
  rw [H1.out]
  rintro e w1 ⟨rfl, hb1⟩
  have hB := hb1
  simp only [World.size_alloc] at hB
  have bc := bcellB hB
  have x0 : w1.cell? ⟨w.heap.size, 0, none⟩ = some (.int .i64 L) := (bc.1 _ _ (by omega)).trans (by go_simp)
  have x1 : w1.cell? ⟨w.heap.size, 1, none⟩ = some (.int .i64 V) := (bc.1 _ _ (by omega)).trans (by go_simp)
  have x2 : w1.cell? ⟨w.heap.size, 2, none⟩ = some (.slice (some ⟨g, 0, none⟩) ys.length ys.length) := (bc.1 _ _ (by omega)).trans (by go_simp)
  have HW1 := Lib.hid ((below1 w (.cells #[.int .i64 L, .int .i64 V, .slice (some ⟨g, 0, none⟩) ys.length ys.length] 30)).trans (hb1.mono (by simp)))
  have hz1 := HW1.out.size
  clear hb1 hB bc
  go_wp2_with fail
  refine (l01Value_c L V g 0 _ ys hl ⟨#[]⟩ _ (by omega) (HT.out.below HW1.out hb)).mono ?_
  rintro e w2 ⟨rfl, hb2⟩
  have HW2 := Lib.hid (HW1.out.trans (hb2.mono hz1))
  clear hb2 x0 x1 x2
  have hW3 := HW2.out
  have hne := HV2.out
  obtain ⟨p, q, hpq⟩ : ∃ p q, valL [] ys = (p, q) := ⟨_, _, rfl⟩
  have e1 : valL (ByteArray.mk #[]).data.toList ys = (p, q) := hpq
  rw [hpq] at hne
  try rw [e1]
  simp only at hne
  clear e1 hpq HV2
  rcases (by omega : p ≠ 1 ∨ (p = 1 ∧ q ≠ 1)) with hp1 | ⟨rfl, hq1⟩
  all_goals
    clear hne
    go_wp2
    go_ret2
    exact ⟨rfl, hW3⟩
set_option maxRecDepth 100000 in
theorem iGrl_2 (h1 : serB L V ys = true) (h2 : ¬ ((valL [] ys).1 = 1 ∧ (valL [] ys).2 = 1)) : Calls Tryd.prog 8 #[.agg #[.int .i64 L, .int .i64 V, .slice (some ⟨g, 0, none⟩) ys.length ys.length]] w (HsPost (false, 0) w) := by
  have HT := Lib.hid ht
  have HS := Lib.hid hs
  have HC := Lib.hid (coef_3 h1 (const_ok h1))
  have HV2 := Lib.hid h2
  clear ht hs h1 h2
  go_enter Tryd.func8, Tryd.ntmps8
  go_wp2_with fail
  refine (iConst_c L V g 0 _ ys _ hl HS.out (by simp; omega) (HT.out.below (below1 w _) hb) (valL [] ys).1 (valL [] ys).2 0 HC.out).mono ?_
  rintro e w1 ⟨rfl, hb1⟩
  have HW1 := Lib.hid ((below1 w (.cells #[.int .i64 L, .int .i64 V, .slice (some ⟨g, 0, none⟩) ys.length ys.length] 30)).trans (hb1.mono (by simp)))
  clear hb1
  have hne := HV2.out
  obtain ⟨p, q, hpq⟩ : ∃ p q, valL [] ys = (p, q) := ⟨_, _, rfl⟩
  rw [hpq] at hne ⊢
  simp only at hne ⊢
  clear hpq HV2
  rcases (by omega : p ≠ 1 ∨ (p = 1 ∧ q ≠ 1)) with hp1 | ⟨rfl, hq1⟩
  · clear hne
    go_upto_region 2 with fail
    have hv1 := below1 w1 (.cells #[.int .i64 p, .int .i64 q] 37)
    have p0 : (w1.alloc (.cells #[.int .i64 p, .int .i64 q] 37)).cell? ⟨w1.heap.size, 0, none⟩ = some (.int .i64 p) := by go_simp
    have p1 : (w1.alloc (.cells #[.int .i64 p, .int .i64 q] 37)).cell? ⟨w1.heap.size, 1, none⟩ = some (.int .i64 q) := by go_simp
    have hgv : w1.heap.size < (w1.alloc (.cells #[.int .i64 p, .int .i64 q] 37)).heap.size := by simp
    have HWv := Lib.hid (HW1.out.trans (hv1.mono HW1.out.size))
    generalize (w1.alloc (.cells #[.int .i64 p, .int .i64 q] 37)) = wv at *
    have KV := Lib.hid (show ∀ w', Below wv.heap.size wv w' → (w'.cell? ⟨w1.heap.size, 0, none⟩ = some (.int .i64 p) ∧ w'.cell? ⟨w1.heap.size, 1, none⟩ = some (.int .i64 q)) from fun w' hb => ⟨(hb.cell (p := ⟨w1.heap.size, 0, none⟩) hgv).trans p0, (hb.cell (p := ⟨w1.heap.size, 1, none⟩) hgv).trans p1⟩)
    clear hv1
    go_region_held3 (fun w' => w'.cell? ⟨w1.heap.size, 0, none⟩ = some (.int .i64 p) ∧ w'.cell? ⟨w1.heap.size, 1, none⟩ = some (.int .i64 q))
      ((refine KV.out _ ?_; repeat' (first | with_reducible assumption | with_reducible exact Below.refl _ _ | (with_reducible refine Below.drew ?_) | (with_reducible refine Below.setCell ?_ (by (try dsimp only); omega) _) | (with_reducible refine Below.alloc ?_ (by (try simp only [World.size_setCell]); (try simp only [World.size_drew]); (try simp only [World.size_alloc]); (try simp only [World.size_setCell]); (try simp only [World.size_alloc]); omega) _))))
      (first
        | (go_at_call 18; (with_reducible refine (iWhole_c 1 _).mono ?_); rintro e w5 ⟨rfl, hb0⟩; have hbw5 : Below wv.heap.size wv w5 := below_step (by repeat' (first | with_reducible assumption | with_reducible exact Below.refl _ _ | (with_reducible refine Below.drew ?_) | (with_reducible refine Below.setCell ?_ (by (try dsimp only); omega) _) | (with_reducible refine Below.alloc ?_ (by (try simp only [World.size_setCell]); (try simp only [World.size_drew]); (try simp only [World.size_alloc]); (try simp only [World.size_setCell]); (try simp only [World.size_alloc]); omega) _))) hb0 (Nat.le_refl _))
        | fail)
    all_goals
      have hW2 := HWv.out.trans (hbw5.mono HWv.out.size)
      clear hbw5 hb0
      go_wp2
      go_ret2
      exact ⟨rfl, hW2⟩
  · clear hne
    go_upto_region 2 with fail
    have hv1 := below1 w1 (.cells #[.int .i64 1, .int .i64 q] 37)
    have p0 : (w1.alloc (.cells #[.int .i64 1, .int .i64 q] 37)).cell? ⟨w1.heap.size, 0, none⟩ = some (.int .i64 1) := by go_simp
    have p1 : (w1.alloc (.cells #[.int .i64 1, .int .i64 q] 37)).cell? ⟨w1.heap.size, 1, none⟩ = some (.int .i64 q) := by go_simp
    have hgv : w1.heap.size < (w1.alloc (.cells #[.int .i64 1, .int .i64 q] 37)).heap.size := by simp
    have HWv := Lib.hid (HW1.out.trans (hv1.mono HW1.out.size))
    generalize (w1.alloc (.cells #[.int .i64 1, .int .i64 q] 37)) = wv at *
    have KV := Lib.hid (show ∀ w', Below wv.heap.size wv w' → (w'.cell? ⟨w1.heap.size, 0, none⟩ = some (.int .i64 1) ∧ w'.cell? ⟨w1.heap.size, 1, none⟩ = some (.int .i64 q)) from fun w' hb => ⟨(hb.cell (p := ⟨w1.heap.size, 0, none⟩) hgv).trans p0, (hb.cell (p := ⟨w1.heap.size, 1, none⟩) hgv).trans p1⟩)
    clear hv1
    go_region_held3 (fun w' => w'.cell? ⟨w1.heap.size, 0, none⟩ = some (.int .i64 1) ∧ w'.cell? ⟨w1.heap.size, 1, none⟩ = some (.int .i64 q))
      ((refine KV.out _ ?_; repeat' (first | with_reducible assumption | with_reducible exact Below.refl _ _ | (with_reducible refine Below.drew ?_) | (with_reducible refine Below.setCell ?_ (by (try dsimp only); omega) _) | (with_reducible refine Below.alloc ?_ (by (try simp only [World.size_setCell]); (try simp only [World.size_drew]); (try simp only [World.size_alloc]); (try simp only [World.size_setCell]); (try simp only [World.size_alloc]); omega) _))))
      (first
        | (go_at_call 18; (with_reducible refine (iWhole_c 1 _).mono ?_); rintro e w5 ⟨rfl, hb0⟩; have hbw5 : Below wv.heap.size wv w5 := below_step (by repeat' (first | with_reducible assumption | with_reducible exact Below.refl _ _ | (with_reducible refine Below.drew ?_) | (with_reducible refine Below.setCell ?_ (by (try dsimp only); omega) _) | (with_reducible refine Below.alloc ?_ (by (try simp only [World.size_setCell]); (try simp only [World.size_drew]); (try simp only [World.size_alloc]); (try simp only [World.size_setCell]); (try simp only [World.size_alloc]); omega) _))) hb0 (Nat.le_refl _))
        | fail)
    all_goals
      have hW2 := HWv.out.trans (hbw5.mono HWv.out.size)
      clear hbw5 hb0
      go_wp2
      go_ret2
      exact ⟨rfl, hW2⟩
end
section
variable (D N m : Nat) (hNm : m + 1 = N) (g : Nat) (ys : List Tm) (hl : ys.length ≤ 1048576) (hs : ∀ i (h : i < ys.length), (ys[i]).s.size ≤ maxLen) (w : World) (hb : g < w.heap.size) (ht : TermsIn w g 0 ys)
include hNm hl hs hb ht
set_option maxRecDepth 100000 in
theorem sGrl_3 (h1 : serB (D : Int) (N : Int) ys = true) (h2 : (valL [] ys).1 = 1 ∧ (valL [] ys).2 = 1) : Calls Tryd.prog 6 #[.agg #[.int .i64 D, .int .i64 N, .slice (some ⟨g, 0, none⟩) ys.length ys.length]] w (HsPost (hsR ys D N m true) w) := by
  have HT := Lib.hid ht
  have HS := Lib.hid hs
  have H1 := Lib.hid h1
  have HV2 := Lib.hid (show valL [] ys = (1, 1) from Prod.ext h2.1 h2.2)
  clear ht hs h1 h2
  go_enter Tryd.func6, Tryd.ntmps6
  go_wp2_with fail
  refine (l01Is_c D N g 0 _ ys hl HS.out _ (by simp; omega) (HT.out.below (below1 w _) hb)).mono ?_
  rw [H1.out]
  rintro e w1 ⟨rfl, hb1⟩
  have hB := hb1
  simp only [World.size_alloc] at hB
  have bc := bcellB hB
  have x0 : w1.cell? ⟨w.heap.size, 0, none⟩ = some (.int .i64 D) := (bc.1 _ _ (by omega)).trans (by go_simp)
  have x1 : w1.cell? ⟨w.heap.size, 1, none⟩ = some (.int .i64 N) := (bc.1 _ _ (by omega)).trans (by go_simp)
  have x2 : w1.cell? ⟨w.heap.size, 2, none⟩ = some (.slice (some ⟨g, 0, none⟩) ys.length ys.length) := (bc.1 _ _ (by omega)).trans (by go_simp)
  have HW1 := Lib.hid ((below1 w (.cells #[.int .i64 D, .int .i64 N, .slice (some ⟨g, 0, none⟩) ys.length ys.length] 30)).trans (hb1.mono (by simp)))
  have hz1 := HW1.out.size
  have hzw : w.heap.size < w1.heap.size := by have := hB.size; simp only [World.size_alloc] at this; omega
  clear hb1 hB bc
  go_wp2_with fail
  refine (l01Value_c D N g 0 _ ys hl ⟨#[]⟩ _ (by omega) (HT.out.below HW1.out hb)).mono ?_
  rintro e w2 ⟨rfl, hb2⟩
  have HW2 := Lib.hid (HW1.out.trans (hb2.mono hz1))
  have x0 := (hb2.cell (p := ⟨w.heap.size, 0, none⟩) hzw).trans x0
  have x1 := (hb2.cell (p := ⟨w.heap.size, 1, none⟩) hzw).trans x1
  have x2 := (hb2.cell (p := ⟨w.heap.size, 2, none⟩) hzw).trans x2
  have hzw2 : w.heap.size < w2.heap.size := by have := hb2.size; omega
  clear hb2
  have e1 : valL (ByteArray.mk #[]).data.toList ys = (1, 1) := HV2.out
  rw [e1]
  have HW3 := HW2
  have hz3 := HW3.out.size
  clear e1
  go_wp2_with fail
  refine (l03Holds_yes D N m hNm g _ ys hl H1.out _ (by omega) (HT.out.below HW3.out hb)).mono ?_
  obtain ⟨⟨b, c⟩, hr⟩ : ∃ r, hsR ys D N m true = r := ⟨_, rfl⟩
  rw [hr]
  rintro e w4 ⟨rfl, hb4⟩
  have hW4 := HW3.out.trans (hb4.mono hz3)
  clear hb4 x0 x1 x2
  have hr := Lib.hid hr
  go_wp2
  go_ret2
  rw [hr.out]
  exact ⟨rfl, hW4⟩
set_option maxRecDepth 100000 in
theorem iGrl_3 (h1 : serB (D : Int) (N : Int) ys = true) (h2 : (valL [] ys).1 = 1 ∧ (valL [] ys).2 = 1) : Calls Tryd.prog 8 #[.agg #[.int .i64 D, .int .i64 N, .slice (some ⟨g, 0, none⟩) ys.length ys.length]] w (HsPost (hsR ys D N m true) w) := by
  have HT := Lib.hid ht
  have HS := Lib.hid hs
  have H1 := Lib.hid h1
  have HC := Lib.hid (coef_3 h1 (const_ok h1))
  have HV2 := Lib.hid (show valL [] ys = (1, 1) from Prod.ext h2.1 h2.2)
  have HVV := Lib.hid (fun s => valV_val (ser_neP h1) (ser_nzP h1) s)
  have HZ := Lib.hid (fun s => valL_isF h1 s)
  have HR := Lib.hid (show hsL (hsAt ys D (hsW ys true)) (pqL N (upW D N) (upW D N)) = hsR ys D N m true by
    subst hNm
    rw [pqL_same]
    rfl)
  clear ht hs h1 h2
  go_enter Tryd.func8, Tryd.ntmps8
  go_wp2_with fail
  refine (iConst_c D N g 0 _ ys _ hl HS.out (by simp; omega) (HT.out.below (below1 w _) hb) (valL [] ys).1 (valL [] ys).2 0 HC.out).mono ?_
  rintro e w1 ⟨rfl, hb1⟩
  have hB := hb1
  simp only [World.size_alloc] at hB
  have bc := bcellB hB
  have x0 : w1.cell? ⟨w.heap.size, 0, none⟩ = some (.int .i64 D) := (bc.1 _ _ (by omega)).trans (by go_simp)
  have x1 : w1.cell? ⟨w.heap.size, 1, none⟩ = some (.int .i64 N) := (bc.1 _ _ (by omega)).trans (by go_simp)
  have x2 : w1.cell? ⟨w.heap.size, 2, none⟩ = some (.slice (some ⟨g, 0, none⟩) ys.length ys.length) := (bc.1 _ _ (by omega)).trans (by go_simp)
  have HW1 := Lib.hid ((below1 w (.cells #[.int .i64 D, .int .i64 N, .slice (some ⟨g, 0, none⟩) ys.length ys.length] 30)).trans (hb1.mono (by simp)))
  have hzw : w.heap.size < w1.heap.size := by have := hB.size; simp only [World.size_alloc] at this; omega
  clear hb1 hB bc
  rw [HV2.out]
  simp only
  go_upto_region 2 with fail
  have hv1 := below1 w1 (.cells #[.int .i64 1, .int .i64 1] 37)
  have p0 : (w1.alloc (.cells #[.int .i64 1, .int .i64 1] 37)).cell? ⟨w1.heap.size, 0, none⟩ = some (.int .i64 1) := by go_simp
  have p1 : (w1.alloc (.cells #[.int .i64 1, .int .i64 1] 37)).cell? ⟨w1.heap.size, 1, none⟩ = some (.int .i64 1) := by go_simp
  have hgv : w1.heap.size < (w1.alloc (.cells #[.int .i64 1, .int .i64 1] 37)).heap.size := by simp
  have HWv := Lib.hid (HW1.out.trans (hv1.mono HW1.out.size))
  have y0 := (hv1.cell (p := ⟨w.heap.size, 0, none⟩) hzw).trans x0
  have y1 := (hv1.cell (p := ⟨w.heap.size, 1, none⟩) hzw).trans x1
  have y2 := (hv1.cell (p := ⟨w.heap.size, 2, none⟩) hzw).trans x2
  generalize (w1.alloc (.cells #[.int .i64 1, .int .i64 1] 37)) = wv at *
  have hzv : w.heap.size < wv.heap.size := by omega
  have KV := Lib.hid (show ∀ w', Below wv.heap.size wv w' → (w'.cell? ⟨w1.heap.size, 0, none⟩ = some (.int .i64 1) ∧ w'.cell? ⟨w1.heap.size, 1, none⟩ = some (.int .i64 1)) from fun w' hb => ⟨(hb.cell (p := ⟨w1.heap.size, 0, none⟩) hgv).trans p0, (hb.cell (p := ⟨w1.heap.size, 1, none⟩) hgv).trans p1⟩)
  clear hv1 x0 x1 x2
  go_region_held3 (fun w' => w'.cell? ⟨w1.heap.size, 0, none⟩ = some (.int .i64 1) ∧ w'.cell? ⟨w1.heap.size, 1, none⟩ = some (.int .i64 1))
    ((refine KV.out _ ?_; repeat' (first | with_reducible assumption | with_reducible exact Below.refl _ _ | (with_reducible refine Below.drew ?_) | (with_reducible refine Below.setCell ?_ (by (try dsimp only); omega) _) | (with_reducible refine Below.alloc ?_ (by (try simp only [World.size_setCell]); (try simp only [World.size_drew]); (try simp only [World.size_alloc]); (try simp only [World.size_setCell]); (try simp only [World.size_alloc]); omega) _))))
    (first
      | (go_at_call 18; (with_reducible refine (iWhole_c 1 _).mono ?_); rintro e w5 ⟨rfl, hb0⟩; have hbw5 : Below wv.heap.size wv w5 := below_step (by repeat' (first | with_reducible assumption | with_reducible exact Below.refl _ _ | (with_reducible refine Below.drew ?_) | (with_reducible refine Below.setCell ?_ (by (try dsimp only); omega) _) | (with_reducible refine Below.alloc ?_ (by (try simp only [World.size_setCell]); (try simp only [World.size_drew]); (try simp only [World.size_alloc]); (try simp only [World.size_setCell]); (try simp only [World.size_alloc]); omega) _))) hb0 (Nat.le_refl _))
      | fail)
  all_goals
    have HW5 := Lib.hid (HWv.out.trans (hbw5.mono HWv.out.size))
    have x0 := (hbw5.cell (p := ⟨w.heap.size, 0, none⟩) hzv).trans y0
    have x1 := (hbw5.cell (p := ⟨w.heap.size, 1, none⟩) hzv).trans y1
    have x2 := (hbw5.cell (p := ⟨w.heap.size, 2, none⟩) hzv).trans y2
    have hz5 := HW5.out.size
    have hmf : ∀ (fn : Fn) (first cap : Array Value) (w : World), (Instr.makeFunc fn first cap).run Tryd.prog w = .ok (.func fn first cap) w := fun _ _ _ _ => rfl
    have hzw5 : w.heap.size < w5.heap.size := by have := hbw5.size; omega
    clear hbw5 hb0 y0 y1 y2
    go_wp2_with fail
    refine (valuesOf_c (D : Int) (N : Int) (some ⟨g, 0, none⟩) ys.length ys hl HS.out _ (.inr ⟨g, 0, rfl, by omega, HT.out.below HW5.out hb⟩)).mono ?_
    rintro e w6 ⟨mb, rfl, hmb, hb6, hM6⟩
    have HM6 := Lib.hid hM6
    have HW6 := Lib.hid (HW5.out.trans (hb6.mono hz5))
    have x0 := (hb6.cell (p := ⟨w.heap.size, 0, none⟩) hzw5).trans x0
    have x1 := (hb6.cell (p := ⟨w.heap.size, 1, none⟩) hzw5).trans x1
    have x2 := (hb6.cell (p := ⟨w.heap.size, 2, none⟩) hzw5).trans x2
    have hz6 := hb6.size
    have hmb6 := hM6.lt
    clear hb6 hM6
    have HW7 := Lib.hid (HW6.out.trans ((below1 w6 (.cells #[.map (some mb)] 45)).mono HW6.out.size))
    have x0 := ((below1 w6 (.cells #[.map (some mb)] 45)).cell (p := ⟨w.heap.size, 0, none⟩) (by show w.heap.size < _; omega)).trans x0
    have x1 := ((below1 w6 (.cells #[.map (some mb)] 45)).cell (p := ⟨w.heap.size, 1, none⟩) (by show w.heap.size < _; omega)).trans x1
    have x2 := ((below1 w6 (.cells #[.map (some mb)] 45)).cell (p := ⟨w.heap.size, 2, none⟩) (by show w.heap.size < _; omega)).trans x2
    have HWn := Lib.hid (show WantAt 21 #[.pointer (some ⟨w6.heap.size, 0, none⟩)] (hsW ys true) (w6.alloc (.cells #[.map (some mb)] 45)) from fun W hW v u hv hu => by
      have h := wantMul_c ys (fun s => HVV.out s) (fun s => HZ.out s) mb ys.length w6.heap.size v u hv hu W (by have := hW.size; simp at this; omega) ((hW.cell (p := ⟨w6.heap.size, 0, none⟩) (by simp)).trans (by go_simp)) ((HM6.out.alloc _).below hW (by simp; omega))
      simpa using h)
    go_wp2_with fail
    refine (hasAt_c D N g _ ys hl HS.out H1.out 21 #[.pointer (some ⟨w6.heap.size, 0, none⟩)] (fun _ _ => by kernel_rfl) (hsW ys true) _ (by simp; omega) (HT.out.below HW7.out hb) HWn.out).mono ?_
    rw [HR.out]
    obtain ⟨⟨b, c⟩, hr⟩ : ∃ r, hsR ys D N m true = r := ⟨_, rfl⟩
    rw [hr]
    rintro e w4 ⟨rfl, hb4⟩
    have hW4 := HW7.out.trans (hb4.mono HW7.out.size)
    clear hb4 x0 x1 x2
    have hr := Lib.hid hr
    go_wp2
    go_ret2
    rw [hr.out]
    exact ⟨rfl, hW4⟩
end
end Go.Proofs.YtmcmbhnkkloknaaDoor

