/-
  Contracts of MultiplyCoordinates, of the program and of its model.
-/
import Derived.Test.YtgcjpenlcokgjaaGreatDoorCrdJ
import Derived.Test.YtgcjpenlcokgjaaGreatDoorLieJ
import Derived.Test.YtgcjpenlcokgjaaGreatDoorJoiR
namespace Go.Proofs.YtgcjpenlcokgjaaGreatDoor
open Go.RowKit
set_option linter.unusedVariables false
set_option linter.unusedSimpArgs false

theorem ser_empty2 {D N : Nat} (hD : D ≤ 3) (hN : N ≤ 5) (hDN : D < 3 ∨ N ≤ 4) {ts : List Tm} (hm : ∀ t ∈ ts, t.s ∈ allW D N ∧ lynB t.s = true) : ∀ {k : Nat} {h : VF}, serTo (allW D N) ts k = some h → h ByteArray.empty = none
  | 0, h, e => by
    injection e with e
    subst e
    rfl
  | k + 1, h, e => by
    rw [serTo] at e
    obtain ⟨f, h1, h2⟩ := Option.bind_eq_some_iff.1 e
    have ih := ser_empty2 hD hN hDN hm h1
    cases ht : ts[k]? with
    | none =>
      rw [ht] at h2
      injection h2 with h2
      rw [← h2]; exact ih
    | some t =>
      rw [ht] at h2
      have htm := hm t (List.mem_of_getElem? ht)
      simp only [sumOne] at h2
      obtain ⟨g, h3, h4⟩ := Option.bind_eq_some_iff.1 h2
      have hl := bW_led hD hN hDN htm.1 htm.2 h3
      have hg : g ByteArray.empty = none := by
        cases hg : g ByteArray.empty with
        | none => rfl
        | some x =>
          have h5 := (hl.2 _ _ hg).1
          have h6 := (lynB_true htm.2).1
          have h7 : ByteArray.empty.size = 0 := rfl
          omega
      rw [addK_same hg h4]; exact ih
theorem join_good {x y j : VF} {ws : List ByteArray} {N : Nat} (h : joinV x y ws N = some j) : GoodV ws j := by
  unfold joinV at h
  obtain ⟨a, _, h⟩ := Option.bind_eq_some_iff.1 h
  obtain ⟨b, _, h⟩ := Option.bind_eq_some_iff.1 h
  obtain ⟨p, _, h⟩ := Option.bind_eq_some_iff.1 h
  unfold logV at h
  obtain ⟨y, _, h⟩ := Option.bind_eq_some_iff.1 h
  exact sumK_good h
/-- the joined series of two lists of coordinates -/
noncomputable def mulJ (ws : List ByteArray) (xs ys : List Tm) (N : Nat) : Option VF := (serW ws xs).bind fun x => (serW ws ys).bind fun y => joinV x y ws N
/-- what the coordinates of their product come to -/
def MulR (ws : List ByteArray) (xs ys : List Tm) (N : Nat) (c : Int) (z : List Tm) : Prop := (mulJ ws xs ys N = none ∧ c = 3 ∧ z = []) ∨ ∃ j, mulJ ws xs ys N = some j ∧ ∃ m, m ≤ 121 ∧ LieR ws m j [] c z
/-- what is known of the series of coordinates -/
theorem ser_facts {D N : Nat} {xs : List Tm} (hg : givB D N xs = true) {h : VF} (e : serW (allW D N) xs = some h) :
    GoodV (allW D N) h ∧ serB (D : Int) (N : Int) (termsOf h (allW D N)) = true ∧ valL [] (termsOf h (allW D N)) = (0, 1) ∧ valV (termsOf h (allW D N)) (termsOf h (allW D N)).length = h ∧ (termsOf h (allW D N)).length ≤ 1048576 ∧ ∀ i (hi : i < (termsOf h (allW D N)).length), ((termsOf h (allW D N))[i]).s.size ≤ maxLen := by
  have hser := (giv_true hg).1
  have hsh : shapeB (D : Int) (N : Int) = true := by unfold serB at hser; rw [Bool.and_eq_true] at hser; exact hser.1
  have hDN := shape_out hsh
  have hfew := allW_few (D := D) (by omega) (n := N) (by omega)
  have hmem : ∀ t ∈ xs, t.s ∈ allW D N ∧ lynB t.s = true := fun t ht => by
    have h1 := (good_valV hser).2
    have h2 : t ∈ termsOf (valV xs xs.length) (allW D N) := by rw [h1]; exact ht
    exact ⟨(termsOf_iff.1 h2).1, (giv_true hg).2 t ht⟩
  have hgd : GoodV (allW D N) h := ser_good e
  have hem : h ByteArray.empty = none := ser_empty2 (by omega) (by omega) (by omega) hmem e
  refine ⟨hgd, ser_terms hsh hgd, ?_, valV_terms hsh hgd, by have := termsOf_len h (allW D N); omega, fun i hi => ?_⟩
  · have h3 := valL_termsOf (allW_asc (D := D) (by omega) N) hgd ByteArray.empty
    rw [valF_none hem] at h3
    exact h3
  · have := allW_size D N _ (termsOf_iff.1 (List.getElem_mem hi)).1
    unfold maxLen; omega

set_option maxRecDepth 100000 in
theorem sMulC_1a (L V : Int) (g1 g2 : Nat) (xs ys : List Tm) (hl1 : xs.length ≤ 1048576) (hl2 : ys.length ≤ 1048576) (hs1 : ∀ i (h : i < xs.length), (xs[i]).s.size ≤ maxLen) (hs2 : ∀ i (h : i < ys.length), (ys[i]).s.size ≤ maxLen) (hg : givB L V xs = false) (w : World) (hb1 : g1 < w.heap.size) (hb2 : g2 < w.heap.size) (t1 : TermsIn w g1 0 xs) (t2 : TermsIn w g2 0 ys) :
    Calls Tryz.prog 30 #[.int .i64 L, .int .i64 V, .slice (some ⟨g1, 0, none⟩) xs.length xs.length, .slice (some ⟨g2, 0, none⟩) ys.length ys.length] w (TermsPost [] 2 w) := by
  have HG := Lib.hid (fun W (hW : Below w.heap.size w W) => l06Given_c L V g1 0 xs.length xs hl1 hs1 W (Nat.lt_of_lt_of_le hb1 hW.size) (t1.below hW hb1))
  rw [hg] at HG
  clear t1 t2 hs1 hs2 hg
  go_enter Tryz.func30, Tryz.ntmps30
  go_wp2_with fail
  refine (HG.out _ (Below.refl _ _)).mono ?_
  rintro e w1 ⟨rfl, hb3⟩
  have HB1 := Lib.hid hb3
  have hz1 := hb3.size
  clear hb3
  go_wp2
  go_ret2
  exact TermsPost.err 2 rfl HB1.out

set_option maxRecDepth 100000 in
theorem sMulC_1b (L V : Int) (g1 g2 : Nat) (xs ys : List Tm) (hl1 : xs.length ≤ 1048576) (hl2 : ys.length ≤ 1048576) (hs1 : ∀ i (h : i < xs.length), (xs[i]).s.size ≤ maxLen) (hs2 : ∀ i (h : i < ys.length), (ys[i]).s.size ≤ maxLen) (hg : givB L V xs = true) (hg2 : givB L V ys = false) (w : World) (hb1 : g1 < w.heap.size) (hb2 : g2 < w.heap.size) (t1 : TermsIn w g1 0 xs) (t2 : TermsIn w g2 0 ys) :
    Calls Tryz.prog 30 #[.int .i64 L, .int .i64 V, .slice (some ⟨g1, 0, none⟩) xs.length xs.length, .slice (some ⟨g2, 0, none⟩) ys.length ys.length] w (TermsPost [] 2 w) := by
  have HG := Lib.hid (fun W (hW : Below w.heap.size w W) => l06Given_c L V g1 0 xs.length xs hl1 hs1 W (Nat.lt_of_lt_of_le hb1 hW.size) (t1.below hW hb1))
  rw [hg] at HG
  have HG2 := Lib.hid (fun W (hW : Below w.heap.size w W) => l06Given_c L V g2 0 ys.length ys hl2 hs2 W (Nat.lt_of_lt_of_le hb2 hW.size) (t2.below hW hb2))
  rw [hg2] at HG2
  clear t1 t2 hs1 hs2 hg hg2
  go_enter Tryz.func30, Tryz.ntmps30
  go_wp2_with fail
  refine (HG.out _ (Below.refl _ _)).mono ?_
  rintro e w1 ⟨rfl, hb3⟩
  have HB1 := Lib.hid hb3
  have hz1 := hb3.size
  clear hb3
  go_wp2_with fail
  refine (HG2.out _ HB1.out).mono ?_
  rintro e w2 ⟨rfl, hb4⟩
  have HB2 := Lib.hid (HB1.out.trans (hb4.mono hz1))
  clear hb4
  go_wp2
  go_ret2
  exact TermsPost.err 2 rfl HB2.out

set_option maxRecDepth 100000 in
theorem iMulC_1a (L V : Int) (g1 g2 : Nat) (xs ys : List Tm) (hl1 : xs.length ≤ 1048576) (hl2 : ys.length ≤ 1048576) (hs1 : ∀ i (h : i < xs.length), (xs[i]).s.size ≤ maxLen) (hs2 : ∀ i (h : i < ys.length), (ys[i]).s.size ≤ maxLen) (hg : givB L V xs = false) (w : World) (hb1 : g1 < w.heap.size) (hb2 : g2 < w.heap.size) (t1 : TermsIn w g1 0 xs) (t2 : TermsIn w g2 0 ys) :
    Calls Tryz.prog 31 #[.int .i64 L, .int .i64 V, .slice (some ⟨g1, 0, none⟩) xs.length xs.length, .slice (some ⟨g2, 0, none⟩) ys.length ys.length] w (TermsPost [] 2 w) := by
  have HG := Lib.hid (fun W (hW : Below w.heap.size w W) => areCoordinates_c L V g1 0 xs.length xs hl1 hs1 W (Nat.lt_of_lt_of_le hb1 hW.size) (t1.below hW hb1))
  rw [hg] at HG
  clear t1 t2 hs1 hs2 hg
  go_enter Tryz.func31, Tryz.ntmps31
  go_wp2_with fail
  refine (HG.out _ (Below.refl _ _)).mono ?_
  rintro e w1 ⟨rfl, hb3⟩
  have HB1 := Lib.hid hb3
  have hz1 := hb3.size
  clear hb3
  go_wp2
  go_ret2
  exact TermsPost.err 2 rfl HB1.out

set_option maxRecDepth 100000 in
theorem iMulC_1b (L V : Int) (g1 g2 : Nat) (xs ys : List Tm) (hl1 : xs.length ≤ 1048576) (hl2 : ys.length ≤ 1048576) (hs1 : ∀ i (h : i < xs.length), (xs[i]).s.size ≤ maxLen) (hs2 : ∀ i (h : i < ys.length), (ys[i]).s.size ≤ maxLen) (hg : givB L V xs = true) (hg2 : givB L V ys = false) (w : World) (hb1 : g1 < w.heap.size) (hb2 : g2 < w.heap.size) (t1 : TermsIn w g1 0 xs) (t2 : TermsIn w g2 0 ys) :
    Calls Tryz.prog 31 #[.int .i64 L, .int .i64 V, .slice (some ⟨g1, 0, none⟩) xs.length xs.length, .slice (some ⟨g2, 0, none⟩) ys.length ys.length] w (TermsPost [] 2 w) := by
  have HG := Lib.hid (fun W (hW : Below w.heap.size w W) => areCoordinates_c L V g1 0 xs.length xs hl1 hs1 W (Nat.lt_of_lt_of_le hb1 hW.size) (t1.below hW hb1))
  rw [hg] at HG
  have HG2 := Lib.hid (fun W (hW : Below w.heap.size w W) => areCoordinates_c L V g2 0 ys.length ys hl2 hs2 W (Nat.lt_of_lt_of_le hb2 hW.size) (t2.below hW hb2))
  rw [hg2] at HG2
  clear t1 t2 hs1 hs2 hg hg2
  go_enter Tryz.func31, Tryz.ntmps31
  go_wp2_with fail
  refine (HG.out _ (Below.refl _ _)).mono ?_
  rintro e w1 ⟨rfl, hb3⟩
  have HB1 := Lib.hid hb3
  have hz1 := hb3.size
  clear hb3
  go_wp2_with fail
  refine (HG2.out _ HB1.out).mono ?_
  rintro e w2 ⟨rfl, hb4⟩
  have HB2 := Lib.hid (HB1.out.trans (hb4.mono hz1))
  clear hb4
  go_wp2
  go_ret2
  exact TermsPost.err 2 rfl HB2.out

set_option maxRecDepth 100000 in
set_option maxHeartbeats 4000000 in
theorem sMulC_2 (D N : Nat) (g1 g2 : Nat) (xs ys : List Tm) (hl1 : xs.length ≤ 1048576) (hl2 : ys.length ≤ 1048576) (hs1 : ∀ i (h : i < xs.length), (xs[i]).s.size ≤ maxLen) (hs2 : ∀ i (h : i < ys.length), (ys[i]).s.size ≤ maxLen) (hg1 : givB D N xs = true) (hg2 : givB D N ys = true) (c : Int) (z : List Tm) (hz : MulR (allW D N) xs ys N c z) (w : World) (hb1 : g1 < w.heap.size) (hb2 : g2 < w.heap.size) (t1 : TermsIn w g1 0 xs) (t2 : TermsIn w g2 0 ys) :
    Calls Tryz.prog 30 #[.int .i64 D, .int .i64 N, .slice (some ⟨g1, 0, none⟩) xs.length xs.length, .slice (some ⟨g2, 0, none⟩) ys.length ys.length] w (TermsPost z c w) := by
  have hser := (giv_true hg1).1
  have hsh : shapeB (D : Int) (N : Int) = true := by unfold serB at hser; rw [Bool.and_eq_true] at hser; exact hser.1
  have hDN := shape_out hsh
  have HG1 := Lib.hid (fun W (hW : Below w.heap.size w W) => l06Given_c D N g1 0 xs.length xs hl1 hs1 W (Nat.lt_of_lt_of_le hb1 hW.size) (t1.below hW hb1))
  have HG2 := Lib.hid (fun W (hW : Below w.heap.size w W) => l06Given_c D N g2 0 ys.length ys hl2 hs2 W (Nat.lt_of_lt_of_le hb2 hW.size) (t2.below hW hb2))
  rw [hg1] at HG1
  rw [hg2] at HG2
  have HS1 := Lib.hid (fun W (hW : Below w.heap.size w W) => l06Series_c D N g1 xs hg1 W (Nat.lt_of_lt_of_le hb1 hW.size) (t1.below hW hb1))
  have HS2 := Lib.hid (fun W (hW : Below w.heap.size w W) => l06Series_c D N g2 ys hg2 W (Nat.lt_of_lt_of_le hb2 hW.size) (t2.below hW hb2))
  obtain ⟨o1, ho1⟩ : ∃ o, serW (allW D N) xs = o := ⟨_, rfl⟩
  obtain ⟨o2, ho2⟩ : ∃ o, serW (allW D N) ys = o := ⟨_, rfl⟩
  have HF1 := Lib.hid (fun h (e : o1 = some h) => ser_facts hg1 (ho1.trans e))
  have HF2 := Lib.hid (fun h (e : o2 = some h) => ser_facts hg2 (ho2.trans e))
  have HM := Lib.hid (show mulJ (allW D N) xs ys N = o1.bind fun x => o2.bind fun y => joinV x y (allW D N) N from by unfold mulJ; rw [ho1, ho2])
  have HZ := Lib.hid hz
  have HJo := Lib.hid (fun (x y : VF) (hx : GoodV (allW D N) x) (hy : GoodV (allW D N) y) a1 a2 c1 c2 W r1 r2 => l06Joined_c D N (by omega) (by omega) a1 a2 c1 c2 x y hx hy (termsOf x (allW D N)) (termsOf y (allW D N)) rfl rfl W r1 r2)
  have HCo := Lib.hid (fun (j : VF) (hj : GoodV (allW D N) j) m hm c z hz a cap W r => l06Coordinates_c D N hsh a cap j hj (termsOf j (allW D N)) rfl m hm c z hz W r)
  rw [ho1] at HS1
  rw [ho2] at HS2
  clear t1 t2 hs1 hs2 hg1 hg2 hser hsh ho1 ho2 hz
  go_enter Tryz.func30, Tryz.ntmps30
  go_wp2_with fail
  refine (HG1.out _ (Below.refl _ _)).mono ?_
  rintro e w1 ⟨rfl, hb3⟩
  have HB1 := Lib.hid hb3
  have hz1 := hb3.size
  clear hb3
  go_wp2_with fail
  refine (HG2.out _ HB1.out).mono ?_
  rintro e w2 ⟨rfl, hb4⟩
  have HB2 := Lib.hid (HB1.out.trans (hb4.mono hz1))
  have hz2 := HB2.out.size
  clear hb4
  go_wp2_with fail
  refine (HS1.out _ HB2.out).mono ?_
  intro e w3 hpost
  obtain ⟨X1, Y1, a1, l1, c1, ok1, rfl, hb5, hU1⟩ := SumPost.u hpost
  have HB3 := Lib.hid (HB2.out.trans (hb5.mono hz2))
  have hz3 := HB3.out.size
  have HU1 := Lib.hid hU1
  have hT1 := T3.new w3 X1 Y1 a1 l1 c1 26
  have HT1 := Lib.hid hT1
  clear hb5 hpost hU1 hT1
  go_wp2_with fail
  refine (HS2.out _ (HB3.out.alloc hz3 _)).mono ?_
  intro e w4 hpost
  obtain ⟨X2, Y2, a2, l2, c2, ok2, rfl, hb6, hU2⟩ := SumPost.u hpost
  have hb36 : Below w3.heap.size w3 w4 := (below1 w3 _).trans (hb6.mono (by simp))
  have HB4 := Lib.hid (HB3.out.trans (hb36.mono hz3))
  have hz4 : w3.heap.size + 1 ≤ w4.heap.size := by have := hb6.size; simpa using this
  have HT1b := Lib.hid (HT1.out.next hb6)
  cases o1 with
  | none =>
    obtain ⟨rfl, rfl, rfl, rfl, rfl, rfl⟩ := HU1.out
    rcases HZ.out with ⟨_, rfl, rfl⟩ | ⟨j, hj, _⟩
    · clear hb6 hb36 hpost hU2
      go_wp2
      go_ret2
      refine TermsPost.err 3 rfl ?_
      have hq := HB4.out
      go_grown
      all_goals exact hq.size
    · rw [HM.out] at hj; cases hj
  | some x =>
    obtain ⟨rfl, rfl, rfl, rfl, hN1⟩ := HU1.out
    cases o2 with
    | none =>
      obtain ⟨rfl, rfl, rfl, rfl, rfl, rfl⟩ := hU2
      rcases HZ.out with ⟨_, rfl, rfl⟩ | ⟨j, hj, _⟩
      · clear hb6 hb36 hpost hN1
        go_wp2
        go_ret2
        refine TermsPost.err 3 rfl ?_
        have hq := HB4.out
        go_grown
        all_goals exact hq.size
      · rw [HM.out] at hj; cases hj
    | some y =>
      obtain ⟨rfl, rfl, rfl, rfl, hN2⟩ := hU2
      have hfx := HF1.out x rfl
      have hfy := HF2.out y rfl
      have HR1 := Lib.hid (hN1.row.below hb36)
      have HR2 := Lib.hid hN2.row
      have HT1c := Lib.hid (HT1b.out.alloc (.cells #[.int .i64 D, .int .i64 N, .slice a2 (termsOf y (allW D N)).length c2] 26))
      have HT2 := Lib.hid (T3.new w4 (D : Int) (N : Int) a2 (termsOf y (allW D N)).length c2 26)
      obtain ⟨jj, hjj⟩ : ∃ jj, joinV x y (allW D N) N = jj := ⟨_, rfl⟩
      have HJ := Lib.hid (fun W (hW : Below w4.heap.size w4 W) => HJo.out x y hfx.1 hfy.1 a1 a2 c1 c2 W (HR1.out.below hW) (HR2.out.below hW))
      rw [hjj] at HJ
      have HMj := Lib.hid (show mulJ (allW D N) xs ys N = jj from HM.out.trans hjj)
      have HGj := Lib.hid (fun j (e : jj = some j) => join_good (hjj.trans e))
      obtain ⟨hq1, p0, p1, p2, -, -, -⟩ := id HT1c.out
      obtain ⟨hq2, q0, q1, q2, -, -, -⟩ := id HT2.out
      have hz41 : w3.heap.size < w4.heap.size := by omega
      obtain ⟨lx, hlx⟩ : ∃ lx, (termsOf x (allW D N)).length = lx := ⟨_, rfl⟩
      obtain ⟨ly, hly⟩ : ∃ ly, (termsOf y (allW D N)).length = ly := ⟨_, rfl⟩
      obtain ⟨-, u0, u1, u2, -, -, -⟩ := id HT1b.out
      rw [hlx] at p2 u2 HJ ⊢
      rw [hly] at q2 HJ ⊢
      clear hb6 hb36 hpost hN1 hN2 hfx hfy hjj hlx hly p0 p1 p2 q0 q1 q2
      go_wp2_with fail
      refine (HJ.out _ (below1 w4 _)).mono ?_
      intro e w5 hpost
      obtain ⟨X3, Y3, a3, l3, c3, ok3, rfl, hb7, hU3⟩ := SumPost.u hpost
      have hb47 : Below w4.heap.size w4 w5 := (below1 w4 _).trans (hb7.mono (by simp))
      have HB5 := Lib.hid (HB4.out.trans (hb47.mono (by omega)))
      have hz5 := hb47.size
      clear u0 u1 u2
      cases jj with
      | none =>
        obtain ⟨rfl, rfl, rfl, rfl, rfl, rfl⟩ := hU3
        rcases HZ.out with ⟨_, rfl, rfl⟩ | ⟨j, hj, _⟩
        · clear hb7 hb47 hpost
          go_wp2
          go_ret2
          refine TermsPost.err 3 rfl ?_
          have hq := HB5.out
          go_grown
          all_goals exact hq.size
        · rw [HMj.out] at hj; cases hj
      | some j =>
        obtain ⟨rfl, rfl, rfl, rfl, hN3⟩ := hU3
        obtain ⟨m, hm, hlr⟩ : ∃ m, m ≤ 121 ∧ LieR (allW D N) m j [] c z := by
          rcases HZ.out with ⟨h, _⟩ | ⟨j', hj, h⟩
          · rw [HMj.out] at h; cases h
          · rw [HMj.out] at hj
            injection hj with hj
            rw [← hj] at h
            exact h
        have HR3 := Lib.hid hN3.row
        have HC := Lib.hid (fun W (hW : Below w5.heap.size w5 W) => HCo.out j (HGj.out j rfl) m hm c z hlr a3 c3 W (HR3.out.below hW))
        clear hb7 hb47 hpost hN3 hlr
        go_wp2_with fail
        refine (HC.out _ (below1 w5 _)).mono ?_
        rintro e w6 ⟨aZ, cZ, rfl, hb8, hN8⟩
        have hb58 : Below w5.heap.size w5 w6 := (below1 w5 _).trans (hb8.mono (by simp))
        have HB6 := Lib.hid (HB5.out.trans (hb58.mono HB5.out.size))
        have HN6 := Lib.hid (hN8.mono (lo' := w.heap.size) (by have := HB5.out.size; simp; omega) (Nat.le_refl _))
        clear hb8 hb58 hN8
        go_wp2
        go_ret2
        exact ⟨aZ, cZ, rfl, HB6.out, HN6.out⟩

set_option maxRecDepth 100000 in
set_option maxHeartbeats 4000000 in
theorem iMulC_2 (D N : Nat) (g1 g2 : Nat) (xs ys : List Tm) (hl1 : xs.length ≤ 1048576) (hl2 : ys.length ≤ 1048576) (hs1 : ∀ i (h : i < xs.length), (xs[i]).s.size ≤ maxLen) (hs2 : ∀ i (h : i < ys.length), (ys[i]).s.size ≤ maxLen) (hg1 : givB D N xs = true) (hg2 : givB D N ys = true) (c : Int) (z : List Tm) (hz : MulR (allW D N) xs ys N c z) (w : World) (hb1 : g1 < w.heap.size) (hb2 : g2 < w.heap.size) (t1 : TermsIn w g1 0 xs) (t2 : TermsIn w g2 0 ys) :
    Calls Tryz.prog 31 #[.int .i64 D, .int .i64 N, .slice (some ⟨g1, 0, none⟩) xs.length xs.length, .slice (some ⟨g2, 0, none⟩) ys.length ys.length] w (TermsPost z c w) := by
  have hser := (giv_true hg1).1
  have hsh : shapeB (D : Int) (N : Int) = true := by unfold serB at hser; rw [Bool.and_eq_true] at hser; exact hser.1
  have hDN := shape_out hsh
  have HG1 := Lib.hid (fun W (hW : Below w.heap.size w W) => areCoordinates_c D N g1 0 xs.length xs hl1 hs1 W (Nat.lt_of_lt_of_le hb1 hW.size) (t1.below hW hb1))
  have HG2 := Lib.hid (fun W (hW : Below w.heap.size w W) => areCoordinates_c D N g2 0 ys.length ys hl2 hs2 W (Nat.lt_of_lt_of_le hb2 hW.size) (t2.below hW hb2))
  rw [hg1] at HG1
  rw [hg2] at HG2
  have HS1 := Lib.hid (fun W (hW : Below w.heap.size w W) => iCrd_2 D N g1 xs hl1 hs1 hg1 W (Nat.lt_of_lt_of_le hb1 hW.size) (t1.below hW hb1))
  have HS2 := Lib.hid (fun W (hW : Below w.heap.size w W) => iCrd_2 D N g2 ys hl2 hs2 hg2 W (Nat.lt_of_lt_of_le hb2 hW.size) (t2.below hW hb2))
  obtain ⟨o1, ho1⟩ : ∃ o, serW (allW D N) xs = o := ⟨_, rfl⟩
  obtain ⟨o2, ho2⟩ : ∃ o, serW (allW D N) ys = o := ⟨_, rfl⟩
  have HF1 := Lib.hid (fun h (e : o1 = some h) => ser_facts hg1 (ho1.trans e))
  have HF2 := Lib.hid (fun h (e : o2 = some h) => ser_facts hg2 (ho2.trans e))
  have HM := Lib.hid (show mulJ (allW D N) xs ys N = o1.bind fun x => o2.bind fun y => joinV x y (allW D N) N from by unfold mulJ; rw [ho1, ho2])
  have HZ := Lib.hid hz
  have HJo := Lib.hid (fun (x y : VF) (e1 : o1 = some x) (e2 : o2 = some y) (r : Option VF) (er : joinV x y (allW D N) N = r) a1 a2 c1 c2 W (r1 : Row W a1 (termsOf x (allW D N))) (r2 : Row W a2 (termsOf y (allW D N))) => show Calls Tryz.prog 59 #[.agg #[.int .i64 D, .int .i64 N, .slice a1 (termsOf x (allW D N)).length c1], .agg #[.int .i64 D, .int .i64 N, .slice a2 (termsOf y (allW D N)).length c2]] W (FitB D N r W) from by
    obtain ⟨k1, k2, k3, k4, k5, k6⟩ := ser_facts hg1 (ho1.trans e1)
    obtain ⟨j1, j2, j3, j4, j5, j6⟩ := ser_facts hg2 (ho2.trans e2)
    cases r with
    | none => exact iJoiR_no D N a1 a2 c1 c2 _ _ k5 j5 k6 j6 k2 j2 0 1 0 1 k3 j3 ⟨rfl, rfl⟩ (by rw [k4, j4]; exact er) W r1 r2
    | some j => exact iJoiR_yes D N a1 a2 c1 c2 _ _ k5 j5 k6 j6 k2 j2 0 1 0 1 k3 j3 ⟨rfl, rfl⟩ j (by rw [k4, j4]; exact er) W r1 r2)
  have HCo := Lib.hid (fun (j : VF) (hj : GoodV (allW D N) j) m hm c z hz a cap W (r : Row W a (termsOf j (allW D N))) => show Calls Tryz.prog 22 #[.agg #[.int .i64 D, .int .i64 N, .slice a (termsOf j (allW D N)).length cap]] W (TermsPost z c W) from iLie_g D N hsh a cap j hj m hm c z hz W r (fun W2 hW2 => by
    have hfew := allW_few (D := D) (by omega) (n := N) (by omega)
    have h := iIs_row D N a cap (termsOf j (allW D N)) (by have := termsOf_len j (allW D N); omega) (fun i hi => by
      have := allW_size D N _ (termsOf_iff.1 (List.getElem_mem hi)).1
      unfold maxLen; omega) W2 (r.below hW2)
    rw [ser_terms hsh hj] at h
    exact h))
  rw [ho1] at HS1
  rw [ho2] at HS2
  clear t1 t2 hs1 hs2 hg1 hg2 hser hsh ho1 ho2 hz
  go_enter Tryz.func31, Tryz.ntmps31
  go_wp2_with fail
  refine (HG1.out _ (Below.refl _ _)).mono ?_
  rintro e w1 ⟨rfl, hb3⟩
  have HB1 := Lib.hid hb3
  have hz1 := hb3.size
  clear hb3
  go_wp2_with fail
  refine (HG2.out _ HB1.out).mono ?_
  rintro e w2 ⟨rfl, hb4⟩
  have HB2 := Lib.hid (HB1.out.trans (hb4.mono hz1))
  have hz2 := HB2.out.size
  clear hb4
  go_wp2_with fail
  refine (HS1.out _ HB2.out).mono ?_
  cases o1 with
  | none =>
    rintro e w3 ⟨a1, c1, rfl, hb5, hN1⟩
    rcases HZ.out with ⟨_, rfl, rfl⟩ | ⟨j, hj, _⟩
    · have HB3 := Lib.hid (HB2.out.trans (hb5.mono hz2))
      clear hb5 hN1
      go_wp2
      go_ret2
      refine TermsPost.err 3 rfl ?_
      have hq := HB3.out
      go_grown
      all_goals exact hq.size
    · rw [HM.out] at hj; cases hj
  | some x =>
    rintro e w3 ⟨a1, c1, rfl, hb5, hN1⟩
    have HB3 := Lib.hid (HB2.out.trans (hb5.mono hz2))
    have hz3 := HB3.out.size
    have HR1 := Lib.hid hN1.row
    have HT1 := Lib.hid (T3.new w3 (D : Int) (N : Int) a1 (termsOf x (allW D N)).length c1 26)
    obtain ⟨lx, hlx⟩ : ∃ lx, (termsOf x (allW D N)).length = lx := ⟨_, rfl⟩
    have HLx := Lib.hid hlx
    rw [hlx] at HT1 ⊢
    clear hb5 hN1 hlx
    go_wp2_with fail
    refine (HS2.out _ (HB3.out.alloc hz3 _)).mono ?_
    cases o2 with
    | none =>
      rintro e w4 ⟨a2, c2, rfl, hb6, hN2⟩
      have hb36 : Below w3.heap.size w3 w4 := (below1 w3 _).trans (hb6.mono (by simp))
      have HB4 := Lib.hid (HB3.out.trans (hb36.mono hz3))
      rcases HZ.out with ⟨_, rfl, rfl⟩ | ⟨j, hj, _⟩
      · clear hb6 hb36 hN2
        go_wp2
        go_ret2
        refine TermsPost.err 3 rfl ?_
        have hq := HB4.out
        go_grown
        all_goals exact hq.size
      · rw [HM.out] at hj; cases hj
    | some y =>
      rintro e w4 ⟨a2, c2, rfl, hb6, hN2⟩
      have hb36 : Below w3.heap.size w3 w4 := (below1 w3 _).trans (hb6.mono (by simp))
      have HB4 := Lib.hid (HB3.out.trans (hb36.mono hz3))
      have hz4 : w3.heap.size + 1 ≤ w4.heap.size := by have := hb6.size; simpa using this
      have HR1b := Lib.hid (HR1.out.below hb36)
      have HR2 := Lib.hid hN2.row
      have HT1b := Lib.hid (HT1.out.next hb6)
      obtain ⟨jj, hjj⟩ : ∃ jj, joinV x y (allW D N) N = jj := ⟨_, rfl⟩
      have HJ := Lib.hid (fun W (hW : Below w4.heap.size w4 W) => HJo.out x y rfl rfl jj hjj a1 a2 c1 c2 W (HR1b.out.below hW) (HR2.out.below hW))
      have HMj := Lib.hid (show mulJ (allW D N) xs ys N = jj from HM.out.trans hjj)
      have HGj := Lib.hid (fun j (e : jj = some j) => join_good (hjj.trans e))
      obtain ⟨ly, hly⟩ : ∃ ly, (termsOf y (allW D N)).length = ly := ⟨_, rfl⟩
      obtain ⟨hq1, u0, u1, u2, -, -, -⟩ := id HT1b.out
      rw [HLx.out, hly] at HJ
      rw [hly]
      clear hb6 hb36 hN2 hjj hly
      go_wp2_with fail
      refine (HJ.out _ (below1 w4 _)).mono ?_
      clear u0 u1 u2
      cases jj with
      | none =>
        rintro e w5 ⟨a3, c3, rfl, hb7, hN3⟩
        have hb47 : Below w4.heap.size w4 w5 := (below1 w4 _).trans (hb7.mono (by simp))
        have HB5 := Lib.hid (HB4.out.trans (hb47.mono (by omega)))
        rcases HZ.out with ⟨_, rfl, rfl⟩ | ⟨j, hj, _⟩
        · clear hb7 hb47 hN3
          go_wp2
          go_ret2
          refine TermsPost.err 3 rfl ?_
          have hq := HB5.out
          go_grown
          all_goals exact hq.size
        · rw [HMj.out] at hj; cases hj
      | some j =>
        rintro e w5 ⟨a3, c3, rfl, hb7, hN3⟩
        have hb47 : Below w4.heap.size w4 w5 := (below1 w4 _).trans (hb7.mono (by simp))
        have HB5 := Lib.hid (HB4.out.trans (hb47.mono (by omega)))
        obtain ⟨m, hm, hlr⟩ : ∃ m, m ≤ 121 ∧ LieR (allW D N) m j [] c z := by
          rcases HZ.out with ⟨h, _⟩ | ⟨j', hj, h⟩
          · rw [HMj.out] at h; cases h
          · rw [HMj.out] at hj
            injection hj with hj
            rw [← hj] at h
            exact h
        have HR3 := Lib.hid hN3.row
        have HC := Lib.hid (fun W (hW : Below w5.heap.size w5 W) => HCo.out j (HGj.out j rfl) m hm c z hlr a3 c3 W (HR3.out.below hW))
        clear hb7 hb47 hN3 hlr
        go_wp2_with fail
        refine (HC.out _ (below1 w5 _)).mono ?_
        rintro e w6 ⟨aZ, cZ, rfl, hb8, hN8⟩
        have hb58 : Below w5.heap.size w5 w6 := (below1 w5 _).trans (hb8.mono (by simp))
        have HB6 := Lib.hid (HB5.out.trans (hb58.mono HB5.out.size))
        have HN6 := Lib.hid (hN8.mono (lo' := w.heap.size) (by have := HB5.out.size; simp; omega) (Nat.le_refl _))
        clear hb8 hb58 hN8
        go_wp2
        go_ret2
        exact ⟨aZ, cZ, rfl, HB6.out, HN6.out⟩
end Go.Proofs.YtgcjpenlcokgjaaGreatDoor
