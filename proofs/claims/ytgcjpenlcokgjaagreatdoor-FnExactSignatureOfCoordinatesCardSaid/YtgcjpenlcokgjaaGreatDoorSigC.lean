/-
  Contracts of SignatureOfCoordinates, of the program and of its model.
-/
import Derived.Test.YtgcjpenlcokgjaaGreatDoorCrdJ
import Derived.Test.YtgcjpenlcokgjaaGreatDoorLieJ
import Derived.Test.YtgcjpenlcokgjaaGreatDoorExpSer
namespace Go.Proofs.YtgcjpenlcokgjaaGreatDoor
open Go.RowKit
set_option linter.unusedVariables false
set_option linter.unusedSimpArgs false

/-- what coordinates come to: the exponential of their series -/
noncomputable def sgcW (ws : List ByteArray) (ts : List Tm) (N : Nat) : Option VF := (serW ws ts).bind fun h => expV h ws N
theorem ser_empty {D N : Nat} (hD : D ≤ 3) (hN : N ≤ 5) (hDN : D < 3 ∨ N ≤ 4) {ts : List Tm} (hm : ∀ t ∈ ts, t.s ∈ allW D N ∧ lynB t.s = true) : ∀ {k : Nat} {h : VF}, serTo (allW D N) ts k = some h → h ByteArray.empty = none
  | 0, h, e => by
    injection e with e
    subst e
    rfl
  | k + 1, h, e => by
    rw [serTo] at e
    obtain ⟨f, h1, h2⟩ := Option.bind_eq_some_iff.1 e
    have ih := ser_empty hD hN hDN hm h1
    cases ht : ts[k]? with
    | none =>
      rw [ht] at h2
      injection h2 with h2
      rw [← h2]; exact ih
    | some t =>
      rw [ht] at h2
      have htm := hm t (List.mem_of_getElem? ht)
      simp only [sumOne] at h2
      obtain ⟨g, h3, h4⟩ := Option.bind_eq_some_iff.1 h2
      have hl := bW_led hD hN hDN htm.1 htm.2 h3
      have hg : g ByteArray.empty = none := by
        cases hg : g ByteArray.empty with
        | none => rfl
        | some x =>
          have h5 := (hl.2 _ _ hg).1
          have h6 := (lynB_true htm.2).1
          have h7 : ByteArray.empty.size = 0 := rfl
          omega
      rw [addK_same hg h4]; exact ih
section
variable (D N : Nat) (g : Nat) (ts : List Tm) (hl : ts.length ≤ 1048576) (hs : ∀ i (h : i < ts.length), (ts[i]).s.size ≤ maxLen)
include hl hs
set_option maxRecDepth 100000 in
theorem sSgc_1 (L V : Int) (hg : givB L V ts = false) (w : World) (hb : g < w.heap.size) (ht : TermsIn w g 0 ts) :
    Calls Tryz.prog 17 #[.int .i64 L, .int .i64 V, .slice (some ⟨g, 0, none⟩) ts.length ts.length] w (SerPost 0 0 [] 2 w) := by
  have HG := Lib.hid (fun W (hW : Below w.heap.size w W) => sCrd_1 L V g ts hl hs hg W (Nat.lt_of_lt_of_le hb hW.size) (ht.below hW hb))
  clear ht hs hg
  go_enter Tryz.func17, Tryz.ntmps17
  go_wp2_with fail
  refine (HG.out _ (below1 w _)).mono ?_
  rintro e w1 ⟨a1, c1, rfl, hb1, hN1⟩
  have HT1 := Lib.hid ((T3.new w 0 0 none 0 0 26).next hb1)
  have HB1 := Lib.hid ((below1 w (.cells #[.int .i64 0, .int .i64 0, .slice none 0 0] 26)).trans (hb1.mono (by simp)))
  clear hb1 hN1
  obtain ⟨hq, r0, r1, r2, z0, z1, z2⟩ := id HT1.out
  go_wp2
  refine bodyPost_ret (v := .tuple #[.agg #[.int .i64 0, .int .i64 0, .slice none 0 0], .int .i64 2]) (by simp [results, Tryz.results17, go_sem, r0, r1, r2, hq]) rfl (SerPost.err 2 rfl ?_)
  have hW := HB1.out
  go_grown
set_option maxRecDepth 100000 in
theorem iSgc_1 (L V : Int) (hg : givB L V ts = false) (w : World) (hb : g < w.heap.size) (ht : TermsIn w g 0 ts) :
    Calls Tryz.prog 18 #[.int .i64 L, .int .i64 V, .slice (some ⟨g, 0, none⟩) ts.length ts.length] w (SerPost 0 0 [] 2 w) := by
  have HG := Lib.hid (fun W (hW : Below w.heap.size w W) => iCrd_1 L V g ts hl hs hg W (Nat.lt_of_lt_of_le hb hW.size) (ht.below hW hb))
  clear ht hs hg
  go_enter Tryz.func18, Tryz.ntmps18
  go_wp2_with fail
  refine (HG.out _ (below1 w _)).mono ?_
  rintro e w1 ⟨a1, c1, rfl, hb1, hN1⟩
  have HT1 := Lib.hid ((T3.new w 0 0 none 0 0 26).next hb1)
  have HB1 := Lib.hid ((below1 w (.cells #[.int .i64 0, .int .i64 0, .slice none 0 0] 26)).trans (hb1.mono (by simp)))
  clear hb1 hN1
  obtain ⟨hq, r0, r1, r2, z0, z1, z2⟩ := id HT1.out
  go_wp2
  refine bodyPost_ret (v := .tuple #[.agg #[.int .i64 0, .int .i64 0, .slice none 0 0], .int .i64 2]) (by simp [results, Tryz.results18, go_sem, r0, r1, r2, hq]) rfl (SerPost.err 2 rfl ?_)
  have hW := HB1.out
  go_grown
variable (hg : givB D N ts = true) (w : World) (hb : g < w.heap.size) (ht : TermsIn w g 0 ts)
include hg hb ht
set_option maxRecDepth 100000 in
set_option maxHeartbeats 4000000 in
theorem sSgc_2 : Calls Tryz.prog 17 #[.int .i64 D, .int .i64 N, .slice (some ⟨g, 0, none⟩) ts.length ts.length] w (FitB D N (sgcW (allW D N) ts N) w) := by
  have hser := (giv_true hg).1
  have hsh : shapeB (D : Int) (N : Int) = true := by unfold serB at hser; rw [Bool.and_eq_true] at hser; exact hser.1
  have hDN := shape_out hsh
  have HG := Lib.hid (fun W (hW : Below w.heap.size w W) => sCrd_2 D N g ts hl hs hg W (Nat.lt_of_lt_of_le hb hW.size) (ht.below hW hb))
  obtain ⟨o, ho⟩ : ∃ o, serW (allW D N) ts = o := ⟨_, rfl⟩
  have HGood := Lib.hid (fun h (e : o = some h) => show GoodV (allW D N) h from ser_good (ho.trans e))
  have HSg := Lib.hid (show sgcW (allW D N) ts N = o.bind fun h => expV h (allW D N) N from by unfold sgcW; rw [ho])
  have HEx := Lib.hid (fun (y : VF) (hy : GoodV (allW D N) y) a c W hr => l02Exp_c D N (by omega) (by omega) a c y hy (termsOf y (allW D N)) rfl W hr)
  rw [ho] at HG
  rw [HSg.out]
  clear ht hs hg hser hsh ho
  go_enter Tryz.func17, Tryz.ntmps17
  go_wp2_with fail
  refine (HG.out _ (below1 w _)).mono ?_
  cases o with
  | none =>
    rintro e w1 ⟨a1, c1, rfl, hb1, hN1⟩
    have HT1 := Lib.hid ((T3.new w 0 0 none 0 0 26).next hb1)
    have HB1 := Lib.hid ((below1 w (.cells #[.int .i64 0, .int .i64 0, .slice none 0 0] 26)).trans (hb1.mono (by simp)))
    clear hb1 hN1
    obtain ⟨hq, r0, r1, r2, z0, z1, z2⟩ := id HT1.out
    go_wp2
    refine bodyPost_ret (v := .tuple #[.agg #[.int .i64 0, .int .i64 0, .slice none 0 0], .int .i64 3]) (by simp [results, Tryz.results17, go_sem, r0, r1, r2, hq]) rfl (SerPost.err 3 rfl ?_)
    have hW := HB1.out
    go_grown
  | some h =>
    rintro e w1 ⟨a1, c1, rfl, hb1, hN1⟩
    have HT1 := Lib.hid ((T3.new w 0 0 none 0 0 26).next hb1)
    have HB1 := Lib.hid ((below1 w (.cells #[.int .i64 0, .int .i64 0, .slice none 0 0] 26)).trans (hb1.mono (by simp)))
    have HR1 := Lib.hid hN1.row
    have hz1 := hb1.size
    simp only [World.size_alloc] at hz1
    clear hb1 hN1
    obtain ⟨rr, hrr⟩ : ∃ rr, expV h (allW D N) N = rr := ⟨_, rfl⟩
    have HRr := Lib.hid hrr
    have HEx2 := Lib.hid (fun W (hW : Below w1.heap.size w1 W) => HEx.out h (HGood.out h rfl) a1 c1 W (HR1.out.below hW))
    rw [hrr] at HEx2
    clear hrr
    go_wp2_with fail
    refine (HEx2.out _ (below1 w1 _)).mono ?_
    intro e w3 hpost
    obtain ⟨X5, Y5, a5, l5, c5, ok5, rfl, hb3, hU5⟩ := SumPost.u hpost
    have hb13 : Below w1.heap.size w1 w3 := (below1 w1 _).trans (hb3.mono (by simp))
    have HT3 := Lib.hid (HT1.out.next hb13)
    have HB3 := Lib.hid (HB1.out.trans (hb13.mono (by omega)))
    have hz3 : w1.heap.size + 1 ≤ w3.heap.size := by have := hb3.size; simpa using this
    cases rr with
    | none =>
      obtain ⟨rfl, rfl, rfl, rfl, rfl, rfl⟩ := hU5
      clear hb3 hb13 hpost
      obtain ⟨hq, r0, r1, r2, z0, z1, z2⟩ := id HT3.out
      go_wp2
      simp only [Option.bind_some, HRr.out]
      refine bodyPost_ret (v := .tuple #[.agg #[.int .i64 0, .int .i64 0, .slice none 0 0], .int .i64 3]) (by simp [results, Tryz.results17, go_sem, r0, r1, r2, hq]) rfl (SerPost.err 3 rfl ?_)
      have hW := HB3.out
      go_grown
    | some k =>
      obtain ⟨rfl, rfl, rfl, rfl, hN5⟩ := hU5
      have HN5 := Lib.hid (hN5.mono (lo' := w1.heap.size + 1) (by simp) (Nat.le_refl _))
      clear hb3 hb13 hpost hN5
      obtain ⟨hq, r0, r1, r2, z0, z1, z2⟩ := id HT3.out
      go_wp2
      simp only [Option.bind_some, HRr.out]
      refine bodyPost_ret (v := .tuple #[.agg #[.int .i64 D, .int .i64 N, .slice a5 (termsOf k (allW D N)).length c5], .int .i64 0]) (by simp [results, Tryz.results17, go_sem, r0, r1, r2, hq]) rfl ⟨a5, c5, rfl, ?_, ?_⟩
      · have hW := HB3.out
        go_grown
      · first
          | exact (((HN5.out.far1s (by omega)).far1s (by omega)).far1s (by omega)).mono (by omega) (by simp)
          | exact ((((HN5.out.far1s (by omega)).far1s (by omega)).far1s (by omega)).below (below1 _ _) (by simp)).mono (by omega) (by simp)
set_option maxRecDepth 100000 in
set_option maxHeartbeats 4000000 in
theorem iSgc_2 : Calls Tryz.prog 18 #[.int .i64 D, .int .i64 N, .slice (some ⟨g, 0, none⟩) ts.length ts.length] w (FitB D N (sgcW (allW D N) ts N) w) := by
  have hser := (giv_true hg).1
  have hsh : shapeB (D : Int) (N : Int) = true := by unfold serB at hser; rw [Bool.and_eq_true] at hser; exact hser.1
  have hDN := shape_out hsh
  have hfew := allW_few (D := D) (by omega) (n := N) (by omega)
  have HG := Lib.hid (fun W (hW : Below w.heap.size w W) => iCrd_2 D N g ts hl hs hg W (Nat.lt_of_lt_of_le hb hW.size) (ht.below hW hb))
  obtain ⟨o, ho⟩ : ∃ o, serW (allW D N) ts = o := ⟨_, rfl⟩
  have hmem : ∀ t ∈ ts, t.s ∈ allW D N ∧ lynB t.s = true := fun t ht => by
    have h1 := (good_valV hser).2
    have h2 : t ∈ termsOf (valV ts ts.length) (allW D N) := by rw [h1]; exact ht
    exact ⟨(termsOf_iff.1 h2).1, (giv_true hg).2 t ht⟩
  have HSg := Lib.hid (show sgcW (allW D N) ts N = o.bind fun h => expV h (allW D N) N from by unfold sgcW; rw [ho])
  have HEx := Lib.hid (fun (h : VF) (e : o = some h) (r : Option VF) (er : expV h (allW D N) N = r) a c W (hr : Row W a (termsOf h (allW D N))) => show Calls Tryz.prog 46 #[.agg #[.int .i64 D, .int .i64 N, .slice a (termsOf h (allW D N)).length c]] W (FitB D N r W) from by
    have hgd : GoodV (allW D N) h := ser_good (ho.trans e)
    have hsr := ser_terms hsh hgd
    have hvv := valV_terms hsh hgd
    have hem : h ByteArray.empty = none := ser_empty (by omega) (by omega) (by omega) hmem (ho.trans e)
    have hvl : valL [] (termsOf h (allW D N)) = (0, 1) := by
      have h3 := valL_termsOf (allW_asc (D := D) (by omega) N) hgd ByteArray.empty
      rw [valF_none hem] at h3
      exact h3
    have hlen := termsOf_len h (allW D N)
    have hsz : ∀ i (hi : i < (termsOf h (allW D N)).length), ((termsOf h (allW D N))[i]).s.size ≤ maxLen := fun i hi => by
      have := allW_size D N _ (termsOf_iff.1 (List.getElem_mem hi)).1
      unfold maxLen; omega
    cases r with
    | none => exact iExpR_no D N 0 1 a c (termsOf h (allW D N)) (by omega) hsz hsr hvl rfl (by rw [hvv]; exact er) W hr
    | some k => exact iExpR_yes D N 0 1 a c (termsOf h (allW D N)) (by omega) hsz hsr hvl rfl k (by rw [hvv]; exact er) W hr)
  rw [ho] at HG
  rw [HSg.out]
  clear ht hs hg hser hsh ho hmem
  go_enter Tryz.func18, Tryz.ntmps18
  go_wp2_with fail
  refine (HG.out _ (below1 w _)).mono ?_
  cases o with
  | none =>
    rintro e w1 ⟨a1, c1, rfl, hb1, hN1⟩
    have HT1 := Lib.hid ((T3.new w 0 0 none 0 0 26).next hb1)
    have HB1 := Lib.hid ((below1 w (.cells #[.int .i64 0, .int .i64 0, .slice none 0 0] 26)).trans (hb1.mono (by simp)))
    clear hb1 hN1
    obtain ⟨hq, r0, r1, r2, z0, z1, z2⟩ := id HT1.out
    go_wp2
    refine bodyPost_ret (v := .tuple #[.agg #[.int .i64 0, .int .i64 0, .slice none 0 0], .int .i64 3]) (by simp [results, Tryz.results18, go_sem, r0, r1, r2, hq]) rfl (SerPost.err 3 rfl ?_)
    have hW := HB1.out
    go_grown
  | some h =>
    rintro e w1 ⟨a1, c1, rfl, hb1, hN1⟩
    have HT1 := Lib.hid ((T3.new w 0 0 none 0 0 26).next hb1)
    have HB1 := Lib.hid ((below1 w (.cells #[.int .i64 0, .int .i64 0, .slice none 0 0] 26)).trans (hb1.mono (by simp)))
    have HR1 := Lib.hid hN1.row
    have hz1 := hb1.size
    simp only [World.size_alloc] at hz1
    clear hb1 hN1
    obtain ⟨rr, hrr⟩ : ∃ rr, expV h (allW D N) N = rr := ⟨_, rfl⟩
    have HRr := Lib.hid hrr
    have HEx2 := Lib.hid (fun W (hW : Below w1.heap.size w1 W) => HEx.out h rfl rr hrr a1 c1 W (HR1.out.below hW))
    clear hrr
    go_wp2_with fail
    refine (HEx2.out _ (below1 w1 _)).mono ?_
    cases rr with
    | none =>
      rintro e w3 ⟨a5, c5, rfl, hb3, hN5⟩
      have hb13 : Below w1.heap.size w1 w3 := (below1 w1 _).trans (hb3.mono (by simp))
      have HT3 := Lib.hid (HT1.out.next hb13)
      have HB3 := Lib.hid (HB1.out.trans (hb13.mono (by omega)))
      clear hb3 hb13
      obtain ⟨hq, r0, r1, r2, z0, z1, z2⟩ := id HT3.out
      go_wp2
      simp only [Option.bind_some, HRr.out]
      refine bodyPost_ret (v := .tuple #[.agg #[.int .i64 0, .int .i64 0, .slice a5 0 c5], .int .i64 3]) (by simp [results, Tryz.results18, go_sem, r0, r1, r2]) rfl ⟨a5, c5, rfl, ?_, .inl rfl⟩
      have hW := HB3.out
      go_grown
    | some k =>
      rintro e w3 ⟨a5, c5, rfl, hb3, hN5⟩
      have hb13 : Below w1.heap.size w1 w3 := (below1 w1 _).trans (hb3.mono (by simp))
      have HT3 := Lib.hid (HT1.out.next hb13)
      have HB3 := Lib.hid (HB1.out.trans (hb13.mono (by omega)))
      have hz3 : w1.heap.size + 1 ≤ w3.heap.size := by have := hb3.size; simpa using this
      have HN5 := Lib.hid (hN5.mono (lo' := w1.heap.size + 1) (by simp) (Nat.le_refl _))
      clear hb3 hb13 hN5
      obtain ⟨hq, r0, r1, r2, z0, z1, z2⟩ := id HT3.out
      go_wp2
      simp only [Option.bind_some, HRr.out]
      refine bodyPost_ret (v := .tuple #[.agg #[.int .i64 D, .int .i64 N, .slice a5 (termsOf k (allW D N)).length c5], .int .i64 0]) (by simp [results, Tryz.results18, go_sem, r0, r1, r2, hq]) rfl ⟨a5, c5, rfl, ?_, ?_⟩
      · have hW := HB3.out
        go_grown
      · first
          | exact (((HN5.out.far1s (by omega)).far1s (by omega)).far1s (by omega)).mono (by omega) (by simp)
          | exact ((((HN5.out.far1s (by omega)).far1s (by omega)).far1s (by omega)).below (below1 _ _) (by simp)).mono (by omega) (by simp)
end
end Go.Proofs.YtgcjpenlcokgjaaGreatDoor
