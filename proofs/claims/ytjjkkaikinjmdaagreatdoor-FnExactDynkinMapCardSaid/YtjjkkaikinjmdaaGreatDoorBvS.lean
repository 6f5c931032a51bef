/-
  The model's brackets of words: of Lyndon words, and from the left.
-/
import Derived.Test.YtjjkkaikinjmdaaGreatDoorBvM
import Derived.Test.YtjjkkaikinjmdaaGreatDoorLtS
import Derived.Test.YtjjkkaikinjmdaaGreatDoorTri
import Derived.Test.YtjjkkaikinjmdaaGreatDoorUnitS
import Derived.Deep.RegionHeld3
import Derived.Deep.RegionLaw
namespace Go.Proofs.YtjjkkaikinjmdaaGreatDoor
open Go.RowKit

theorem l06Lyndon_c (s : ByteArray) (hs : s.size ≤ maxLen) (w : World) :
    Calls Tryz.prog 53 #[.string s] w fun e w' => e = .returned (.bool (lynB s)) ∧ w = w' := by
  unfold maxLen at hs
  go_enter Tryz.func53, Tryz.ntmps53
  go_wp2
  go_loop [3] (fun i => ∃ k : Nat, 1 ≤ k ∧ (k ≤ s.size ∨ k = 1) ∧ i = .int .i64 k ∧ lynTo s k = true) (fun i => s.size - (intOf i).toNat)
  case atStart => exact ⟨1, Nat.le_refl _, .inr rfl, rfl, lynTo_one s⟩
  case round =>
    obtain ⟨k, hk1, hk, rfl, hw⟩ := hrel
    have Hw := Lib.hid hw
    clear hw
    by_cases hlt : k < s.size
    · cases hl : Op.bytesLess s.toList (s.extract k s.size).toList with
      | true =>
        have HN := Lib.hid (lynTo_succ Hw.out hl)
        obtain ⟨ha, hb⟩ := lt_yes (s := s) (t := s.extract k s.size) hl
        clear hl
        go_wp2
        go_round
        case rel => exact ⟨k + 1, by omega, by omega, by go_num, HN.out⟩
        case measure => simp [intOf]; omega
      | false =>
        have HN := Lib.hid (lynB_no hk1 hlt hl)
        rcases lt_no (s := s) (t := s.extract k s.size) hl with ha | ⟨ha, hb⟩
        · clear hl
          go_wp2
          go_ret
          exact ⟨ret_bool HN.out.symm, rfl⟩
        · clear hl
          go_wp2
          go_ret
          exact ⟨ret_bool HN.out.symm, rfl⟩
    · by_cases h0 : 0 < s.size
      · have HN := Lib.hid (lynB_yes h0 (by have e := Hw.out; rwa [show k = s.size from by omega] at e))
        go_wp2
        go_ret
        exact ⟨ret_bool HN.out.symm, rfl⟩
      · have HN := Lib.hid (lynB_empty (s := s) (by omega))
        go_wp2
        go_ret
        exact ⟨ret_bool HN.out.symm, rfl⟩

/-- where a letter's variable stands behind its append -/
def LCut (B : Nat) (W0 : World) (s : ByteArray) (n : Nat) (L V : Int) (wy : World) : Prop :=
  ∃ gq G : Nat, n < wy.heap.size ∧ Below B W0 wy ∧ wy.cell? ⟨n, 0, none⟩ = some (.int .i64 L) ∧ wy.cell? ⟨n, 1, none⟩ = some (.int .i64 V) ∧ wy.cell? ⟨n, 2, none⟩ = some (.slice (some ⟨gq, 0, none⟩) 1 G) ∧
    NewRow B wy.heap.size wy (some ⟨gq, 0, none⟩) [⟨s, 1, 1⟩]
set_option maxRecDepth 100000 in
set_option maxHeartbeats 4000000 in
theorem l06Letter_c (L V : Int) (s : ByteArray) (a : Option Addr) (n c : Nat) (w : World) :
    Calls Tryz.prog 73 #[.agg #[.int .i64 L, .int .i64 V, .slice a n c], .string s] w (SerOnly L V [⟨s, 1, 1⟩] w) := by
  obtain ⟨i0, hi0, hi1, hi2, hi3⟩ := info_parts info_term
  go_enter Tryz.func73, Tryz.ntmps73
  go_wp2_with fail
  refine (l01Empty_c L V _ rfl _).mono ?_
  rintro e w1 ⟨g1, rfl, hO, hb1⟩
  have hz1 : w.heap.size + 1 < w1.heap.size := by have := hb1.size; have := (hO.lt g1 rfl).1; have := (hO.lt g1 rfl).2; simp at *; omega
  have HO := Lib.hid (show OwnT w1 (w.heap.size + 1 + 1) (.slice (some ⟨g1, 0, none⟩) 0 0) [] from by simpa using hO)
  have HB := Lib.hid (show Below (w.heap.size + 1 + 1) _ w1 from by simpa using hb1)
  clear hb1 hO
  go_wp2_with fail
  go_upto_region 2 with fail
  have hO1 := HO.out.alloc (.cells #[.int .i64 L, .int .i64 V, .slice (some ⟨g1, 0, none⟩) 0 0] 26)
  have hg1 := (HO.out.lt g1 rfl).2
  have HO1 := Lib.hid hO1
  have hne1 : (Value.slice (some ⟨g1, 0, none⟩) 0 0).ownBlock ≠ some w1.heap.size := fun e => by have h : g1 = w1.heap.size := (by simpa [Value.ownBlock] using e); omega
  have HNE := Lib.hid hne1
  clear hO1 hne1
  go_cut [14] (fun _ wy => LCut (w.heap.size + 1 + 1) ((w.alloc (.cells #[.int .i64 L, .int .i64 V, .slice a n c] 26)).alloc (.cells #[.int .i64 0, .int .i64 0, .slice none 0 0] 26)) s w1.heap.size L V wy)
  case first =>
    go_region_with
      ((first
        | (go_at_call 39; refine (l02One_c _ _).mono ?_; rintro e w5 ⟨rfl, hb0⟩; have hb5 : Below (w1.heap.size + 1) (w1.alloc (.cells #[.int .i64 L, .int .i64 V, .slice (some ⟨g1, 0, none⟩) 0 0] 26)) w5 := ⟨hb0.os, hb0.tape, hb0.output, by simpa using hb0.size, fun j hj => hb0.block j (by simpa using hj)⟩; have hz5 : w1.heap.size < w5.heap.size := (by have := hb5.size; simp at this; omega); have m0 : w5.cell? ⟨w1.heap.size, 0, none⟩ = some (.int .i64 L) := (hb5.cell (p := ⟨w1.heap.size, 0, none⟩) (Nat.lt_succ_self _)).trans (by go_simp); have m1 : w5.cell? ⟨w1.heap.size, 1, none⟩ = some (.int .i64 V) := (hb5.cell (p := ⟨w1.heap.size, 1, none⟩) (Nat.lt_succ_self _)).trans (by go_simp); have m2 : w5.cell? ⟨w1.heap.size, 2, none⟩ = some (.slice (some ⟨g1, 0, none⟩) 0 0) := (hb5.cell (p := ⟨w1.heap.size, 2, none⟩) (Nat.lt_succ_self _)).trans (by go_simp); have mf : w5.frozen? ⟨w1.heap.size, 2, none⟩ = false := (hb5.frozen (p := ⟨w1.heap.size, 2, none⟩) (Nat.lt_succ_self _)).trans (by go_simp); have HO5 := Lib.hid (HO1.out.below hb5 (fun g h => by have := (HO.out.lt g h).2; omega)))
        | (refine step_append_lies _ (by rfl) _ _ _ (by rfl) (w.heap.size + 1 + 1) 53 i0 _ 3 32 Tryz.underlying24 hi0 hi1 hi2 hi3 rfl (by omega) (.slice (some ⟨g1, 0, none⟩) 0 0) 0 [] (by rfl) (by have h := HO5.out; unfold OwnT at h; exact h.alloc _)
            ⟨w5.heap.size, 0, none⟩ 1 1 [.string s, .int .i64 1, .int .i64 1] (by rfl) (by rfl) (World.news_of_block (cs := #[.string s, .int .i64 1, .int .i64 1]) (t := 53) (fr := (0, 0)) (heap_alloc_new w5 _)) (by simp [Value.oneCell'])
            (by omega) (by unfold maxLen; omega) (by omega) (by simp; omega) (w5.heap.size + 1) (by simp) ?_; intro gg cg w2 hown1 hgrow hat hlt2)))
    all_goals
      have hn := fun (v : Value) (zs : Array Value) => row_new ((w5.setCell ⟨w1.heap.size, 2, none⟩ v).alloc (.cells #[.string s, .int .i64 1, .int .i64 1] 53)) zs s 1 1
      simp only [World.size_alloc, World.size_setCell] at hn
      have HN := Lib.hid hn
      have HB5 := Lib.hid (HB.out.trans (((below1 w1 (.cells #[.int .i64 L, .int .i64 V, .slice (some ⟨g1, 0, none⟩) 0 0] 26)).mono (by omega)).trans (hb5.mono (by omega))))
      clear hn hb0 hb5
      go_wp2_with fail
      go_meet
      refine ⟨w5.heap.size + 1, (Question.appendCap 1 0 53).cut (w5.tape w5.drawn (Question.appendCap 1 0 53)), by simp; omega, Below.drew (((HB5.out.setCell (p := ⟨w1.heap.size, 2, none⟩) (by show _ ≤ w1.heap.size; omega) _).alloc (by simp; omega) _).alloc (by simp; omega) _), by go_simp, by go_simp, by go_simp, .inr ⟨_, rfl, by omega, by simp, (HN.out _ _).2, (HN.out _ _).1⟩⟩
  case rest =>
    obtain ⟨gq, G, hnq, hBy, m0, m1, m2, hNq⟩ := hcut
    obtain ⟨wy, rfl⟩ : ∃ wy : World, wy = wc := ⟨_, rfl⟩
    have bc := bcellB hBy
    have hzy : w.heap.size + 1 < wy.heap.size := by omega
    have r0 : wy.cell? ⟨w.heap.size + 1, 0, none⟩ = some (.int .i64 0) := (bc.1 _ _ (by omega)).trans (by go_simp)
    have r1 : wy.cell? ⟨w.heap.size + 1, 1, none⟩ = some (.int .i64 0) := (bc.1 _ _ (by omega)).trans (by go_simp)
    have r2 : wy.cell? ⟨w.heap.size + 1, 2, none⟩ = some (.slice none 0 0) := (bc.1 _ _ (by omega)).trans (by go_simp)
    have z0 : wy.frozen? ⟨w.heap.size + 1, 0, none⟩ = false := (bc.2 _ _ (by omega)).trans (by go_simp)
    have z1 : wy.frozen? ⟨w.heap.size + 1, 1, none⟩ = false := (bc.2 _ _ (by omega)).trans (by go_simp)
    have z2 : wy.frozen? ⟨w.heap.size + 1, 2, none⟩ = false := (bc.2 _ _ (by omega)).trans (by go_simp)
    have HW := Lib.hid ((below2 w (.cells #[.int .i64 L, .int .i64 V, .slice a n c] 26) (.cells #[.int .i64 0, .int .i64 0, .slice none 0 0] 26)).trans (hBy.mono (by omega)))
    have HNq := Lib.hid hNq
    clear bc hBy hNq
    go_wp2
    refine bodyPost_ret (v := .agg #[.int .i64 L, .int .i64 V, .slice (some ⟨gq, 0, none⟩) 1 G]) (by simp [results, Tryz.results73, go_sem, r0, r1, r2]) rfl ⟨some ⟨gq, 0, none⟩, G, rfl, ?_, ?_⟩
    · have hW := HW.out
      go_grown
    · exact (HNq.out.far3u (n := w.heap.size + 1) (by omega)).mono (by omega) (by simp)


set_option maxRecDepth 100000 in
set_option maxHeartbeats 8000000 in
theorem l06Bracket_c (D N : Nat) (hD : 1 ≤ D ∧ D ≤ 3) (hN : N ≤ 5) : ∀ {s : ByteArray} {b : Brk}, BrkOf s b → s.size ≤ 1000 → b.inW (allW D N) → ∀ (a : Option Addr) (n c : Nat) (w : World),
    Calls Tryz.prog 57 #[.agg #[.int .i64 D, .int .i64 N, .slice a n c], .string s] w (SumPost D N ((brkV (allW D N) b).map fun h => termsOf h (allW D N)) w) := by
  intro s b hb
  induction hb with
  | one s h =>
    intro hs hi a n c w
    have h' : (s.size : Int) = 1 := by omega
    have HT1 := Lib.hid (show ((brkV (allW D N) (.leaf s)).map fun h => termsOf h (allW D N)) = some [⟨s, 1, 1⟩] from by show some (termsOf (oneF s) (allW D N)) = _; rw [one_terms hD.2 hi])
    clear hi
    go_enter Tryz.func57, Tryz.ntmps57
    go_wp2_with fail
    refine (l06Letter_c D N s a n c _).mono ?_
    rintro e w1 ⟨a1, c1, rfl, hb1, hN1⟩
    have hz1 : w.heap.size + 2 ≤ w1.heap.size := by have := hb1.size; simpa using this
    have HB1 := Lib.hid (show Below (w.heap.size + 1 + 1) _ w1 from by simpa using hb1)
    have HN1 := Lib.hid (hN1.mono (show w.heap.size + 2 ≤ _ by simp) (Nat.le_refl _))
    have bc := bcellB HB1.out
    have r0 : w1.cell? ⟨w.heap.size + 1, 0, none⟩ = some (.int .i64 0) := (bc.1 _ _ (by omega)).trans (by go_simp)
    have r1 : w1.cell? ⟨w.heap.size + 1, 1, none⟩ = some (.int .i64 0) := (bc.1 _ _ (by omega)).trans (by go_simp)
    have r2 : w1.cell? ⟨w.heap.size + 1, 2, none⟩ = some (.slice none 0 0) := (bc.1 _ _ (by omega)).trans (by go_simp)
    have z0 : w1.frozen? ⟨w.heap.size + 1, 0, none⟩ = false := (bc.2 _ _ (by omega)).trans (by go_simp)
    have z1 : w1.frozen? ⟨w.heap.size + 1, 1, none⟩ = false := (bc.2 _ _ (by omega)).trans (by go_simp)
    have z2 : w1.frozen? ⟨w.heap.size + 1, 2, none⟩ = false := (bc.2 _ _ (by omega)).trans (by go_simp)
    have HW := Lib.hid ((below2 w (.cells #[.int .i64 D, .int .i64 N, .slice a n c] 26) (.cells #[.int .i64 0, .int .i64 0, .slice none 0 0] 26)).trans (HB1.out.mono (by omega)))
    clear bc hb1 hN1
    go_wp2
    rw [HT1.out]
    refine bodyPost_ret (v := .tuple #[.agg #[.int .i64 D, .int .i64 N, .slice a1 1 c1], .bool true]) (by simp [results, Tryz.results57, go_sem, r0, r1, r2]) rfl ⟨a1, c1, rfl, ?_, ?_⟩
    · have hW := HW.out
      go_grown
    · exact (HN1.out.far3u (n := w.heap.size + 1) (by omega)).mono (by omega) (by simp)
  | two s i l r h2 hi hl hr ihl ihr =>
    intro hs hiW a n c w
    have HI := Lib.hid hi
    have hi1 := hi.1
    have hi2 := hi.2.1
    have h' : ((s.size : Int) == 1) = false := by simp; omega
    have b1 : (0 : Int) ≤ (i : Int) := by omega
    have b2 : (i : Int) ≤ (s.size : Int) := by omega
    have z1 : (s.extract 0 i).size ≤ 1000 := by rw [ByteArray.size_extract]; omega
    have z2 : (s.extract i s.size).size ≤ 1000 := by rw [ByteArray.size_extract]; omega
    have HGl := Lib.hid (fun f (e : brkV (allW D N) l = some f) => brkV_good hiW.1 e)
    have HGr := Lib.hid (fun g (e : brkV (allW D N) r = some g) => brkV_good hiW.2 e)
    have HCl := Lib.hid (ihl z1 hiW.1)
    have HCr := Lib.hid (ihr z2 hiW.2)
    have HLn := Lib.hid (fun (e : brkV (allW D N) l = none) => brkV_l (r := r) e)
    have HRn := Lib.hid (fun (e : brkV (allW D N) r = none) => brkV_r (l := l) e)
    have HLR := Lib.hid (fun f g (e : brkV (allW D N) l = some f) (e2 : brkV (allW D N) r = some g) => brkV_lr e e2)
    have HCo := Lib.hid (fun a1 a2 c1 c2 f g (hf : GoodV (allW D N) f) (hg : GoodV (allW D N) g) W r1 r2 => l02Commutator_c D N hD hN a1 a2 c1 c2 f g hf hg (termsOf f (allW D N)) (termsOf g (allW D N)) rfl rfl (by have := termsOf_len f (allW D N); have := allW_few (D := D) hD.2 (n := N) hN; omega) (by have := termsOf_len g (allW D N); have := allW_few (D := D) hD.2 (n := N) hN; omega) W r1 r2)
    obtain ⟨o, ho⟩ : ∃ o, brkV (allW D N) (.node l r) = o := ⟨_, rfl⟩
    rw [ho] at HLn HRn HLR ⊢
    obtain ⟨ol, hol⟩ : ∃ o, brkV (allW D N) l = o := ⟨_, rfl⟩
    obtain ⟨or, hor⟩ : ∃ o, brkV (allW D N) r = o := ⟨_, rfl⟩
    rw [hol] at HLn HGl HCl HLR
    rw [hor] at HRn HGr HCr HLR
    clear ihl ihr hl hr hi z1 z2 hiW ho hol hor
    go_enter Tryz.func57, Tryz.ntmps57
    go_wp2_with fail
    have HT4 := Lib.hid (show T3 ((w.alloc (.cells #[.int .i64 D, .int .i64 N, .slice a n c] 26)).alloc (.cells #[.int .i64 0, .int .i64 0, .slice none 0 0] 26)) (w.heap.size + 1) (.int .i64 0) (.int .i64 0) (.slice none 0 0) from T3.newAt (by simp))
    have x0 : ((w.alloc (.cells #[.int .i64 D, .int .i64 N, .slice a n c] 26)).alloc (.cells #[.int .i64 0, .int .i64 0, .slice none 0 0] 26)).cell? ⟨w.heap.size, 0, none⟩ = some (.int .i64 D) := by go_simp
    have x1 : ((w.alloc (.cells #[.int .i64 D, .int .i64 N, .slice a n c] 26)).alloc (.cells #[.int .i64 0, .int .i64 0, .slice none 0 0] 26)).cell? ⟨w.heap.size, 1, none⟩ = some (.int .i64 N) := by go_simp
    have x2 : ((w.alloc (.cells #[.int .i64 D, .int .i64 N, .slice a n c] 26)).alloc (.cells #[.int .i64 0, .int .i64 0, .slice none 0 0] 26)).cell? ⟨w.heap.size, 2, none⟩ = some (.slice a n c) := by go_simp
    have HWb := Lib.hid (below2 w (.cells #[.int .i64 D, .int .i64 N, .slice a n c] 26) (.cells #[.int .i64 0, .int .i64 0, .slice none 0 0] 26))
    have hwb : ((w.alloc (.cells #[.int .i64 D, .int .i64 N, .slice a n c] 26)).alloc (.cells #[.int .i64 0, .int .i64 0, .slice none 0 0] 26)).heap.size = w.heap.size + 2 := by simp
    generalize ((w.alloc (.cells #[.int .i64 D, .int .i64 N, .slice a n c] 26)).alloc (.cells #[.int .i64 0, .int .i64 0, .slice none 0 0] 26)) = wb at *
    have hww : w.heap.size < wb.heap.size := by omega
    have KS := Lib.hid (show ∀ w', Below wb.heap.size wb w' → (w'.cell? ⟨w.heap.size, 0, none⟩ = some (.int .i64 D) ∧ w'.cell? ⟨w.heap.size, 1, none⟩ = some (.int .i64 N) ∧ w'.cell? ⟨w.heap.size, 2, none⟩ = some (.slice a n c)) from fun w' hb => ⟨(hb.cell (p := ⟨w.heap.size, 0, none⟩) hww).trans x0, (hb.cell (p := ⟨w.heap.size, 1, none⟩) hww).trans x1, (hb.cell (p := ⟨w.heap.size, 2, none⟩) hww).trans x2⟩)
    have HWZ := Lib.hid hwb
    clear hwb
    go_loopw [6] (fun vi wr => ∃ k : Nat, 1 ≤ k ∧ k ≤ i ∧ vi = .int .i64 k ∧ wb = wr) (fun vi _ => s.size - (intOf vi).toNat)
    case atStart => exact ⟨1, Nat.le_refl _, hi1, rfl, rfl⟩
    case round =>
      obtain ⟨k, hk1, hk, rfl, rfl⟩ := hrel
      have hz : (s.extract k s.size).size ≤ maxLen := by simp only [ByteArray.size_extract]; unfold maxLen; omega
      by_cases hp : k = i
      · have HB : Hid (lynB (s.extract k s.size) = true) := Lib.hid (by rw [hp]; exact HI.out.2.2.1)
        subst hp
        go_wp2_with (first | (go_at_call 53; refine (l06Lyndon_c _ hz _).mono ?_; rw [HB.out]; rintro e w' ⟨rfl, rfl⟩) | fail)
        have HA1 := Lib.hid (fun W (_ : Below wb.heap.size wb W) => HCl.out a n c W)
        clear hz x0 x1 x2
        go_upto_region 6 with fail
        go_cut [7, 8] (SerCut wb D N (ol.map fun h => termsOf h (allW D N)))
        case first =>
          go_region_held3 (fun w' => w'.cell? ⟨w.heap.size, 0, none⟩ = some (.int .i64 D) ∧ w'.cell? ⟨w.heap.size, 1, none⟩ = some (.int .i64 N) ∧ w'.cell? ⟨w.heap.size, 2, none⟩ = some (.slice a n c))
            ((refine KS.out _ ?_; repeat' (first | with_reducible assumption | with_reducible exact Below.refl _ _ | (with_reducible refine Below.drew ?_) | (with_reducible refine Below.setCell ?_ (by (try dsimp only); omega) _) | (with_reducible refine Below.alloc ?_ (by (try simp only [World.size_setCell]); (try simp only [World.size_drew]); (try simp only [World.size_alloc]); (try simp only [World.size_setCell]); (try simp only [World.size_alloc]); omega) _))))
            (first
              | (go_at_call 57; (with_reducible refine (HA1.out _ ?_).mono ?_); (focus repeat' (first | with_reducible assumption | with_reducible exact Below.refl _ _ | (with_reducible refine Below.drew ?_) | (with_reducible refine Below.setCell ?_ (by (try dsimp only); omega) _) | (with_reducible refine Below.alloc ?_ (by (try simp only [World.size_setCell]); (try simp only [World.size_drew]); (try simp only [World.size_alloc]); (try simp only [World.size_setCell]); (try simp only [World.size_alloc]); omega) _))); rintro e w3 hpost; obtain ⟨X, Y, a5, l5, c5, ok, rfl, hb0, hU⟩ := SumPost.u hpost; (try simp only [World.size_drew] at hU); (try simp only [World.size_alloc] at hU); have hbw3 : Below wb.heap.size wb w3 := below_step (by repeat' (first | with_reducible assumption | with_reducible exact Below.refl _ _ | (with_reducible refine Below.drew ?_) | (with_reducible refine Below.setCell ?_ (by (try dsimp only); omega) _) | (with_reducible refine Below.alloc ?_ (by (try simp only [World.size_setCell]); (try simp only [World.size_drew]); (try simp only [World.size_alloc]); (try simp only [World.size_setCell]); (try simp only [World.size_alloc]); omega) _))) hb0 (Nat.le_refl _); have hzw3 := hbw3.size; (try have B0 : T3 w3 wb.heap.size (.int .i64 0) (.int .i64 0) (.slice none 0 0) := T3.next (by exact (T3.new wb 0 0 none 0 0 _).drew) hb0); (try have L00 := B0.1); (try obtain ⟨-, b00, b01, b02, b03, b04, b05⟩ := id B0))
              | fail)
          all_goals (go_wp2_with fail; go_meet)
          all_goals (refine ⟨_, X, Y, a5, l5, c5, ok, rfl, rfl, ?_, ?_, ?_, ?_⟩)
          all_goals (first | (with_reducible assumption) | (with_reducible exact Nat.le_refl _) | ((repeat' (first | with_reducible assumption | with_reducible exact Below.refl _ _ | (with_reducible refine Below.drew ?_) | (with_reducible refine Below.setCell ?_ (by (try dsimp only); omega) _) | (with_reducible refine Below.alloc ?_ (by (try simp only [World.size_setCell]); (try simp only [World.size_drew]); (try simp only [World.size_alloc]); (try simp only [World.size_setCell]); (try simp only [World.size_alloc]); omega) _))); done) | ((repeat' (first | with_reducible assumption | (with_reducible refine T3.newAt ?_; first | with_reducible rfl | (simp only [World.size_setCell]; done) | (simp only [World.size_alloc]; done) | (simp only [World.size_alloc, World.size_setCell]; done)) | (with_reducible refine T3.fill ?_) | (with_reducible refine T3.far ?_ (by first | with_reducible assumption | omega)) | (with_reducible refine T3.alloc ?_ _))); done) | omega | (with_reducible exact (hU.below (below1 _ _)).mono (by omega)) | (with_reducible exact (((hU.far (by omega)).far (by omega)).far (by omega)).mono (by omega)))
        case rest =>
          obtain ⟨g, X, Y, a5, l5, c5, ok, rfl, rfl, hg, hbc, hT5, hU⟩ := hcut
          obtain ⟨wq, rfl⟩ : ∃ wq : World, wq = wc := ⟨_, rfl⟩
          have hzq := hbc.size
          have HTq := Lib.hid (HT4.out.below hbc (by have := HWZ.out; omega))
          have HTg := Lib.hid hT5
          have HBq := Lib.hid hbc
          have HU5 := Lib.hid hU
          obtain ⟨x0, x1, x2⟩ := KS.out wq hbc
          have hwq : w.heap.size < wq.heap.size := by omega
          have KS2 := Lib.hid (show ∀ w', Below wq.heap.size wq w' → (w'.cell? ⟨w.heap.size, 0, none⟩ = some (.int .i64 D) ∧ w'.cell? ⟨w.heap.size, 1, none⟩ = some (.int .i64 N) ∧ w'.cell? ⟨w.heap.size, 2, none⟩ = some (.slice a n c)) from fun w' hb => ⟨(hb.cell (p := ⟨w.heap.size, 0, none⟩) hwq).trans x0, (hb.cell (p := ⟨w.heap.size, 1, none⟩) hwq).trans x1, (hb.cell (p := ⟨w.heap.size, 2, none⟩) hwq).trans x2⟩)
          have HA2 := Lib.hid (fun W (_ : Below wq.heap.size wq W) => HCr.out a n c W)
          clear hbc hT5 hU x0 x1 x2
          go_upto_region 7 with fail
          go_cut [9, 10] (SerCut wq D N (or.map fun h => termsOf h (allW D N)))
          case first =>
            go_region_held3 (fun w' => w'.cell? ⟨w.heap.size, 0, none⟩ = some (.int .i64 D) ∧ w'.cell? ⟨w.heap.size, 1, none⟩ = some (.int .i64 N) ∧ w'.cell? ⟨w.heap.size, 2, none⟩ = some (.slice a n c))
              ((refine KS2.out _ ?_; repeat' (first | with_reducible assumption | with_reducible exact Below.refl _ _ | (with_reducible refine Below.drew ?_) | (with_reducible refine Below.setCell ?_ (by (try dsimp only); omega) _) | (with_reducible refine Below.alloc ?_ (by (try simp only [World.size_setCell]); (try simp only [World.size_drew]); (try simp only [World.size_alloc]); (try simp only [World.size_setCell]); (try simp only [World.size_alloc]); omega) _))))
              (first
                | (go_at_call 57; (with_reducible refine (HA2.out _ ?_).mono ?_); (focus repeat' (first | with_reducible assumption | with_reducible exact Below.refl _ _ | (with_reducible refine Below.drew ?_) | (with_reducible refine Below.setCell ?_ (by (try dsimp only); omega) _) | (with_reducible refine Below.alloc ?_ (by (try simp only [World.size_setCell]); (try simp only [World.size_drew]); (try simp only [World.size_alloc]); (try simp only [World.size_setCell]); (try simp only [World.size_alloc]); omega) _))); rintro e w4 hpost; obtain ⟨X, Y, a6, l6, c6, ok, rfl, hb0, hU⟩ := SumPost.u hpost; (try simp only [World.size_drew] at hU); (try simp only [World.size_alloc] at hU); have hbw4 : Below wq.heap.size wq w4 := below_step (by repeat' (first | with_reducible assumption | with_reducible exact Below.refl _ _ | (with_reducible refine Below.drew ?_) | (with_reducible refine Below.setCell ?_ (by (try dsimp only); omega) _) | (with_reducible refine Below.alloc ?_ (by (try simp only [World.size_setCell]); (try simp only [World.size_drew]); (try simp only [World.size_alloc]); (try simp only [World.size_setCell]); (try simp only [World.size_alloc]); omega) _))) hb0 (Nat.le_refl _); have hzw4 := hbw4.size; (try have B0 : T3 w4 wq.heap.size (.int .i64 0) (.int .i64 0) (.slice none 0 0) := T3.next (by exact (T3.new wq 0 0 none 0 0 _).drew) hb0); (try have L00 := B0.1); (try obtain ⟨-, b00, b01, b02, b03, b04, b05⟩ := id B0))
                | fail)
            all_goals (go_wp2_with fail; go_meet)
            all_goals (refine ⟨_, X, Y, a6, l6, c6, ok, rfl, rfl, ?_, ?_, ?_, ?_⟩)
            all_goals (first | (with_reducible assumption) | (with_reducible exact Nat.le_refl _) | ((repeat' (first | with_reducible assumption | with_reducible exact Below.refl _ _ | (with_reducible refine Below.drew ?_) | (with_reducible refine Below.setCell ?_ (by (try dsimp only); omega) _) | (with_reducible refine Below.alloc ?_ (by (try simp only [World.size_setCell]); (try simp only [World.size_drew]); (try simp only [World.size_alloc]); (try simp only [World.size_setCell]); (try simp only [World.size_alloc]); omega) _))); done) | ((repeat' (first | with_reducible assumption | (with_reducible refine T3.newAt ?_; first | with_reducible rfl | (simp only [World.size_setCell]; done) | (simp only [World.size_alloc]; done) | (simp only [World.size_alloc, World.size_setCell]; done)) | (with_reducible refine T3.fill ?_) | (with_reducible refine T3.far ?_ (by first | with_reducible assumption | omega)) | (with_reducible refine T3.alloc ?_ _))); done) | omega | (with_reducible exact (hU.below (below1 _ _)).mono (by omega)) | (with_reducible exact (((hU.far (by omega)).far (by omega)).far (by omega)).mono (by omega)))
          case rest =>
            obtain ⟨g2, X2, Y2, a6, l6, c6, ok2, rfl, rfl, hg2, hbc2, hT6, hU2⟩ := hcut
            obtain ⟨w6, rfl⟩ : ∃ w6 : World, w6 = wc := ⟨_, rfl⟩
            have hz6 := hbc2.size
            have hT4 := HTq.out.below hbc2 (by have := HWZ.out; omega)
            have hTg := HTg.out.below hbc2 HTg.out.1
            have HB6 := Lib.hid (HWb.out.trans ((HBq.out.trans (hbc2.mono hzq)).mono (by have := HWZ.out; omega)))
            have HUg := Lib.hid (HU5.out.below hbc2)
            cases ol with
            | none =>
              obtain ⟨-, -, -, -, -, rfl⟩ := HU5.out
              obtain ⟨hq4, r0, r1, r2, z0, z1, z2⟩ := id hT4
              have HF := Lib.hid (HLn.out rfl)
              clear hbc2 hT6 hT4 hTg hU2 HUg HU5
              go_wp2_with fail
              rw [HF.out]
              refine bodyPost_ret (v := .tuple #[.agg #[.int .i64 0, .int .i64 0, .slice none 0 0], .bool false]) (by simp [results, Tryz.results57, go_sem, r0, r1, r2]) rfl ⟨rfl, ?_⟩
              have hW := HB6.out
              go_grown
            | some f =>
              obtain ⟨hX, hY, hl5, rfl, hNl⟩ := HUg.out
              subst hX hY hl5
              cases or with
              | none =>
                obtain ⟨-, -, -, -, -, rfl⟩ := hU2
                obtain ⟨hq4, r0, r1, r2, z0, z1, z2⟩ := id hT4
                have HF := Lib.hid (HRn.out rfl)
                clear hbc2 hT6 hT4 hTg HUg HU5 hNl
                go_wp2_with fail
                rw [HF.out]
                refine bodyPost_ret (v := .tuple #[.agg #[.int .i64 0, .int .i64 0, .slice none 0 0], .bool false]) (by simp [results, Tryz.results57, go_sem, r0, r1, r2]) rfl ⟨rfl, ?_⟩
                have hW := HB6.out
                go_grown
              | some g' =>
                obtain ⟨rfl, rfl, rfl, rfl, hNr⟩ := hU2
                have HF := Lib.hid (HLR.out f g' rfl rfl)
                have HPr := Lib.hid (HCo.out a5 a6 c5 c6 f g' (HGl.out f rfl) (HGr.out g' rfl) w6 hNl.row hNr.row)
                obtain ⟨hqg, s0, s1, s2, -, -, -⟩ := id hTg
                obtain ⟨hqh, t0, t1, t2, -, -, -⟩ := id hT6
                have HT4b := Lib.hid hT4
                clear hbc2 hT6 hT4 hTg HUg HU5 hNl hNr
                go_wp2_with fail
                refine HPr.out.mono ?_
                clear s0 s1 s2 t0 t1 t2
                rintro e w7 hpost
                obtain ⟨X, Y, a7, l7, c7, ok, rfl, hb7, hU⟩ := SumPost.u hpost
                have hT4 := HT4b.out.next hb7
                obtain ⟨hq4, r0, r1, r2, z0, z1, z2⟩ := id hT4
                have hz7 := hb7.size
                have HU7 := Lib.hid hU
                have HB7 := Lib.hid (HB6.out.trans (hb7.mono (by have := HWZ.out; omega)))
                clear hpost hb7 hU hT4
                go_wp2
                rw [HF.out]
                refine bodyPost_ret (v := .tuple #[.agg #[.int .i64 X, .int .i64 Y, .slice a7 l7 c7], .bool ok]) (by simp [results, Tryz.results57, go_sem, r0, r1, r2, hq4]) rfl ?_
                have hU := HU7.out
                have hW := HB7.out
                have hwz := HWZ.out
                exact SumU.back (lo := w6.heap.size) (by first | exact (((hU.far (by omega)).far (by omega)).far (by omega)).below (below1 _ _) | exact (((hU.below (below1 _ _)).far (by omega)).far (by omega)).far (by omega)) (by go_grown) (by omega)
      · have HB : Hid (lynB (s.extract k s.size) = false) := Lib.hid (HI.out.2.2.2 k hk1 (by omega))
        clear x0 x1 x2
        go_wp2_with (first | (go_at_call 53; refine (l06Lyndon_c _ hz _).mono ?_; rw [HB.out]; rintro e w' ⟨rfl, rfl⟩) | fail)
        go_roundw
        case rel => exact ⟨k + 1, by omega, by omega, by go_num, trivial⟩
        case measure => simp [intOf]; omega

/-- a series in a box of its own -/
def SerCut1 (wb : World) (L V : Int) (ts : List Tm) (v : Value) (wy : World) : Prop :=
  ∃ (g : Nat) (a : Option Addr) (c l : Nat), v = .pointer (some ⟨g, 0, none⟩) ∧ l = ts.length ∧ wb.heap.size ≤ g ∧ Below wb.heap.size wb wy ∧ T3 wy g (.int .i64 L) (.int .i64 V) (.slice a l c) ∧ RowF wb.heap.size g g wy a ts
theorem Row.nextB {w w' : World} {a : Option Addr} {ts : List Tm} (h : Row w a ts) (hb : Below w.heap.size w w') : Row w' a ts := h.below hb

set_option maxRecDepth 100000 in
set_option maxHeartbeats 8000000 in
theorem l06Left_c (D N : Nat) (hD : 1 ≤ D ∧ D ≤ 3) (hN : N ≤ 5) (hN1 : 1 ≤ N) (s : ByteArray) (hs : s.size ≤ 1000) (hw : wordB (D : Int) s.data.toList = true) (a : Option Addr) (n c : Nat) (w : World) :
    Calls Tryz.prog 37 #[.agg #[.int .i64 D, .int .i64 N, .slice a n c], .string s] w (SumPost D N ((leftW (allW D N) s).map fun h => termsOf h (allW D N)) w) := by
  by_cases h0 : s.size = 0
  · have HF := Lib.hid (show ((leftW (allW D N) s).map fun h => termsOf h (allW D N)) = some [] by
      have e : leftW (allW D N) s = some fun _ => none := by unfold leftW; rw [h0]; rfl
      rw [e]
      show some (termsOf (fun _ => none) (allW D N)) = _
      rw [show termsOf (fun _ => none) (allW D N) = [] by unfold termsOf; simp])
    have he : s = ByteArray.empty := ByteArray.size_eq_zero_iff.1 h0
    subst he
    clear hw hs h0
    go_enter Tryz.func37, Tryz.ntmps37
    go_wp2_with fail
    refine (l01Empty_c D N _ rfl _).mono ?_
    rintro e w1 ⟨g1, rfl, hO, hb1⟩
    have hz1 : w.heap.size + 2 ≤ w1.heap.size := by have := hb1.size; simpa using this
    have HB1 := Lib.hid (show Below (w.heap.size + 1 + 1) _ w1 from by simpa using hb1)
    have bc := bcellB HB1.out
    have r0 : w1.cell? ⟨w.heap.size + 1, 0, none⟩ = some (.int .i64 0) := (bc.1 _ _ (by omega)).trans (by go_simp)
    have r1 : w1.cell? ⟨w.heap.size + 1, 1, none⟩ = some (.int .i64 0) := (bc.1 _ _ (by omega)).trans (by go_simp)
    have r2 : w1.cell? ⟨w.heap.size + 1, 2, none⟩ = some (.slice none 0 0) := (bc.1 _ _ (by omega)).trans (by go_simp)
    have z0 : w1.frozen? ⟨w.heap.size + 1, 0, none⟩ = false := (bc.2 _ _ (by omega)).trans (by go_simp)
    have z1 : w1.frozen? ⟨w.heap.size + 1, 1, none⟩ = false := (bc.2 _ _ (by omega)).trans (by go_simp)
    have z2 : w1.frozen? ⟨w.heap.size + 1, 2, none⟩ = false := (bc.2 _ _ (by omega)).trans (by go_simp)
    have HW := Lib.hid ((below2 w (.cells #[.int .i64 D, .int .i64 N, .slice a n c] 26) (.cells #[.int .i64 0, .int .i64 0, .slice none 0 0] 26)).trans (HB1.out.mono (by omega)))
    clear bc hb1 hO
    go_wp2
    rw [HF.out]
    refine bodyPost_ret (v := .tuple #[.agg #[.int .i64 D, .int .i64 N, .slice (some ⟨g1, 0, none⟩) 0 0], .bool true]) (by simp [results, Tryz.results37, go_sem, r0, r1, r2]) rfl ⟨some ⟨g1, 0, none⟩, 0, rfl, ?_, .inl rfl⟩
    have hW := HW.out
    go_grown
  have hW := allW_asc hD.2 N
  have hfew := allW_few (D := D) hD.2 (n := N) hN
  have HIn := Lib.hid (fun k (hk : k < s.size) => show s.extract k (k + 1) ∈ allW D N from allW_all hD.2 N _ (by rw [ByteArray.size_extract]; omega) (wordB_part hw _ _))
  have HGk := Lib.hid (fun k f (hk : k ≤ s.size) (e : leftV (allW D N) s k = some f) => leftV_good hD.2 hN1 hw hk e)
  have HCo := Lib.hid (fun aP cP p (hp : GoodV (allW D N) p) k (hk : k < s.size) a2 c2 W r1 r2 => (show Calls Tryz.prog 74 #[.agg #[.int .i64 D, .int .i64 N, .slice aP (termsOf p (allW D N)).length cP], .agg #[.int .i64 D, .int .i64 N, .slice a2 1 c2]] W (SumPost D N (commL p (oneF (s.extract k (k + 1))) (allW D N)) W) from l02Commutator_c D N hD hN aP a2 cP c2 p (oneF (s.extract k (k + 1))) hp (good_one (HIn.out k hk)) (termsOf p (allW D N)) [⟨s.extract k (k + 1), 1, 1⟩] rfl (one_terms hD.2 (HIn.out k hk)) (by have := termsOf_len p (allW D N); omega) (by simp) W r1 r2))
  have HOne := Lib.hid (one_terms hD.2 (HIn.out 0 (by omega)))
  have HL1 := Lib.hid (show leftV (allW D N) s 1 = some (oneF (s.extract 0 1)) from rfl)
  have HNx := Lib.hid (fun k f (hk : 1 ≤ k) (e : leftV (allW D N) s k = some f) => leftV_next hk e)
  have HDd := Lib.hid (fun k (hk : 1 ≤ k) (e : leftV (allW D N) s k = none) (hl : k ≤ s.size) => (show leftW (allW D N) s = none from leftV_dead hk e hl))
  have HEn := Lib.hid (show leftW (allW D N) s = leftV (allW D N) s s.size from rfl)
  have hne : ¬ s = ByteArray.empty := fun e => h0 (by rw [e]; rfl)
  have hnc := isEmpty_no (s := s) (by omega)
  have HNc := Lib.hid hnc
  obtain ⟨o, ho⟩ : ∃ o, leftW (allW D N) s = o := ⟨_, rfl⟩
  rw [ho] at HDd HEn ⊢
  have h1 : (1 : Int) ≤ (s.size : Int) := by omega
  clear hw hW hfew hne ho
  go_enter Tryz.func37, Tryz.ntmps37
  go_upto_region 3 with fail
  have HT4 := Lib.hid (show T3 ((w.alloc (.cells #[.int .i64 D, .int .i64 N, .slice a n c] 26)).alloc (.cells #[.int .i64 0, .int .i64 0, .slice none 0 0] 26)) (w.heap.size + 1) (.int .i64 0) (.int .i64 0) (.slice none 0 0) from T3.newAt (by simp))
  have x0 : ((w.alloc (.cells #[.int .i64 D, .int .i64 N, .slice a n c] 26)).alloc (.cells #[.int .i64 0, .int .i64 0, .slice none 0 0] 26)).cell? ⟨w.heap.size, 0, none⟩ = some (.int .i64 D) := by go_simp
  have x1 : ((w.alloc (.cells #[.int .i64 D, .int .i64 N, .slice a n c] 26)).alloc (.cells #[.int .i64 0, .int .i64 0, .slice none 0 0] 26)).cell? ⟨w.heap.size, 1, none⟩ = some (.int .i64 N) := by go_simp
  have x2 : ((w.alloc (.cells #[.int .i64 D, .int .i64 N, .slice a n c] 26)).alloc (.cells #[.int .i64 0, .int .i64 0, .slice none 0 0] 26)).cell? ⟨w.heap.size, 2, none⟩ = some (.slice a n c) := by go_simp
  have HWb := Lib.hid (below2 w (.cells #[.int .i64 D, .int .i64 N, .slice a n c] 26) (.cells #[.int .i64 0, .int .i64 0, .slice none 0 0] 26))
  have hwb : ((w.alloc (.cells #[.int .i64 D, .int .i64 N, .slice a n c] 26)).alloc (.cells #[.int .i64 0, .int .i64 0, .slice none 0 0] 26)).heap.size = w.heap.size + 2 := by simp
  generalize ((w.alloc (.cells #[.int .i64 D, .int .i64 N, .slice a n c] 26)).alloc (.cells #[.int .i64 0, .int .i64 0, .slice none 0 0] 26)) = wb at *
  have hww : w.heap.size < wb.heap.size := by omega
  have KS := Lib.hid (show ∀ w', Below wb.heap.size wb w' → (w'.cell? ⟨w.heap.size, 0, none⟩ = some (.int .i64 D) ∧ w'.cell? ⟨w.heap.size, 1, none⟩ = some (.int .i64 N) ∧ w'.cell? ⟨w.heap.size, 2, none⟩ = some (.slice a n c)) from fun w' hb => ⟨(hb.cell (p := ⟨w.heap.size, 0, none⟩) hww).trans x0, (hb.cell (p := ⟨w.heap.size, 1, none⟩) hww).trans x1, (hb.cell (p := ⟨w.heap.size, 2, none⟩) hww).trans x2⟩)
  have HWZ := Lib.hid hwb
  have HLt := Lib.hid (fun W (_ : Below wb.heap.size wb W) => l06Letter_c D N (s.extract 0 1) a n c W)
  clear hwb x0 x1 x2 hnc
  go_upto_region 3 with fail
  go_cut [6] (SerCut1 wb D N [⟨s.extract 0 1, 1, 1⟩])
  case first =>
    go_region_held3 (fun w' => w'.cell? ⟨w.heap.size, 0, none⟩ = some (.int .i64 D) ∧ w'.cell? ⟨w.heap.size, 1, none⟩ = some (.int .i64 N) ∧ w'.cell? ⟨w.heap.size, 2, none⟩ = some (.slice a n c))
      ((refine KS.out _ ?_; repeat' (first | with_reducible assumption | with_reducible exact Below.refl _ _ | (with_reducible refine Below.drew ?_) | (with_reducible refine Below.setCell ?_ (by (try dsimp only); omega) _) | (with_reducible refine Below.alloc ?_ (by (try simp only [World.size_setCell]); (try simp only [World.size_drew]); (try simp only [World.size_alloc]); (try simp only [World.size_setCell]); (try simp only [World.size_alloc]); omega) _))))
      (first
        | (go_at_call 73; (with_reducible refine (HLt.out _ ?_).mono ?_); (focus repeat' (first | with_reducible assumption | with_reducible exact Below.refl _ _ | (with_reducible refine Below.drew ?_) | (with_reducible refine Below.setCell ?_ (by (try dsimp only); omega) _) | (with_reducible refine Below.alloc ?_ (by (try simp only [World.size_setCell]); (try simp only [World.size_drew]); (try simp only [World.size_alloc]); (try simp only [World.size_setCell]); (try simp only [World.size_alloc]); omega) _))); rintro e w3 ⟨a3, c3, rfl, hb0, hN3⟩; (try simp only [World.size_drew] at hN3); (try simp only [World.size_alloc] at hN3); have hbw3 : Below wb.heap.size wb w3 := below_step (by repeat' (first | with_reducible assumption | with_reducible exact Below.refl _ _ | (with_reducible refine Below.drew ?_) | (with_reducible refine Below.setCell ?_ (by (try dsimp only); omega) _) | (with_reducible refine Below.alloc ?_ (by (try simp only [World.size_setCell]); (try simp only [World.size_drew]); (try simp only [World.size_alloc]); (try simp only [World.size_setCell]); (try simp only [World.size_alloc]); omega) _))) hb0 (Nat.le_refl _); have hzw3 := hbw3.size; (try have B0 : T3 w3 wb.heap.size (.int .i64 0) (.int .i64 0) (.slice none 0 0) := T3.next (by exact (T3.new wb 0 0 none 0 0 _).drew) hb0); (try have L00 := B0.1); (try obtain ⟨-, b00, b01, b02, b03, b04, b05⟩ := id B0))
        | fail)
    all_goals (go_wp2_with fail; go_meet)
    all_goals (refine ⟨_, a3, c3, 1, rfl, rfl, ?_, ?_, ?_, ?_⟩)
    all_goals (first | (with_reducible assumption) | (with_reducible exact Nat.le_refl _) | ((repeat' (first | with_reducible assumption | with_reducible exact Below.refl _ _ | (with_reducible refine Below.drew ?_) | (with_reducible refine Below.setCell ?_ (by (try dsimp only); omega) _) | (with_reducible refine Below.alloc ?_ (by (try simp only [World.size_setCell]); (try simp only [World.size_drew]); (try simp only [World.size_alloc]); (try simp only [World.size_setCell]); (try simp only [World.size_alloc]); omega) _))); done) | ((repeat' (first | with_reducible assumption | (with_reducible refine T3.newAt ?_; first | with_reducible rfl | (simp only [World.size_setCell]; done) | (simp only [World.size_alloc]; done) | (simp only [World.size_alloc, World.size_setCell]; done)) | (with_reducible refine T3.fill ?_) | (with_reducible refine T3.far ?_ (by first | with_reducible assumption | omega)) | (with_reducible refine T3.alloc ?_ _))); done) | ((repeat' (first | with_reducible assumption | (with_reducible refine RowF.set ?_ (by first | (left; with_reducible rfl) | (right; with_reducible rfl))) | (with_reducible refine RowF.alloc ?_ _) | (with_reducible exact RowF.of hN3 (by omega) (by omega) (by omega)) | fail)); done) | omega | (trace_state; fail))
  case rest =>
    obtain ⟨g, aU, cU, lU, rfl, hlU, hg, hBc, hTA, hRU⟩ := hcut
    obtain ⟨wy, rfl⟩ : ∃ wy : World, wy = wc := ⟨_, rfl⟩
    have HTA := Lib.hid hTA
    have HRU := Lib.hid hRU
    have HBy := Lib.hid hBc
    have HlU := Lib.hid hlU
    clear hBc hTA hRU hlU
    go_wp2_with fail
    go_loopw [7] (fun v7 wr => ∃ (k : Nat) (p : VF) (aP : Option Addr) (lP cP : Nat), 1 ≤ k ∧ k ≤ s.size ∧ v7 = .int .i64 k ∧ leftV (allW D N) s k = some p ∧ lP = (termsOf p (allW D N)).length ∧ T3 wr g (.int .i64 D) (.int .i64 N) (.slice aP lP cP) ∧ RowF wb.heap.size g g wr aP (termsOf p (allW D N)) ∧ Below wb.heap.size wb wr) (fun v7 _ => s.size - (intOf v7).toNat)
    case atStart => exact ⟨1, _, aU, lU, cU, Nat.le_refl _, by omega, rfl, HL1.out, by rw [HOne.out]; exact HlU.out, HTA.out, by rw [HOne.out]; exact HRU.out, HBy.out⟩
    case round =>
      obtain ⟨k, p, aP, lP, cP, hk1, hk, rfl, hpk, hlP, hTP, hRP, hB⟩ := hrel
      obtain ⟨wo, rfl⟩ : ∃ wo : World, wo = wr := ⟨_, rfl⟩
      subst hlP
      have HPk := Lib.hid hpk
      have HTP := Lib.hid hTP
      have HRP := Lib.hid hRP
      have HB := Lib.hid hB
      have hzo := hB.size
      have hwA := hTP.1
      have HBw := Lib.hid (HWb.out.trans (HB.out.mono (by have := HWZ.out; omega)))
      clear hpk hTP hRP hB
      by_cases hlt : k < s.size
      · obtain ⟨x0, x1, x2⟩ := KS.out wo HB.out
        obtain ⟨-, t0, t1, t2, -, -, -⟩ := id HTP.out
        have hwq : w.heap.size < wo.heap.size := by omega
        have hgq := hwA
        have KS2 := Lib.hid (show ∀ w', Below wo.heap.size wo w' → (w'.cell? ⟨g, 0, none⟩ = some (.int .i64 D) ∧ w'.cell? ⟨g, 1, none⟩ = some (.int .i64 N) ∧ w'.cell? ⟨g, 2, none⟩ = some (.slice aP (termsOf p (allW D N)).length cP) ∧ w'.cell? ⟨w.heap.size, 0, none⟩ = some (.int .i64 D) ∧ w'.cell? ⟨w.heap.size, 1, none⟩ = some (.int .i64 N) ∧ w'.cell? ⟨w.heap.size, 2, none⟩ = some (.slice a n c)) from fun w' hb => ⟨(hb.cell (p := ⟨g, 0, none⟩) hgq).trans t0, (hb.cell (p := ⟨g, 1, none⟩) hgq).trans t1, (hb.cell (p := ⟨g, 2, none⟩) hgq).trans t2, (hb.cell (p := ⟨w.heap.size, 0, none⟩) hwq).trans x0, (hb.cell (p := ⟨w.heap.size, 1, none⟩) hwq).trans x1, (hb.cell (p := ⟨w.heap.size, 2, none⟩) hwq).trans x2⟩)
        have HGp := Lib.hid (HGk.out k p hk HPk.out)
        have HNk := Lib.hid (HNx.out k p hk1 HPk.out)
        have HLt2 := Lib.hid (fun W (_ : Below wo.heap.size wo W) => l06Letter_c D N (s.extract k (k + 1)) a n c W)
        have HCm := Lib.hid (fun a2 c2 W (hW : Below wo.heap.size wo W) hrow => HCo.out aP cP p HGp.out k hlt a2 c2 W (HRP.out.newRow.row.below hW) hrow)
        have HCL := Lib.hid (show commL p (oneF (s.extract k (k + 1))) (allW D N) = (leftV (allW D N) s (k + 1)).map fun h => termsOf h (allW D N) by rw [HNk.out]; rfl)
        rw [HCL.out] at HCm
        obtain ⟨r, hr⟩ : ∃ r, leftV (allW D N) s (k + 1) = r := ⟨_, rfl⟩
        rw [hr] at HCm
        have HRr := Lib.hid hr
        have k1 : (0 : Int) ≤ (k : Int) := by omega
        have k2 : (k : Int) ≤ (k : Int) + 1 := by omega
        have k3 : (k : Int) + 1 ≤ (s.size : Int) := by omega
        have k4 : IntKind.i64.wrap ((k : Int) + 1) = (k : Int) + 1 := IntWalk.i64_in _ ⟨by omega, by omega⟩
        have k5 : ((k : Int) + 1).toNat = k + 1 := by omega
        clear x0 x1 x2 t0 t1 t2 hr
        go_upto_region 7 with fail
        go_cut [8, 9] (SerCut wo D N (r.map fun h => termsOf h (allW D N)))
        case first =>
          go_region_held3 (fun w' => w'.cell? ⟨g, 0, none⟩ = some (.int .i64 D) ∧ w'.cell? ⟨g, 1, none⟩ = some (.int .i64 N) ∧ w'.cell? ⟨g, 2, none⟩ = some (.slice aP (termsOf p (allW D N)).length cP) ∧ w'.cell? ⟨w.heap.size, 0, none⟩ = some (.int .i64 D) ∧ w'.cell? ⟨w.heap.size, 1, none⟩ = some (.int .i64 N) ∧ w'.cell? ⟨w.heap.size, 2, none⟩ = some (.slice a n c))
            ((refine KS2.out _ ?_; repeat' (first | with_reducible assumption | with_reducible exact Below.refl _ _ | (with_reducible refine Below.drew ?_) | (with_reducible refine Below.setCell ?_ (by (try dsimp only); omega) _) | (with_reducible refine Below.alloc ?_ (by (try simp only [World.size_setCell]); (try simp only [World.size_drew]); (try simp only [World.size_alloc]); (try simp only [World.size_setCell]); (try simp only [World.size_alloc]); omega) _))))
            (first
              | (go_at_call 73; (with_reducible refine (HLt2.out _ ?_).mono ?_); (focus repeat' (first | with_reducible assumption | with_reducible exact Below.refl _ _ | (with_reducible refine Below.drew ?_) | (with_reducible refine Below.setCell ?_ (by (try dsimp only); omega) _) | (with_reducible refine Below.alloc ?_ (by (try simp only [World.size_setCell]); (try simp only [World.size_drew]); (try simp only [World.size_alloc]); (try simp only [World.size_setCell]); (try simp only [World.size_alloc]); omega) _))); rintro e w2 ⟨a2, c2, rfl, hb0, hN2⟩; have hbw2 : Below wo.heap.size wo w2 := below_step (by repeat' (first | with_reducible assumption | with_reducible exact Below.refl _ _ | (with_reducible refine Below.drew ?_) | (with_reducible refine Below.setCell ?_ (by (try dsimp only); omega) _) | (with_reducible refine Below.alloc ?_ (by (try simp only [World.size_setCell]); (try simp only [World.size_drew]); (try simp only [World.size_alloc]); (try simp only [World.size_setCell]); (try simp only [World.size_alloc]); omega) _))) hb0 (Nat.le_refl _); have hzw2 := hbw2.size; (try have B0 : T3 w2 wo.heap.size (.int .i64 0) (.int .i64 0) (.slice none 0 0) := T3.next (by exact (T3.new wo 0 0 none 0 0 _).drew) hb0); (try have L00 := B0.1))
              | (go_at_call 74; (with_reducible refine (HCm.out a2 c2 _ ?_ ?_).mono ?_); (focus repeat' (first | with_reducible assumption | with_reducible exact Below.refl _ _ | (with_reducible refine Below.drew ?_) | (with_reducible refine Below.setCell ?_ (by (try dsimp only); omega) _) | (with_reducible refine Below.alloc ?_ (by (try simp only [World.size_setCell]); (try simp only [World.size_drew]); (try simp only [World.size_alloc]); (try simp only [World.size_setCell]); (try simp only [World.size_alloc]); omega) _))); (focus refine Row.nextB hN2.row ?_; repeat' (first | with_reducible assumption | with_reducible exact Below.refl _ _ | (with_reducible refine Below.drew ?_) | (with_reducible refine Below.setCell ?_ (by (try dsimp only); omega) _) | (with_reducible refine Below.alloc ?_ (by (try simp only [World.size_setCell]); (try simp only [World.size_drew]); (try simp only [World.size_alloc]); (try simp only [World.size_setCell]); (try simp only [World.size_alloc]); omega) _))); rintro e w3 hpost; obtain ⟨X, Y, a5, l5, c5, ok, rfl, hb0, hU⟩ := SumPost.u hpost; (try simp only [World.size_drew] at hU); (try simp only [World.size_alloc] at hU); have hbw3 : Below wo.heap.size wo w3 := below_step (by repeat' (first | with_reducible assumption | with_reducible exact Below.refl _ _ | (with_reducible refine Below.drew ?_) | (with_reducible refine Below.setCell ?_ (by (try dsimp only); omega) _) | (with_reducible refine Below.alloc ?_ (by (try simp only [World.size_setCell]); (try simp only [World.size_drew]); (try simp only [World.size_alloc]); (try simp only [World.size_setCell]); (try simp only [World.size_alloc]); omega) _))) hb0 (Nat.le_refl _); have hzw3 := hbw3.size; have hbw2w3 : Below w2.heap.size w2 w3 := below_step (by repeat' (first | with_reducible assumption | with_reducible exact Below.refl _ _ | (with_reducible refine Below.drew ?_) | (with_reducible refine Below.setCell ?_ (by (try dsimp only); omega) _) | (with_reducible refine Below.alloc ?_ (by (try simp only [World.size_setCell]); (try simp only [World.size_drew]); (try simp only [World.size_alloc]); (try simp only [World.size_setCell]); (try simp only [World.size_alloc]); omega) _))) hb0 (Nat.le_refl _); have hzw2w3 := hbw2w3.size; (try have B0 := B0.next hbw2w3); (try have B1 : T3 w3 w2.heap.size (.int .i64 0) (.int .i64 0) (.slice none 0 0) := T3.next (by exact T3.new w2 0 0 none 0 0 _) hb0); (try have L01 := B0.1); (try have L11 := B1.1); (try obtain ⟨-, b00, b01, b02, b03, b04, b05⟩ := id B0); (try obtain ⟨-, b10, b11, b12, b13, b14, b15⟩ := id B1))
              | fail)
          all_goals (go_wp2_with fail; go_meet)
          all_goals (refine ⟨_, X, Y, a5, l5, c5, ok, rfl, rfl, ?_, ?_, ?_, ?_⟩)
          all_goals (first | (with_reducible assumption) | (with_reducible exact Nat.le_refl _) | ((repeat' (first | with_reducible assumption | with_reducible exact Below.refl _ _ | (with_reducible refine Below.drew ?_) | (with_reducible refine Below.setCell ?_ (by (try dsimp only); omega) _) | (with_reducible refine Below.alloc ?_ (by (try simp only [World.size_setCell]); (try simp only [World.size_drew]); (try simp only [World.size_alloc]); (try simp only [World.size_setCell]); (try simp only [World.size_alloc]); omega) _))); done) | ((repeat' (first | with_reducible assumption | (with_reducible refine T3.newAt ?_; first | with_reducible rfl | (simp only [World.size_setCell]; done) | (simp only [World.size_alloc]; done) | (simp only [World.size_alloc, World.size_setCell]; done)) | (with_reducible refine T3.fill ?_) | (with_reducible refine T3.far ?_ (by first | with_reducible assumption | omega)) | (with_reducible refine T3.alloc ?_ _))); done) | omega | (with_reducible exact (hU.below (below1 _ _)).mono (by omega)) | (with_reducible exact (((hU.far (by omega)).far (by omega)).far (by omega)).mono (by omega)))
        case rest =>
          obtain ⟨g2, X, Y, a5, l5, c5, ok, rfl, rfl, hg2, hbc, hT5, hU⟩ := hcut
          obtain ⟨w5, rfl⟩ : ∃ w5 : World, w5 = wc := ⟨_, rfl⟩
          have hz5 := hbc.size
          cases r with
          | none =>
            obtain ⟨rfl, rfl, rfl, rfl, rfl, rfl⟩ := hU
            have HF := Lib.hid (HDd.out (k + 1) (by omega) HRr.out (by omega))
            have hT4 := ((HT4.out.below HB.out (by have := HWZ.out; omega)).next hbc)
            obtain ⟨hq4, r0, r1, r2, z0, z1, z2⟩ := id hT4
            have HW5 := Lib.hid (HBw.out.trans (hbc.mono (by omega)))
            clear hbc hT4 hT5
            go_wp2_with fail
            rw [HF.out]
            refine bodyPost_ret (v := .tuple #[.agg #[.int .i64 0, .int .i64 0, .slice none 0 0], .bool false]) (by simp [results, Tryz.results37, go_sem, r0, r1, r2]) rfl ⟨rfl, ?_⟩
            have hW := HW5.out
            go_grown
          | some s' =>
            obtain ⟨rfl, rfl, rfl, rfl, hN5⟩ := hU
            have hTO5 := HTP.out.next hbc
            have HTO5 := Lib.hid (hTO5.set3 (x' := .int .i64 D) (y' := .int .i64 N) (z' := .slice a5 (termsOf s' (allW D N)).length c5))
            have HRO5 := Lib.hid (((((RowF.of (B := wb.heap.size) (p := g) (q := g) hN5 (by omega) (.inl hwA) (.inl hwA)).set (n := g) (i := 0) (u := .int .i64 D) (.inl rfl)).set (n := g) (i := 1) (u := .int .i64 N) (.inl rfl)).set (n := g) (i := 2) (u := .slice a5 (termsOf s' (allW D N)).length c5) (.inl rfl)))
            have HB5 := Lib.hid ((((HB.out.trans (hbc.mono (by omega))).setCell (p := ⟨g, 0, none⟩) hg (.int .i64 D)).setCell (p := ⟨g, 1, none⟩) hg (.int .i64 N)).setCell (p := ⟨g, 2, none⟩) hg (.slice a5 (termsOf s' (allW D N)).length c5))
            obtain ⟨hq4, r0, r1, r2, z0, z1, z2⟩ := id hTO5
            obtain ⟨hq5, t0, t1, t2, -, -, -⟩ := id hT5
            clear hbc hTO5 hN5 hT5
            go_wp2_with fail
            go_roundw
            case rel => exact ⟨k + 1, s', a5, _, c5, by omega, by omega, by go_num, HRr.out, rfl, HTO5.out, HRO5.out, HB5.out⟩
            case measure => simp [intOf]; omega
      · obtain rfl : k = s.size := by omega
        have HO2 := Lib.hid (HEn.out.trans HPk.out)
        have hT4 := HT4.out.below HB.out (by have := HWZ.out; omega)
        obtain ⟨hz4, r0, r1, r2, z0, z1, z2⟩ := id hT4
        obtain ⟨n0, n1, n2⟩ : wo.cell? ⟨g, 0, none⟩ = some (.int .i64 D) ∧ wo.cell? ⟨g, 1, none⟩ = some (.int .i64 N) ∧ wo.cell? ⟨g, 2, none⟩ = some (.slice aP (termsOf p (allW D N)).length cP) := ⟨HTP.out.2.1, HTP.out.2.2.1, HTP.out.2.2.2.1⟩
        have HNw := Lib.hid (HRP.out.newRow.mono (show w.heap.size + 2 ≤ wb.heap.size by have := HWZ.out; omega) (Nat.le_refl _))
        clear hT4
        go_wp2
        rw [HO2.out]
        refine bodyPost_ret (v := .tuple #[.agg #[.int .i64 D, .int .i64 N, .slice aP (termsOf p (allW D N)).length cP], .bool true]) (by simp [results, Tryz.results37, go_sem, r0, r1, r2]) rfl ⟨aP, cP, rfl, ?_, ?_⟩
        · have hW := HBw.out
          go_grown
        · exact (((HNw.out.far1s (by omega)).far1s (by omega)).far1s (by omega)).mono (by omega) (by simp)

end Go.Proofs.YtjjkkaikinjmdaaGreatDoor
