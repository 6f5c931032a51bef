/-
  The model's brackets of words: of Lyndon words, and from the left.
-/
import Derived.Test.YtgcjpenlcokgjaaGreatDoorBvM
import Derived.Test.YtgcjpenlcokgjaaGreatDoorLy6
import Derived.Test.YtgcjpenlcokgjaaGreatDoorTri
import Derived.Test.YtgcjpenlcokgjaaGreatDoorUnitS
import Derived.Deep.RegionHeld3
import Derived.Deep.RegionLaw
namespace Go.Proofs.YtgcjpenlcokgjaaGreatDoor
open Go.RowKit

/-- where a letter's variable stands behind its append -/
def LCut (B : Nat) (W0 : World) (s : ByteArray) (n : Nat) (L V : Int) (wy : World) : Prop :=
  ∃ gq G : Nat, n < wy.heap.size ∧ Below B W0 wy ∧ wy.cell? ⟨n, 0, none⟩ = some (.int .i64 L) ∧ wy.cell? ⟨n, 1, none⟩ = some (.int .i64 V) ∧ wy.cell? ⟨n, 2, none⟩ = some (.slice (some ⟨gq, 0, none⟩) 1 G) ∧
    NewRow B wy.heap.size wy (some ⟨gq, 0, none⟩) [⟨s, 1, 1⟩]
set_option maxRecDepth 100000 in
set_option maxHeartbeats 4000000 in
theorem l06Letter_c (L V : Int) (s : ByteArray) (a : Option Addr) (n c : Nat) (w : World) :
    Calls Tryz.prog 108 #[.agg #[.int .i64 L, .int .i64 V, .slice a n c], .string s] w (SerOnly L V [⟨s, 1, 1⟩] w) := by
  obtain ⟨i0, hi0, hi1, hi2, hi3⟩ := info_parts info_term
  go_enter Tryz.func108, Tryz.ntmps108
  go_wp2_with fail
  refine (l01Empty_c L V _ rfl _).mono ?_
  rintro e w1 ⟨g1, rfl, hO, hb1⟩
  have hz1 : w.heap.size + 1 < w1.heap.size := by have := hb1.size; have := (hO.lt g1 rfl).1; have := (hO.lt g1 rfl).2; simp at *; omega
  have HO := Lib.hid (show OwnT w1 (w.heap.size + 1 + 1) (.slice (some ⟨g1, 0, none⟩) 0 0) [] from by simpa using hO)
  have HB := Lib.hid (show Below (w.heap.size + 1 + 1) _ w1 from by simpa using hb1)
  clear hb1 hO
  go_wp2_with fail
  go_upto_region 2 with fail
  have hO1 := HO.out.alloc (.cells #[.int .i64 L, .int .i64 V, .slice (some ⟨g1, 0, none⟩) 0 0] 26)
  have hg1 := (HO.out.lt g1 rfl).2
  have HO1 := Lib.hid hO1
  have hne1 : (Value.slice (some ⟨g1, 0, none⟩) 0 0).ownBlock ≠ some w1.heap.size := fun e => by have h : g1 = w1.heap.size := (by simpa [Value.ownBlock] using e); omega
  have HNE := Lib.hid hne1
  clear hO1 hne1
  go_cut [14] (fun _ wy => LCut (w.heap.size + 1 + 1) ((w.alloc (.cells #[.int .i64 L, .int .i64 V, .slice a n c] 26)).alloc (.cells #[.int .i64 0, .int .i64 0, .slice none 0 0] 26)) s w1.heap.size L V wy)
  case first =>
    go_region_with
      ((first
        | (go_at_call 134; refine (l02One_c _ _).mono ?_; rintro e w5 ⟨rfl, hb0⟩; have hb5 : Below (w1.heap.size + 1) (w1.alloc (.cells #[.int .i64 L, .int .i64 V, .slice (some ⟨g1, 0, none⟩) 0 0] 26)) w5 := ⟨hb0.os, hb0.tape, hb0.output, by simpa using hb0.size, fun j hj => hb0.block j (by simpa using hj)⟩; have hz5 : w1.heap.size < w5.heap.size := (by have := hb5.size; simp at this; omega); have m0 : w5.cell? ⟨w1.heap.size, 0, none⟩ = some (.int .i64 L) := (hb5.cell (p := ⟨w1.heap.size, 0, none⟩) (Nat.lt_succ_self _)).trans (by go_simp); have m1 : w5.cell? ⟨w1.heap.size, 1, none⟩ = some (.int .i64 V) := (hb5.cell (p := ⟨w1.heap.size, 1, none⟩) (Nat.lt_succ_self _)).trans (by go_simp); have m2 : w5.cell? ⟨w1.heap.size, 2, none⟩ = some (.slice (some ⟨g1, 0, none⟩) 0 0) := (hb5.cell (p := ⟨w1.heap.size, 2, none⟩) (Nat.lt_succ_self _)).trans (by go_simp); have mf : w5.frozen? ⟨w1.heap.size, 2, none⟩ = false := (hb5.frozen (p := ⟨w1.heap.size, 2, none⟩) (Nat.lt_succ_self _)).trans (by go_simp); have HO5 := Lib.hid (HO1.out.below hb5 (fun g h => by have := (HO.out.lt g h).2; omega)))
        | (refine step_append_lies _ (by rfl) _ _ _ (by rfl) (w.heap.size + 1 + 1) 60 i0 _ 3 32 Tryz.underlying24 hi0 hi1 hi2 hi3 rfl (by omega) (.slice (some ⟨g1, 0, none⟩) 0 0) 0 [] (by rfl) (by have h := HO5.out; unfold OwnT at h; exact h.alloc _)
            ⟨w5.heap.size, 0, none⟩ 1 1 [.string s, .int .i64 1, .int .i64 1] (by rfl) (by rfl) (World.news_of_block (cs := #[.string s, .int .i64 1, .int .i64 1]) (t := 60) (fr := (0, 0)) (heap_alloc_new w5 _)) (by simp [Value.oneCell'])
            (by omega) (by unfold maxLen; omega) (by omega) (by simp; omega) (w5.heap.size + 1) (by simp) ?_; intro gg cg w2 hown1 hgrow hat hlt2)))
    all_goals
      have hn := fun (v : Value) (zs : Array Value) => row_new ((w5.setCell ⟨w1.heap.size, 2, none⟩ v).alloc (.cells #[.string s, .int .i64 1, .int .i64 1] 60)) zs s 1 1
      simp only [World.size_alloc, World.size_setCell] at hn
      have HN := Lib.hid hn
      have HB5 := Lib.hid (HB.out.trans (((below1 w1 (.cells #[.int .i64 L, .int .i64 V, .slice (some ⟨g1, 0, none⟩) 0 0] 26)).mono (by omega)).trans (hb5.mono (by omega))))
      clear hn hb0 hb5
      go_wp2_with fail
      go_meet
      refine ⟨w5.heap.size + 1, (Question.appendCap 1 0 60).cut (w5.tape w5.drawn (Question.appendCap 1 0 60)), by simp; omega, Below.drew (((HB5.out.setCell (p := ⟨w1.heap.size, 2, none⟩) (by show _ ≤ w1.heap.size; omega) _).alloc (by simp; omega) _).alloc (by simp; omega) _), by go_simp, by go_simp, by go_simp, .inr ⟨_, rfl, by omega, by simp, (HN.out _ _).2, (HN.out _ _).1⟩⟩
  case rest =>
    obtain ⟨gq, G, hnq, hBy, m0, m1, m2, hNq⟩ := hcut
    obtain ⟨wy, rfl⟩ : ∃ wy : World, wy = wc := ⟨_, rfl⟩
    have bc := bcellB hBy
    have hzy : w.heap.size + 1 < wy.heap.size := by omega
    have r0 : wy.cell? ⟨w.heap.size + 1, 0, none⟩ = some (.int .i64 0) := (bc.1 _ _ (by omega)).trans (by go_simp)
    have r1 : wy.cell? ⟨w.heap.size + 1, 1, none⟩ = some (.int .i64 0) := (bc.1 _ _ (by omega)).trans (by go_simp)
    have r2 : wy.cell? ⟨w.heap.size + 1, 2, none⟩ = some (.slice none 0 0) := (bc.1 _ _ (by omega)).trans (by go_simp)
    have z0 : wy.frozen? ⟨w.heap.size + 1, 0, none⟩ = false := (bc.2 _ _ (by omega)).trans (by go_simp)
    have z1 : wy.frozen? ⟨w.heap.size + 1, 1, none⟩ = false := (bc.2 _ _ (by omega)).trans (by go_simp)
    have z2 : wy.frozen? ⟨w.heap.size + 1, 2, none⟩ = false := (bc.2 _ _ (by omega)).trans (by go_simp)
    have HW := Lib.hid ((below2 w (.cells #[.int .i64 L, .int .i64 V, .slice a n c] 26) (.cells #[.int .i64 0, .int .i64 0, .slice none 0 0] 26)).trans (hBy.mono (by omega)))
    have HNq := Lib.hid hNq
    clear bc hBy hNq
    go_wp2
    refine bodyPost_ret (v := .agg #[.int .i64 L, .int .i64 V, .slice (some ⟨gq, 0, none⟩) 1 G]) (by simp [results, Tryz.results108, go_sem, r0, r1, r2]) rfl ⟨some ⟨gq, 0, none⟩, G, rfl, ?_, ?_⟩
    · have hW := HW.out
      go_grown
    · exact (HNq.out.far3u (n := w.heap.size + 1) (by omega)).mono (by omega) (by simp)


set_option maxRecDepth 100000 in
set_option maxHeartbeats 8000000 in
theorem l06Bracket_c (D N : Nat) (hD : 1 ≤ D ∧ D ≤ 3) (hN : N ≤ 5) : ∀ {s : ByteArray} {b : Brk}, BrkOf s b → s.size ≤ 1000 → b.inW (allW D N) → ∀ (a : Option Addr) (n c : Nat) (w : World),
    Calls Tryz.prog 67 #[.agg #[.int .i64 D, .int .i64 N, .slice a n c], .string s] w (SumPost D N ((brkV (allW D N) b).map fun h => termsOf h (allW D N)) w) := by
  intro s b hb
  induction hb with
  | one s h =>
    intro hs hi a n c w
    have h' : (s.size : Int) = 1 := by omega
    have HT1 := Lib.hid (show ((brkV (allW D N) (.leaf s)).map fun h => termsOf h (allW D N)) = some [⟨s, 1, 1⟩] from by show some (termsOf (oneF s) (allW D N)) = _; rw [one_terms hD.2 hi])
    clear hi
    go_enter Tryz.func67, Tryz.ntmps67
    go_wp2_with fail
    refine (l06Letter_c D N s a n c _).mono ?_
    rintro e w1 ⟨a1, c1, rfl, hb1, hN1⟩
    have hz1 : w.heap.size + 2 ≤ w1.heap.size := by have := hb1.size; simpa using this
    have HB1 := Lib.hid (show Below (w.heap.size + 1 + 1) _ w1 from by simpa using hb1)
    have HN1 := Lib.hid (hN1.mono (show w.heap.size + 2 ≤ _ by simp) (Nat.le_refl _))
    have bc := bcellB HB1.out
    have r0 : w1.cell? ⟨w.heap.size + 1, 0, none⟩ = some (.int .i64 0) := (bc.1 _ _ (by omega)).trans (by go_simp)
    have r1 : w1.cell? ⟨w.heap.size + 1, 1, none⟩ = some (.int .i64 0) := (bc.1 _ _ (by omega)).trans (by go_simp)
    have r2 : w1.cell? ⟨w.heap.size + 1, 2, none⟩ = some (.slice none 0 0) := (bc.1 _ _ (by omega)).trans (by go_simp)
    have z0 : w1.frozen? ⟨w.heap.size + 1, 0, none⟩ = false := (bc.2 _ _ (by omega)).trans (by go_simp)
    have z1 : w1.frozen? ⟨w.heap.size + 1, 1, none⟩ = false := (bc.2 _ _ (by omega)).trans (by go_simp)
    have z2 : w1.frozen? ⟨w.heap.size + 1, 2, none⟩ = false := (bc.2 _ _ (by omega)).trans (by go_simp)
    have HW := Lib.hid ((below2 w (.cells #[.int .i64 D, .int .i64 N, .slice a n c] 26) (.cells #[.int .i64 0, .int .i64 0, .slice none 0 0] 26)).trans (HB1.out.mono (by omega)))
    clear bc hb1 hN1
    go_wp2
    rw [HT1.out]
    refine bodyPost_ret (v := .tuple #[.agg #[.int .i64 D, .int .i64 N, .slice a1 1 c1], .bool true]) (by simp [results, Tryz.results67, go_sem, r0, r1, r2]) rfl ⟨a1, c1, rfl, ?_, ?_⟩
    · have hW := HW.out
      go_grown
    · exact (HN1.out.far3u (n := w.heap.size + 1) (by omega)).mono (by omega) (by simp)
  | two s i l r h2 hi hl hr ihl ihr =>
    intro hs hiW a n c w
    have HI := Lib.hid hi
    have hi1 := hi.1
    have hi2 := hi.2.1
    have h' : ((s.size : Int) == 1) = false := by simp; omega
    have b1 : (0 : Int) ≤ (i : Int) := by omega
    have b2 : (i : Int) ≤ (s.size : Int) := by omega
    have z1 : (s.extract 0 i).size ≤ 1000 := by rw [ByteArray.size_extract]; omega
    have z2 : (s.extract i s.size).size ≤ 1000 := by rw [ByteArray.size_extract]; omega
    have HGl := Lib.hid (fun f (e : brkV (allW D N) l = some f) => brkV_good hiW.1 e)
    have HGr := Lib.hid (fun g (e : brkV (allW D N) r = some g) => brkV_good hiW.2 e)
    have HCl := Lib.hid (ihl z1 hiW.1)
    have HCr := Lib.hid (ihr z2 hiW.2)
    have HLn := Lib.hid (fun (e : brkV (allW D N) l = none) => brkV_l (r := r) e)
    have HRn := Lib.hid (fun (e : brkV (allW D N) r = none) => brkV_r (l := l) e)
    have HLR := Lib.hid (fun f g (e : brkV (allW D N) l = some f) (e2 : brkV (allW D N) r = some g) => brkV_lr e e2)
    have HCo := Lib.hid (fun a1 a2 c1 c2 f g (hf : GoodV (allW D N) f) (hg : GoodV (allW D N) g) W r1 r2 => l02Commutator_c D N hD hN a1 a2 c1 c2 f g hf hg (termsOf f (allW D N)) (termsOf g (allW D N)) rfl rfl (by have := termsOf_len f (allW D N); have := allW_few (D := D) hD.2 (n := N) hN; omega) (by have := termsOf_len g (allW D N); have := allW_few (D := D) hD.2 (n := N) hN; omega) W r1 r2)
    obtain ⟨o, ho⟩ : ∃ o, brkV (allW D N) (.node l r) = o := ⟨_, rfl⟩
    rw [ho] at HLn HRn HLR ⊢
    obtain ⟨ol, hol⟩ : ∃ o, brkV (allW D N) l = o := ⟨_, rfl⟩
    obtain ⟨or, hor⟩ : ∃ o, brkV (allW D N) r = o := ⟨_, rfl⟩
    rw [hol] at HLn HGl HCl HLR
    rw [hor] at HRn HGr HCr HLR
    clear ihl ihr hl hr hi z1 z2 hiW ho hol hor
    go_enter Tryz.func67, Tryz.ntmps67
    go_wp2_with fail
    have HT4 := Lib.hid (show T3 ((w.alloc (.cells #[.int .i64 D, .int .i64 N, .slice a n c] 26)).alloc (.cells #[.int .i64 0, .int .i64 0, .slice none 0 0] 26)) (w.heap.size + 1) (.int .i64 0) (.int .i64 0) (.slice none 0 0) from T3.newAt (by simp))
    have x0 : ((w.alloc (.cells #[.int .i64 D, .int .i64 N, .slice a n c] 26)).alloc (.cells #[.int .i64 0, .int .i64 0, .slice none 0 0] 26)).cell? ⟨w.heap.size, 0, none⟩ = some (.int .i64 D) := by go_simp
    have x1 : ((w.alloc (.cells #[.int .i64 D, .int .i64 N, .slice a n c] 26)).alloc (.cells #[.int .i64 0, .int .i64 0, .slice none 0 0] 26)).cell? ⟨w.heap.size, 1, none⟩ = some (.int .i64 N) := by go_simp
    have x2 : ((w.alloc (.cells #[.int .i64 D, .int .i64 N, .slice a n c] 26)).alloc (.cells #[.int .i64 0, .int .i64 0, .slice none 0 0] 26)).cell? ⟨w.heap.size, 2, none⟩ = some (.slice a n c) := by go_simp
    have HWb := Lib.hid (below2 w (.cells #[.int .i64 D, .int .i64 N, .slice a n c] 26) (.cells #[.int .i64 0, .int .i64 0, .slice none 0 0] 26))
    have hwb : ((w.alloc (.cells #[.int .i64 D, .int .i64 N, .slice a n c] 26)).alloc (.cells #[.int .i64 0, .int .i64 0, .slice none 0 0] 26)).heap.size = w.heap.size + 2 := by simp
    generalize ((w.alloc (.cells #[.int .i64 D, .int .i64 N, .slice a n c] 26)).alloc (.cells #[.int .i64 0, .int .i64 0, .slice none 0 0] 26)) = wb at *
    have hww : w.heap.size < wb.heap.size := by omega
    have KS := Lib.hid (show ∀ w', Below wb.heap.size wb w' → (w'.cell? ⟨w.heap.size, 0, none⟩ = some (.int .i64 D) ∧ w'.cell? ⟨w.heap.size, 1, none⟩ = some (.int .i64 N) ∧ w'.cell? ⟨w.heap.size, 2, none⟩ = some (.slice a n c)) from fun w' hb => ⟨(hb.cell (p := ⟨w.heap.size, 0, none⟩) hww).trans x0, (hb.cell (p := ⟨w.heap.size, 1, none⟩) hww).trans x1, (hb.cell (p := ⟨w.heap.size, 2, none⟩) hww).trans x2⟩)
    have HWZ := Lib.hid hwb
    clear hwb
    go_loopw [6] (fun vi wr => ∃ k : Nat, 1 ≤ k ∧ k ≤ i ∧ vi = .int .i64 k ∧ wb = wr) (fun vi _ => s.size - (intOf vi).toNat)
    case atStart => exact ⟨1, Nat.le_refl _, hi1, rfl, rfl⟩
    case round =>
      obtain ⟨k, hk1, hk, rfl, rfl⟩ := hrel
      have hz : (s.extract k s.size).size ≤ maxLen := by simp only [ByteArray.size_extract]; unfold maxLen; omega
      by_cases hp : k = i
      · have HB : Hid (lynB (s.extract k s.size) = true) := Lib.hid (by rw [hp]; exact HI.out.2.2.1)
        subst hp
        go_wp2_with (first | (go_at_call 62; refine (l06Lyndon_c _ hz _).mono ?_; rw [HB.out]; rintro e w' ⟨rfl, rfl⟩) | fail)
        have HA1 := Lib.hid (fun W (_ : Below wb.heap.size wb W) => HCl.out a n c W)
        clear hz x0 x1 x2
        go_upto_region 6 with fail
        go_cut [7, 8] (SerCut wb D N (ol.map fun h => termsOf h (allW D N)))
        case first =>
          go_region_held3 (fun w' => w'.cell? ⟨w.heap.size, 0, none⟩ = some (.int .i64 D) ∧ w'.cell? ⟨w.heap.size, 1, none⟩ = some (.int .i64 N) ∧ w'.cell? ⟨w.heap.size, 2, none⟩ = some (.slice a n c))
            ((refine KS.out _ ?_; repeat' (first | with_reducible assumption | with_reducible exact Below.refl _ _ | (with_reducible refine Below.drew ?_) | (with_reducible refine Below.setCell ?_ (by (try dsimp only); omega) _) | (with_reducible refine Below.alloc ?_ (by (try simp only [World.size_setCell]); (try simp only [World.size_drew]); (try simp only [World.size_alloc]); (try simp only [World.size_setCell]); (try simp only [World.size_alloc]); omega) _))))
            (first
              | (go_at_call 67; (with_reducible refine (HA1.out _ ?_).mono ?_); (focus repeat' (first | with_reducible assumption | with_reducible exact Below.refl _ _ | (with_reducible refine Below.drew ?_) | (with_reducible refine Below.setCell ?_ (by (try dsimp only); omega) _) | (with_reducible refine Below.alloc ?_ (by (try simp only [World.size_setCell]); (try simp only [World.size_drew]); (try simp only [World.size_alloc]); (try simp only [World.size_setCell]); (try simp only [World.size_alloc]); omega) _))); rintro e w3 hpost; obtain ⟨X, Y, a5, l5, c5, ok, rfl, hb0, hU⟩ := SumPost.u hpost; (try simp only [World.size_drew] at hU); (try simp only [World.size_alloc] at hU); have hbw3 : Below wb.heap.size wb w3 := below_step (by repeat' (first | with_reducible assumption | with_reducible exact Below.refl _ _ | (with_reducible refine Below.drew ?_) | (with_reducible refine Below.setCell ?_ (by (try dsimp only); omega) _) | (with_reducible refine Below.alloc ?_ (by (try simp only [World.size_setCell]); (try simp only [World.size_drew]); (try simp only [World.size_alloc]); (try simp only [World.size_setCell]); (try simp only [World.size_alloc]); omega) _))) hb0 (Nat.le_refl _); have hzw3 := hbw3.size; (try have B0 : T3 w3 wb.heap.size (.int .i64 0) (.int .i64 0) (.slice none 0 0) := T3.next (by exact (T3.new wb 0 0 none 0 0 _).drew) hb0); (try have L00 := B0.1); (try obtain ⟨-, b00, b01, b02, b03, b04, b05⟩ := id B0))
              | fail)
          all_goals (go_wp2_with fail; go_meet)
          all_goals (refine ⟨_, X, Y, a5, l5, c5, ok, rfl, rfl, ?_, ?_, ?_, ?_⟩)
          all_goals (first | (with_reducible assumption) | (with_reducible exact Nat.le_refl _) | ((repeat' (first | with_reducible assumption | with_reducible exact Below.refl _ _ | (with_reducible refine Below.drew ?_) | (with_reducible refine Below.setCell ?_ (by (try dsimp only); omega) _) | (with_reducible refine Below.alloc ?_ (by (try simp only [World.size_setCell]); (try simp only [World.size_drew]); (try simp only [World.size_alloc]); (try simp only [World.size_setCell]); (try simp only [World.size_alloc]); omega) _))); done) | ((repeat' (first | with_reducible assumption | (with_reducible refine T3.newAt ?_; first | with_reducible rfl | (simp only [World.size_setCell]; done) | (simp only [World.size_alloc]; done) | (simp only [World.size_alloc, World.size_setCell]; done)) | (with_reducible refine T3.fill ?_) | (with_reducible refine T3.far ?_ (by first | with_reducible assumption | omega)) | (with_reducible refine T3.alloc ?_ _))); done) | omega | (with_reducible exact (hU.below (below1 _ _)).mono (by omega)) | (with_reducible exact (((hU.far (by omega)).far (by omega)).far (by omega)).mono (by omega)))
        case rest =>
          obtain ⟨g, X, Y, a5, l5, c5, ok, rfl, rfl, hg, hbc, hT5, hU⟩ := hcut
          obtain ⟨wq, rfl⟩ : ∃ wq : World, wq = wc := ⟨_, rfl⟩
          have hzq := hbc.size
          have HTq := Lib.hid (HT4.out.below hbc (by have := HWZ.out; omega))
          have HTg := Lib.hid hT5
          have HBq := Lib.hid hbc
          have HU5 := Lib.hid hU
          obtain ⟨x0, x1, x2⟩ := KS.out wq hbc
          have hwq : w.heap.size < wq.heap.size := by omega
          have KS2 := Lib.hid (show ∀ w', Below wq.heap.size wq w' → (w'.cell? ⟨w.heap.size, 0, none⟩ = some (.int .i64 D) ∧ w'.cell? ⟨w.heap.size, 1, none⟩ = some (.int .i64 N) ∧ w'.cell? ⟨w.heap.size, 2, none⟩ = some (.slice a n c)) from fun w' hb => ⟨(hb.cell (p := ⟨w.heap.size, 0, none⟩) hwq).trans x0, (hb.cell (p := ⟨w.heap.size, 1, none⟩) hwq).trans x1, (hb.cell (p := ⟨w.heap.size, 2, none⟩) hwq).trans x2⟩)
          have HA2 := Lib.hid (fun W (_ : Below wq.heap.size wq W) => HCr.out a n c W)
          clear hbc hT5 hU x0 x1 x2
          go_upto_region 7 with fail
          go_cut [9, 10] (SerCut wq D N (or.map fun h => termsOf h (allW D N)))
          case first =>
            go_region_held3 (fun w' => w'.cell? ⟨w.heap.size, 0, none⟩ = some (.int .i64 D) ∧ w'.cell? ⟨w.heap.size, 1, none⟩ = some (.int .i64 N) ∧ w'.cell? ⟨w.heap.size, 2, none⟩ = some (.slice a n c))
              ((refine KS2.out _ ?_; repeat' (first | with_reducible assumption | with_reducible exact Below.refl _ _ | (with_reducible refine Below.drew ?_) | (with_reducible refine Below.setCell ?_ (by (try dsimp only); omega) _) | (with_reducible refine Below.alloc ?_ (by (try simp only [World.size_setCell]); (try simp only [World.size_drew]); (try simp only [World.size_alloc]); (try simp only [World.size_setCell]); (try simp only [World.size_alloc]); omega) _))))
              (first
                | (go_at_call 67; (with_reducible refine (HA2.out _ ?_).mono ?_); (focus repeat' (first | with_reducible assumption | with_reducible exact Below.refl _ _ | (with_reducible refine Below.drew ?_) | (with_reducible refine Below.setCell ?_ (by (try dsimp only); omega) _) | (with_reducible refine Below.alloc ?_ (by (try simp only [World.size_setCell]); (try simp only [World.size_drew]); (try simp only [World.size_alloc]); (try simp only [World.size_setCell]); (try simp only [World.size_alloc]); omega) _))); rintro e w4 hpost; obtain ⟨X, Y, a6, l6, c6, ok, rfl, hb0, hU⟩ := SumPost.u hpost; (try simp only [World.size_drew] at hU); (try simp only [World.size_alloc] at hU); have hbw4 : Below wq.heap.size wq w4 := below_step (by repeat' (first | with_reducible assumption | with_reducible exact Below.refl _ _ | (with_reducible refine Below.drew ?_) | (with_reducible refine Below.setCell ?_ (by (try dsimp only); omega) _) | (with_reducible refine Below.alloc ?_ (by (try simp only [World.size_setCell]); (try simp only [World.size_drew]); (try simp only [World.size_alloc]); (try simp only [World.size_setCell]); (try simp only [World.size_alloc]); omega) _))) hb0 (Nat.le_refl _); have hzw4 := hbw4.size; (try have B0 : T3 w4 wq.heap.size (.int .i64 0) (.int .i64 0) (.slice none 0 0) := T3.next (by exact (T3.new wq 0 0 none 0 0 _).drew) hb0); (try have L00 := B0.1); (try obtain ⟨-, b00, b01, b02, b03, b04, b05⟩ := id B0))
                | fail)
            all_goals (go_wp2_with fail; go_meet)
            all_goals (refine ⟨_, X, Y, a6, l6, c6, ok, rfl, rfl, ?_, ?_, ?_, ?_⟩)
            all_goals (first | (with_reducible assumption) | (with_reducible exact Nat.le_refl _) | ((repeat' (first | with_reducible assumption | with_reducible exact Below.refl _ _ | (with_reducible refine Below.drew ?_) | (with_reducible refine Below.setCell ?_ (by (try dsimp only); omega) _) | (with_reducible refine Below.alloc ?_ (by (try simp only [World.size_setCell]); (try simp only [World.size_drew]); (try simp only [World.size_alloc]); (try simp only [World.size_setCell]); (try simp only [World.size_alloc]); omega) _))); done) | ((repeat' (first | with_reducible assumption | (with_reducible refine T3.newAt ?_; first | with_reducible rfl | (simp only [World.size_setCell]; done) | (simp only [World.size_alloc]; done) | (simp only [World.size_alloc, World.size_setCell]; done)) | (with_reducible refine T3.fill ?_) | (with_reducible refine T3.far ?_ (by first | with_reducible assumption | omega)) | (with_reducible refine T3.alloc ?_ _))); done) | omega | (with_reducible exact (hU.below (below1 _ _)).mono (by omega)) | (with_reducible exact (((hU.far (by omega)).far (by omega)).far (by omega)).mono (by omega)))
          case rest =>
            obtain ⟨g2, X2, Y2, a6, l6, c6, ok2, rfl, rfl, hg2, hbc2, hT6, hU2⟩ := hcut
            obtain ⟨w6, rfl⟩ : ∃ w6 : World, w6 = wc := ⟨_, rfl⟩
            have hz6 := hbc2.size
            have hT4 := HTq.out.below hbc2 (by have := HWZ.out; omega)
            have hTg := HTg.out.below hbc2 HTg.out.1
            have HB6 := Lib.hid (HWb.out.trans ((HBq.out.trans (hbc2.mono hzq)).mono (by have := HWZ.out; omega)))
            have HUg := Lib.hid (HU5.out.below hbc2)
            cases ol with
            | none =>
              obtain ⟨-, -, -, -, -, rfl⟩ := HU5.out
              obtain ⟨hq4, r0, r1, r2, z0, z1, z2⟩ := id hT4
              have HF := Lib.hid (HLn.out rfl)
              clear hbc2 hT6 hT4 hTg hU2 HUg HU5
              go_wp2_with fail
              rw [HF.out]
              refine bodyPost_ret (v := .tuple #[.agg #[.int .i64 0, .int .i64 0, .slice none 0 0], .bool false]) (by simp [results, Tryz.results67, go_sem, r0, r1, r2]) rfl ⟨rfl, ?_⟩
              have hW := HB6.out
              go_grown
            | some f =>
              obtain ⟨hX, hY, hl5, rfl, hNl⟩ := HUg.out
              subst hX hY hl5
              cases or with
              | none =>
                obtain ⟨-, -, -, -, -, rfl⟩ := hU2
                obtain ⟨hq4, r0, r1, r2, z0, z1, z2⟩ := id hT4
                have HF := Lib.hid (HRn.out rfl)
                clear hbc2 hT6 hT4 hTg HUg HU5 hNl
                go_wp2_with fail
                rw [HF.out]
                refine bodyPost_ret (v := .tuple #[.agg #[.int .i64 0, .int .i64 0, .slice none 0 0], .bool false]) (by simp [results, Tryz.results67, go_sem, r0, r1, r2]) rfl ⟨rfl, ?_⟩
                have hW := HB6.out
                go_grown
              | some g' =>
                obtain ⟨rfl, rfl, rfl, rfl, hNr⟩ := hU2
                have HF := Lib.hid (HLR.out f g' rfl rfl)
                have HPr := Lib.hid (HCo.out a5 a6 c5 c6 f g' (HGl.out f rfl) (HGr.out g' rfl) w6 hNl.row hNr.row)
                obtain ⟨hqg, s0, s1, s2, -, -, -⟩ := id hTg
                obtain ⟨hqh, t0, t1, t2, -, -, -⟩ := id hT6
                have HT4b := Lib.hid hT4
                clear hbc2 hT6 hT4 hTg HUg HU5 hNl hNr
                go_wp2_with fail
                refine HPr.out.mono ?_
                clear s0 s1 s2 t0 t1 t2
                rintro e w7 hpost
                obtain ⟨X, Y, a7, l7, c7, ok, rfl, hb7, hU⟩ := SumPost.u hpost
                have hT4 := HT4b.out.next hb7
                obtain ⟨hq4, r0, r1, r2, z0, z1, z2⟩ := id hT4
                have hz7 := hb7.size
                have HU7 := Lib.hid hU
                have HB7 := Lib.hid (HB6.out.trans (hb7.mono (by have := HWZ.out; omega)))
                clear hpost hb7 hU hT4
                go_wp2
                rw [HF.out]
                refine bodyPost_ret (v := .tuple #[.agg #[.int .i64 X, .int .i64 Y, .slice a7 l7 c7], .bool ok]) (by simp [results, Tryz.results67, go_sem, r0, r1, r2, hq4]) rfl ?_
                have hU := HU7.out
                have hW := HB7.out
                have hwz := HWZ.out
                exact SumU.back (lo := w6.heap.size) (by first | exact (((hU.far (by omega)).far (by omega)).far (by omega)).below (below1 _ _) | exact (((hU.below (below1 _ _)).far (by omega)).far (by omega)).far (by omega)) (by go_grown) (by omega)
      · have HB : Hid (lynB (s.extract k s.size) = false) := Lib.hid (HI.out.2.2.2 k hk1 (by omega))
        clear x0 x1 x2
        go_wp2_with (first | (go_at_call 62; refine (l06Lyndon_c _ hz _).mono ?_; rw [HB.out]; rintro e w' ⟨rfl, rfl⟩) | fail)
        go_roundw
        case rel => exact ⟨k + 1, by omega, by omega, by go_num, trivial⟩
        case measure => simp [intOf]; omega

/-- a series in a box of its own -/
def SerCut1 (wb : World) (L V : Int) (ts : List Tm) (v : Value) (wy : World) : Prop :=
  ∃ (g : Nat) (a : Option Addr) (c l : Nat), v = .pointer (some ⟨g, 0, none⟩) ∧ l = ts.length ∧ wb.heap.size ≤ g ∧ Below wb.heap.size wb wy ∧ T3 wy g (.int .i64 L) (.int .i64 V) (.slice a l c) ∧ RowF wb.heap.size g g wy a ts
theorem Row.nextB {w w' : World} {a : Option Addr} {ts : List Tm} (h : Row w a ts) (hb : Below w.heap.size w w') : Row w' a ts := h.below hb

end Go.Proofs.YtgcjpenlcokgjaaGreatDoor
