/-
  The reciprocal of a fraction; the inverse of a series' values; the contract of the model's inverse.
-/
import Derived.Test.YtoeednnkadmjpaaGreatDoorLogSer
import Derived.Test.YtoeednnkadmjpaaGreatDoorConst
import Derived.Test.YtoeednnkadmjpaaGreatDoorAddP
import Derived.Deep.RegionHeld3
namespace Go.Proofs.YtoeednnkadmjpaaGreatDoor
open Go.RowKit

def recN (p q : Int) : Int := fN (1 * q) (1 * p)
def recD (p q : Int) : Int := fD (1 * q) (1 * p)
theorem rec_ok {p q : Int} (h : isF p q = true) (hp : p ≠ 0) : fOk (1 * q) (1 * p) = true := by
  rw [Int.one_mul, Int.one_mul]
  have h1 := isF_out h
  have hg : gi q p = 1 := by
    have := h1.2.2.2.2
    unfold gi at this ⊢
    rw [Int.gcd_comm]
    exact this
  by_cases h0 : 0 < p
  · refine (isF_self ?_).1
    simp only [isF, decide_eq_true_eq]
    exact ⟨by omega, by omega, by omega, by omega, hg⟩
  · rw [fOk_of hp]
    unfold lowOk lowN lowD
    rw [if_pos (by omega), if_pos (by omega), hg, Int.ediv_one, Int.ediv_one]
    simp only [isF, decide_eq_true_eq]
    refine ⟨by omega, by omega, by omega, by omega, ?_⟩
    unfold gi at hg ⊢
    rw [Int.neg_gcd, Int.gcd_neg]
    exact hg
theorem rec_isF {p q : Int} (h : isF p q = true) (hp : p ≠ 0) : isF (recN p q) (recD p q) = true := fOk_isFp (rec_ok h hp)
theorem apS_one {n d : Int} (h : isF n d = true) : apS 0 1 n d 1 1 = some (n, d) := by
  have h1 := isF_self h
  have e := apS_good (a := 0) (b := 1) (n := n) (d := d) (p := 1) (q := 1) (x := n) (y := d) (by rw [Int.mul_one, Int.mul_one]; exact h1.1) (by rw [Int.mul_one, Int.mul_one]; exact h1.2.1) (by rw [Int.mul_one, Int.mul_one]; exact h1.2.2) (by rw [Int.zero_mul, Int.zero_add, Int.mul_one, Int.one_mul]; exact h1.1)
  rw [e, Int.zero_mul, Int.zero_add, Int.mul_one, Int.one_mul, h1.2.1, h1.2.2]
theorem addK_copy {h : VF} (hg : ∀ s r, h s = some r → isF r.1 r.2 = true ∧ r.1 ≠ 0) : ∀ (us : List ByteArray) (f : VF), us.Pairwise (fun a b => a ≠ b) → (∀ s ∈ us, f s = none) → ∃ g, addK h 1 1 us f = some g ∧ (∀ s ∈ us, g s = h s) ∧ (∀ s, s ∉ us → g s = f s)
  | [], f, _, _ => ⟨f, rfl, fun s hs => by simp at hs, fun _ _ => rfl⟩
  | u :: us, f, hd, hn => by
    rw [List.pairwise_cons] at hd
    have hu := hn u (by simp)
    have hnot : u ∉ us := fun hs => hd.1 u hs rfl
    cases hh : h u with
    | none =>
      obtain ⟨g, h1, h2, h3⟩ := addK_copy hg us f hd.2 (fun s hs => hn s (by simp [hs]))
      refine ⟨g, by rw [addK, addStep_none hh, Option.bind_some, h1], fun s hs => ?_, fun s hs => h3 s (fun e => hs (by simp [e]))⟩
      rcases List.mem_cons.1 hs with e | e
      · subst e
        rw [h3 s hnot, hu, hh]
      · exact h2 s e
    | some r =>
      have hr := hg u r hh
      obtain ⟨g, h1, h2, h3⟩ := addK_copy hg us (setF f u (some (r.1, r.2))) hd.2 (fun s hs => by rw [setF_other (fun e => hnot (by rw [← e]; exact hs))]; exact hn s (by simp [hs]))
      refine ⟨g, by rw [addK, addStep_some hh, valF_none hu, apS_one hr.1, Option.map_some, Option.bind_some, nzF_1 (show (r.1, r.2).1 ≠ 0 from hr.2), h1], fun s hs => ?_, fun s hs => ?_⟩
      · rcases List.mem_cons.1 hs with e | e
        · subst e
          rw [h3 s hnot, setF_same, hh]
        · exact h2 s e
      · rw [h3 s (fun e => hs (by simp [e])), setF_other (fun e => hs (by simp [e]))]
theorem addK_one {ws : List ByteArray} (hne : ws.Pairwise (fun a b => a ≠ b)) {h : VF} (hg : GoodV ws h) : addK h 1 1 ws noneF = some h := by
  obtain ⟨g, h1, h2, h3⟩ := addK_copy (h := h) (fun s r e => ⟨(hg s r e).2.1, (hg s r e).2.2⟩) ws noneF hne (fun _ _ => rfl)
  rw [h1]
  congr 1
  funext s
  by_cases hs : s ∈ ws
  · exact h2 s hs
  · rw [h3 s hs]
    cases hh : h s with
    | none => rfl
    | some r => exact absurd (hg s r hh).1 hs
theorem asc_ne {ws : List ByteArray} (hd : ws.Pairwise lessW) : ws.Pairwise (fun a b => a ≠ b) := hd.imp (fun {a b} hab e => by
  subst e
  unfold lessW at hab
  rw [lessL_irrefl] at hab
  cases hab)
/-- the inverse: a / b is the reciprocal of the constant -/
def invV (x : VF) (a b : Int) (ws : List ByteArray) (N : Nat) : Option VF := (lessV x a b ws).bind fun z => (sumK z ws altF (N + 1)).bind fun s => addK s a b ws noneF
theorem inv_1 {x : VF} {a b : Int} {ws : List ByteArray} {N : Nat} (h : lessV x a b ws = none) : invV x a b ws N = none := by unfold invV; rw [h]; rfl
theorem inv_2 {x z : VF} {a b : Int} {ws : List ByteArray} {N : Nat} (h : lessV x a b ws = some z) (h2 : sumK z ws altF (N + 1) = none) : invV x a b ws N = none := by unfold invV; rw [h]; show (sumK z ws altF (N + 1)).bind _ = none; rw [h2]; rfl
theorem inv_3 {x z s : VF} {a b : Int} {ws : List ByteArray} {N : Nat} (h : lessV x a b ws = some z) (h2 : sumK z ws altF (N + 1) = some s) : invV x a b ws N = addK s a b ws noneF := by unfold invV; rw [h]; show (sumK z ws altF (N + 1)).bind _ = _; rw [h2]; rfl
theorem Box2.next {w w' : World} {g : Nat} {a b : Int} (h : Box2 w g a b) (hb : Below w.heap.size w w') : Box2 w' g a b := h.below hb h.1
theorem Box2.drew {w : World} {g : Nat} {a b : Int} (h : Box2 w g a b) : Box2 w.drew g a b := h
theorem Box2.alloc {w : World} {g : Nat} {a b : Int} (h : Box2 w g a b) (o : Obj) : Box2 (w.alloc o) g a b := h.next (below1 w o)
theorem Box2.newAt {w : World} {g : Nat} {a b : Int} {t : TypeId} (h : g = w.heap.size) : Box2 (w.alloc (.cells #[.int .i64 a, .int .i64 b] t)) g a b := by
  subst h
  exact Box2.new w a b t
theorem Box2.fill {w : World} {g : Nat} {x y : Int} (h : Box2 w g 0 0) : Box2 ((w.setCell ⟨g, 0, none⟩ (.int .i64 x)).setCell ⟨g, 1, none⟩ (.int .i64 y)) g x y := h.store x y
/-- a fraction in a box of its own, and a mark -/
def FrCut (wb : World) (a b : Int) (v v' : Value) (wy : World) : Prop := ∃ g, v = .pointer (some ⟨g, 0, none⟩) ∧ v' = .bool true ∧ wb.heap.size ≤ g ∧ Below wb.heap.size wb wy ∧ Box2 wy g a b
def FrCut1 (wb : World) (a b : Int) (v : Value) (wy : World) : Prop := ∃ g, v = .pointer (some ⟨g, 0, none⟩) ∧ wb.heap.size ≤ g ∧ Below wb.heap.size wb wy ∧ Box2 wy g a b

set_option maxRecDepth 100000 in
set_option maxHeartbeats 16000000 in
theorem l02Inverse_c (D N : Nat) (hD : 1 ≤ D ∧ D ≤ 3) (hN : N ≤ 5) (g1 : Nat) (y : VF) (hy : GoodV (allW D N) y) (xs : List Tm) (hx : termsOf y (allW D N) = xs) (p q : Int) (hv : valL [] xs = (p, q)) (hpq : isF p q = true) (hp : p ≠ 0) (w : World) (hb1 : g1 < w.heap.size) (t1 : TermsIn w g1 0 xs) :
    Calls Tryz.prog 24 #[.agg #[.int .i64 D, .int .i64 N, .slice (some ⟨g1, 0, none⟩) xs.length xs.length]] w (SumPost D N ((invV y (recN p q) (recD p q) (allW D N) N).map fun h => termsOf h (allW D N)) w) := by
  have hW := allW_asc hD.2 N
  have hfew := allW_few (D := D) hD.2 (n := N) hN
  have hl1 : xs.length ≤ 1048576 := by rw [← hx]; have := termsOf_len y (allW D N); omega
  have hrec := rec_isF hpq hp
  have hra := isF_abs hrec
  have hab := isF_abs hpq
  have HR1 := Lib.hid (show ∀ W, Below w.heap.size w W → Row W (some ⟨g1, 0, none⟩) xs from fun W hW => .inr ⟨g1, 0, rfl, Nat.lt_of_lt_of_le hb1 hW.size, t1.below hW hb1⟩)
  have HT1 := Lib.hid t1
  have HVc := Lib.hid hv
  have HOv := Lib.hid (fun W => show Calls Tryz.prog 61 #[.agg #[.int .i64 1, .int .i64 1], .agg #[.int .i64 p, .int .i64 q]] W (fun e w' => e = .returned (.tuple #[.agg #[.int .i64 (recN p q), .int .i64 (recD p q)], .bool true]) ∧ Below W.heap.size W w') from by
    have h := l01Over_c 1 1 p q (by decide) (by decide) hab.1 hab.2.1 W
    rw [rec_ok hpq hp] at h
    exact h)
  obtain ⟨ra, hra0⟩ : ∃ ra, recN p q = ra := ⟨_, rfl⟩
  obtain ⟨rb, hrb0⟩ : ∃ rb, recD p q = rb := ⟨_, rfl⟩
  rw [hra0, hrb0] at HOv
  rw [hra0, hrb0] at hrec
  rw [hra0] at hra
  rw [hrb0] at hra
  rw [hra0, hrb0]
  have HLc := Lib.hid (fun W r => l02Less_c D N hD hN (some ⟨g1, 0, none⟩) xs.length y hy xs hx ra rb hrec W r)
  have HGd := Lib.hid (fun z (e : lessV y ra rb (allW D N) = some z) => lessV_good e)
  have HSum := Lib.hid (fun a5 c5 z (hz : GoodV (allW D N) z) aN cN W r1 r2 => l02Sum_c D N hD hN a5 c5 z hz (termsOf z (allW D N)) rfl altF (N + 1) (by omega) (fun k hk => altF_isF k) (fun k h _ => altF_nz k) (fun h => absurd h (altF_nz 0)) aN cN W r1 r2)
  have HPut := Lib.hid (fun (s : VF) => (show ((scaledL ra rb (termsOf s (allW D N))).bind fun us => putAll [] us) = (addK s ra rb (allW D N) noneF).map fun h => termsOf h (allW D N) from by
    have h := addK_put hW (g := s) (a := ra) (b := rb) (ws := allW D N) (fun _ h => h) noneF
    rw [termsOf_noneF] at h
    exact h))
  have HAd := Lib.hid (fun g3 aS cS s (hs : GoodV (allW D N) s) W (hr : Row W aS (termsOf s (allW D N))) => (show Calls Tryz.prog 64 #[.agg #[.int .i64 D, .int .i64 N, .slice (some ⟨g3, 0, none⟩) 0 0], .agg #[.int .i64 D, .int .i64 N, .slice aS (termsOf s (allW D N)).length cS], .agg #[.int .i64 ra, .int .i64 rb]] W (SumPost D N ((addK s ra rb (allW D N) noneF).map fun h => termsOf h (allW D N)) W) from HPut.out s ▸ l02Add_c D N D N ra rb hra.1 hra.2.1 (some ⟨g3, 0, none⟩) aS 0 cS [] (termsOf s (allW D N)) (by simp) (by have := termsOf_len s (allW D N); omega) (fun t ht => by cases ht) (termsOf_bd hs) W (.inl rfl) hr))
  obtain ⟨r, hr⟩ : ∃ r, lessV y ra rb (allW D N) = r := ⟨_, rfl⟩
  rw [hr] at HLc
  have HRr := Lib.hid hr
  clear hr hv hy hx hrec hra hab hpq hp hra0 hrb0 hW hfew t1
  go_enter Tryz.func24, Tryz.ntmps24
  go_wp2_with fail
  have HWb := Lib.hid (below2 w (.cells #[.int .i64 D, .int .i64 N, .slice (some ⟨g1, 0, none⟩) xs.length xs.length] 28) (.cells #[.int .i64 0, .int .i64 0, .slice none 0 0] 28))
  refine (l02Constant_c D N g1 0 xs.length xs _ hl1 (by simp; omega) (HT1.out.below HWb.out hb1)).mono ?_
  rw [HVc.out]
  rintro e w1 ⟨rfl, hb⟩
  have hT := (show T3 ((w.alloc (.cells #[.int .i64 D, .int .i64 N, .slice (some ⟨g1, 0, none⟩) xs.length xs.length] 28)).alloc (.cells #[.int .i64 0, .int .i64 0, .slice none 0 0] 28)) (w.heap.size + 1) (.int .i64 0) (.int .i64 0) (.slice none 0 0) from T3.newAt (by simp)).next hb
  have bc := bcellB hb
  have u0 : w1.cell? ⟨w.heap.size, 0, none⟩ = some (.int .i64 D) := (bc.1 _ _ (by first | (simp; done) | (simp; omega))).trans (by go_simp)
  have u1 : w1.cell? ⟨w.heap.size, 1, none⟩ = some (.int .i64 N) := (bc.1 _ _ (by first | (simp; done) | (simp; omega))).trans (by go_simp)
  have u2 : w1.cell? ⟨w.heap.size, 2, none⟩ = some (.slice (some ⟨g1, 0, none⟩) xs.length xs.length) := (bc.1 _ _ (by first | (simp; done) | (simp; omega))).trans (by go_simp)
  have HW1 := Lib.hid (HWb.out.trans (hb.mono (by simp; omega)))
  have hz1 : w.heap.size + 1 < w1.heap.size := hT.1
  have hT1 := Lib.hid hT
  clear hb bc hT
  go_upto_region 2 with fail
  have hba := below1 w1 (.cells #[.int .i64 p, .int .i64 q] 41)
  have x0 := (hba.cell (p := ⟨w.heap.size, 0, none⟩) (by show w.heap.size < _; omega)).trans u0
  have x1 := (hba.cell (p := ⟨w.heap.size, 1, none⟩) (by show w.heap.size < _; omega)).trans u1
  have x2 := (hba.cell (p := ⟨w.heap.size, 2, none⟩) (by show w.heap.size < _; omega)).trans u2
  have f0 : (w1.alloc (.cells #[.int .i64 p, .int .i64 q] 41)).cell? ⟨w1.heap.size, 0, none⟩ = some (.int .i64 p) := by go_simp
  have f1 : (w1.alloc (.cells #[.int .i64 p, .int .i64 q] 41)).cell? ⟨w1.heap.size, 1, none⟩ = some (.int .i64 q) := by go_simp
  have HWd := Lib.hid (HW1.out.trans (hba.mono HW1.out.size))
  have HTd := Lib.hid (hT1.out.next hba)
  have hwd : (w1.alloc (.cells #[.int .i64 p, .int .i64 q] 41)).heap.size = w1.heap.size + 1 := by simp
  generalize (w1.alloc (.cells #[.int .i64 p, .int .i64 q] 41)) = wd at *
  have hww : w.heap.size < wd.heap.size := by omega
  have hwf : w1.heap.size < wd.heap.size := by omega
  have KS := Lib.hid (show ∀ w', Below wd.heap.size wd w' → (w'.cell? ⟨w.heap.size, 0, none⟩ = some (.int .i64 D) ∧ w'.cell? ⟨w.heap.size, 1, none⟩ = some (.int .i64 N) ∧ w'.cell? ⟨w.heap.size, 2, none⟩ = some (.slice (some ⟨g1, 0, none⟩) xs.length xs.length) ∧ w'.cell? ⟨w1.heap.size, 0, none⟩ = some (.int .i64 p) ∧ w'.cell? ⟨w1.heap.size, 1, none⟩ = some (.int .i64 q)) from fun w' hb => ⟨(hb.cell (p := ⟨w.heap.size, 0, none⟩) hww).trans x0, (hb.cell (p := ⟨w.heap.size, 1, none⟩) hww).trans x1, (hb.cell (p := ⟨w.heap.size, 2, none⟩) hww).trans x2, (hb.cell (p := ⟨w1.heap.size, 0, none⟩) hwf).trans f0, (hb.cell (p := ⟨w1.heap.size, 1, none⟩) hwf).trans f1⟩)
  have HOn := Lib.hid (fun W (_ : Below wd.heap.size wd W) => l02One_c 1 W)
  have HOd := Lib.hid (fun W (_ : Below wd.heap.size wd W) => HOv.out W)
  clear hba x0 x1 x2 u0 u1 u2 f0 f1 hwd
  go_upto_region 2 with fail
  go_cut [5, 6] (FrCut wd ra rb)
  case first =>
    go_region_held3 (fun w' => w'.cell? ⟨w.heap.size, 0, none⟩ = some (.int .i64 D) ∧ w'.cell? ⟨w.heap.size, 1, none⟩ = some (.int .i64 N) ∧ w'.cell? ⟨w.heap.size, 2, none⟩ = some (.slice (some ⟨g1, 0, none⟩) xs.length xs.length) ∧ w'.cell? ⟨w1.heap.size, 0, none⟩ = some (.int .i64 p) ∧ w'.cell? ⟨w1.heap.size, 1, none⟩ = some (.int .i64 q))
      ((refine KS.out _ ?_; repeat' (first | with_reducible assumption | with_reducible exact Below.refl _ _ | (with_reducible refine Below.drew ?_) | (with_reducible refine Below.setCell ?_ (by (try dsimp only); omega) _) | (with_reducible refine Below.alloc ?_ (by (try simp only [World.size_setCell]); (try simp only [World.size_drew]); (try simp only [World.size_alloc]); (try simp only [World.size_setCell]); (try simp only [World.size_alloc]); omega) _))))
      (first
        | (go_at_call 45; (with_reducible refine (HOn.out _ ?_).mono ?_); (focus repeat' (first | with_reducible assumption | with_reducible exact Below.refl _ _ | (with_reducible refine Below.drew ?_) | (with_reducible refine Below.setCell ?_ (by (try dsimp only); omega) _) | (with_reducible refine Below.alloc ?_ (by (try simp only [World.size_setCell]); (try simp only [World.size_drew]); (try simp only [World.size_alloc]); (try simp only [World.size_setCell]); (try simp only [World.size_alloc]); omega) _))); rintro e w2 ⟨rfl, hb0⟩; have hbw2 : Below wd.heap.size wd w2 := below_step (by repeat' (first | with_reducible assumption | with_reducible exact Below.refl _ _ | (with_reducible refine Below.drew ?_) | (with_reducible refine Below.setCell ?_ (by (try dsimp only); omega) _) | (with_reducible refine Below.alloc ?_ (by (try simp only [World.size_setCell]); (try simp only [World.size_drew]); (try simp only [World.size_alloc]); (try simp only [World.size_setCell]); (try simp only [World.size_alloc]); omega) _))) hb0 (Nat.le_refl _); have hzw2 := hbw2.size; (try have B0 : Box2 w2 wd.heap.size 0 0 := Box2.next (by exact (Box2.new wd 0 0 _).drew) hb0))
        | (go_at_call 61; (with_reducible refine (HOd.out _ ?_).mono ?_); (focus repeat' (first | with_reducible assumption | with_reducible exact Below.refl _ _ | (with_reducible refine Below.drew ?_) | (with_reducible refine Below.setCell ?_ (by (try dsimp only); omega) _) | (with_reducible refine Below.alloc ?_ (by (try simp only [World.size_setCell]); (try simp only [World.size_drew]); (try simp only [World.size_alloc]); (try simp only [World.size_setCell]); (try simp only [World.size_alloc]); omega) _))); rintro e w3 ⟨rfl, hb0⟩; have hbw3 : Below wd.heap.size wd w3 := below_step (by repeat' (first | with_reducible assumption | with_reducible exact Below.refl _ _ | (with_reducible refine Below.drew ?_) | (with_reducible refine Below.setCell ?_ (by (try dsimp only); omega) _) | (with_reducible refine Below.alloc ?_ (by (try simp only [World.size_setCell]); (try simp only [World.size_drew]); (try simp only [World.size_alloc]); (try simp only [World.size_setCell]); (try simp only [World.size_alloc]); omega) _))) hb0 (Nat.le_refl _); have hzw3 := hbw3.size; have hbw2w3 : Below w2.heap.size w2 w3 := below_step (by repeat' (first | with_reducible assumption | with_reducible exact Below.refl _ _ | (with_reducible refine Below.drew ?_) | (with_reducible refine Below.setCell ?_ (by (try dsimp only); omega) _) | (with_reducible refine Below.alloc ?_ (by (try simp only [World.size_setCell]); (try simp only [World.size_drew]); (try simp only [World.size_alloc]); (try simp only [World.size_setCell]); (try simp only [World.size_alloc]); omega) _))) hb0 (Nat.le_refl _); (try have B0 := B0.next hbw2w3); (try have B1 : Box2 w3 w2.heap.size 0 0 := Box2.next (by exact Box2.new w2 0 0 _) hb0); (try obtain ⟨Bz0, b00, b01, b02, b03⟩ := id B0); (try obtain ⟨Bz1, b10, b11, b12, b13⟩ := id B1))
        | fail)
    all_goals (go_wp2_with fail; go_meet)
    all_goals (refine ⟨_, rfl, rfl, ?_, ?_, ?_⟩)
    all_goals (first | (with_reducible assumption) | (with_reducible exact Nat.le_refl _) | ((repeat' (first | with_reducible assumption | with_reducible exact Below.refl _ _ | (with_reducible refine Below.drew ?_) | (with_reducible refine Below.setCell ?_ (by (try dsimp only); omega) _) | (with_reducible refine Below.alloc ?_ (by (try simp only [World.size_setCell]); (try simp only [World.size_drew]); (try simp only [World.size_alloc]); (try simp only [World.size_setCell]); (try simp only [World.size_alloc]); omega) _))); done) | ((repeat' (first | with_reducible assumption | (with_reducible refine Box2.newAt ?_; first | with_reducible rfl | (simp only [World.size_alloc]; done)) | (with_reducible refine Box2.fill ?_) | (with_reducible refine Box2.alloc ?_ _))); done) | omega)
  case rest =>
    obtain ⟨gr, rfl, rfl, hgr, hbc, hBr⟩ := hcut
    obtain ⟨wq, rfl⟩ : ∃ wq : World, wq = wc := ⟨_, rfl⟩
    have hzq := hbc.size
    have HTq := Lib.hid (HTd.out.next hbc)
    have HWq := Lib.hid (HWd.out.trans (hbc.mono HWd.out.size))
    have HBr := Lib.hid hBr
    obtain ⟨x0, x1, x2, -, -⟩ := KS.out wq hbc
    obtain ⟨hgrz, f0, f1, -, -⟩ := id hBr
    clear hbc hBr
    go_wp2_with fail
    refine (HLc.out _ (HR1.out _ HWq.out)).mono ?_
    rintro e w3 hpost
    obtain ⟨X3, Y3, a3, l3, c3, ok3, rfl, hb3, hU3⟩ := SumPost.u hpost
    have HT3 := Lib.hid (HTq.out.next hb3)
    have HW3 := Lib.hid (HWq.out.trans (hb3.mono HWq.out.size))
    have HB3 := Lib.hid (HBr.out.next hb3)
    have y0 := (hb3.cell (p := ⟨w.heap.size, 0, none⟩) (by show w.heap.size < _; omega)).trans x0
    have y1 := (hb3.cell (p := ⟨w.heap.size, 1, none⟩) (by show w.heap.size < _; omega)).trans x1
    have y2 := (hb3.cell (p := ⟨w.heap.size, 2, none⟩) (by show w.heap.size < _; omega)).trans x2
    have hz3 := hb3.size
    have HU3 := Lib.hid hU3
    clear hpost hb3 hU3 x0 x1 x2 f0 f1
    cases r with
    | none =>
      obtain ⟨rfl, rfl, rfl, rfl, rfl, rfl⟩ := HU3.out
      have HIn := Lib.hid (inv_1 (N := N) HRr.out)
      obtain ⟨hq4, r0, r1, r2, z0, z1, z2⟩ := id HT3.out
      clear y0 y1 y2
      go_wp2
      rw [HIn.out]
      refine bodyPost_ret (v := .tuple #[.agg #[.int .i64 0, .int .i64 0, .slice none 0 0], .bool false]) (by simp [results, Tryz.results24, go_sem, r0, r1, r2, hq4]) rfl ⟨rfl, ?_⟩
      have hW := HW3.out
      go_grown
    | some z =>
      obtain ⟨rfl, rfl, rfl, rfl, hN3⟩ := HU3.out
      have HN3 := Lib.hid hN3
      have HGz := Lib.hid (HGd.out z HRr.out)
      clear hN3
      go_wp2_with fail
      have hv3 := below1 w3 (.cells #[.int .i64 D, .int .i64 N, .slice a3 (termsOf z (allW D N)).length c3] 28)
      have hTz := T3.new w3 D N a3 (termsOf z (allW D N)).length c3 28
      have v0 := (hv3.cell (p := ⟨w.heap.size, 0, none⟩) (by show w.heap.size < _; omega)).trans y0
      have v1 := (hv3.cell (p := ⟨w.heap.size, 1, none⟩) (by show w.heap.size < _; omega)).trans y1
      have v2 := (hv3.cell (p := ⟨w.heap.size, 2, none⟩) (by show w.heap.size < _; omega)).trans y2
      have HTv := Lib.hid (HT3.out.next hv3)
      have HWv := Lib.hid (HW3.out.trans (hv3.mono HW3.out.size))
      have HBv := Lib.hid (HB3.out.next hv3)
      have HRv := Lib.hid (HN3.out.row.below hv3)
      have hvz : (w3.alloc (.cells #[.int .i64 D, .int .i64 N, .slice a3 (termsOf z (allW D N)).length c3] 28)).heap.size = w3.heap.size + 1 := by simp
      generalize (w3.alloc (.cells #[.int .i64 D, .int .i64 N, .slice a3 (termsOf z (allW D N)).length c3] 28)) = wv at *
      have hwv : w.heap.size < wv.heap.size := by omega
      have hgv : w3.heap.size < wv.heap.size := by omega
      have hgq : gr < wv.heap.size := HBv.out.1
      obtain ⟨-, t0, t1, t2, -, -, -⟩ := id hTz
      have KV := Lib.hid (show ∀ w', Below wv.heap.size wv w' → (w'.cell? ⟨w.heap.size, 0, none⟩ = some (.int .i64 D) ∧ w'.cell? ⟨w.heap.size, 1, none⟩ = some (.int .i64 N) ∧ w'.cell? ⟨w.heap.size, 2, none⟩ = some (.slice (some ⟨g1, 0, none⟩) xs.length xs.length) ∧ w'.cell? ⟨w3.heap.size, 0, none⟩ = some (.int .i64 D) ∧ w'.cell? ⟨w3.heap.size, 1, none⟩ = some (.int .i64 N) ∧ w'.cell? ⟨w3.heap.size, 2, none⟩ = some (.slice a3 (termsOf z (allW D N)).length c3)) from fun w' hb => ⟨(hb.cell (p := ⟨w.heap.size, 0, none⟩) hwv).trans v0, (hb.cell (p := ⟨w.heap.size, 1, none⟩) hwv).trans v1, (hb.cell (p := ⟨w.heap.size, 2, none⟩) hwv).trans v2, (hb.cell (p := ⟨w3.heap.size, 0, none⟩) hgv).trans t0, (hb.cell (p := ⟨w3.heap.size, 1, none⟩) hgv).trans t1, (hb.cell (p := ⟨w3.heap.size, 2, none⟩) hgv).trans t2⟩)
      have HVZ := Lib.hid hvz
      clear hv3 hTz v0 v1 v2 t0 t1 t2 y0 y1 y2 hvz
      go_loopw [9, 10] (fun v9 v10 wr => ∃ (k : Nat) (a : Option Addr) (l c : Nat), k ≤ N + 1 ∧ v10 = .int .i64 k ∧ v9 = .slice a l c ∧ l = k ∧ OwnR wr wv.heap.size (.slice a l c) (numL altF k) ∧ Below wv.heap.size wv wr) (fun _ v10 _ => N + 1 - (intOf v10).toNat)
      case atStart =>
        have hwz : w3.heap.size + 1 = wv.heap.size := by have := HVZ.out; omega
        exact ⟨0, some ⟨w3.heap.size + 1, 0, none⟩, 0, 0, Nat.zero_le _, rfl, rfl, rfl, OwnR.emptyRow (by rw [hwz]; exact heap_alloc_new wv _) (by omega), below1 _ _⟩
      case round =>
        obtain ⟨k, av, lv, cv, hk, rfl, rfl, hl, hO, hB⟩ := hrel
        have HO := Lib.hid hO
        have HL := Lib.hid hl
        have HB := Lib.hid hB
        have HSz := Lib.hid hB.size
        have hl9 : lv ≤ 6 := by omega
        obtain ⟨x0, x1, x2, t0, t1, t2⟩ := KV.out wr hB
        clear hO hl hB
        by_cases hlt : k ≤ N
        · have hm0 : 0 ≤ (k : Int) % 2 ∧ (k : Int) % 2 ≤ 1 := by omega
          have hm1 : 1 - 2 * ((k : Int) % 2) = sgn k := by
            unfold sgn
            by_cases h : k % 2 = 0
            · rw [if_pos h]; omega
            · rw [if_neg h]; omega
          have hsg := sgn_bd k
          have HNs := Lib.hid (numL_succ altF k)
          have HE := Lib.hid (show altF k = (sgn k, 1) from rfl)
          rw [HE.out] at HNs
          obtain ⟨sg, hq⟩ : ∃ sg, sgn k = sg := ⟨_, rfl⟩
          rw [hq] at hm1 HNs hsg
          have hq9 : -1 ≤ sg ∧ sg ≤ 1 := by omega
          clear hsg hq
          go_wp2_with fail
          refine (l02One_c _ _).mono ?_
          rintro e w5 ⟨rfl, hb5⟩
          have hz5 := hb5.size
          have HO5 := Lib.hid (HO.out.below hb5 (fun g hg => (HO.out.lt g hg).2))
          have HB5 := Lib.hid (HB.out.trans (hb5.mono HSz.out))
          have HSz5 := Lib.hid (show wv.heap.size ≤ w5.heap.size by have := HSz.out; omega)
          clear hb5 x0 x1 x2 t0 t1 t2
          go_wp2_with (at_builtin; refine wpList_append_frs rfl _ _ rfl wv.heap.size (.slice av lv cv) lv (numL altF k) [(sg, 1)] rfl (by rw [numL_length]; exact HL.out) (HO5.out.alloc _) (some ⟨w5.heap.size, 0, none⟩) 1 1 rfl rfl (.inr ⟨w5.heap.size, 0, rfl, frs_one w5 sg 1⟩) (by omega) (by have := HSz5.out; simp; omega) ?_)
          intro a6 c6 w6 hO6 hG6 _
          have HB6 := Lib.hid (HB5.out.trans (((below1 w5 (.cells #[.int .i64 sg, .int .i64 1] 41)).mono HSz5.out).trans (own_grownR (HO5.out.alloc _) hG6 (by have := HSz5.out; simp; omega))))
          have HO6 := Lib.hid hO6
          clear hO6 hG6
          go_wp2
          go_roundw
          case rel => exact ⟨k + 1, a6, lv + 1, c6, by omega, by go_num, rfl, by rw [HL.out], by rw [HNs.out]; exact HO6.out, HB6.out⟩
          case measure => simp [intOf]; omega
        · obtain rfl : k = N + 1 := by omega
          have HNr := Lib.hid (HO.out.end_0)
          have hle : ¬ ((N + 1 : Nat) : Int) ≤ (N : Int) := by omega
          have HLv := HL.out
          subst HLv
          have HS := Lib.hid (HSum.out a3 c3 z HGz.out av cv wr (HRv.out.below HB.out) HNr.out)
          have HTr := Lib.hid (HTv.out.next HB.out)
          have HWr := Lib.hid (HWv.out.trans (HB.out.mono HWv.out.size))
          have HBr' := Lib.hid (HBv.out.next HB.out)
          have hzr := HSz.out
          go_wp2_with fail
          refine HS.out.mono ?_
          cases hs : sumK z (allW D N) altF (N + 1) with
          | none =>
            rintro e w7 ⟨rfl, hb7⟩
            have HIn := Lib.hid (inv_2 HRr.out hs)
            obtain ⟨hq4, r0, r1, r2, z0, z1, z2⟩ := id (HTr.out.next hb7)
            have HW7 := Lib.hid (HWr.out.trans (hb7.mono HWr.out.size))
            clear hb7 hs x0 x1 x2 t0 t1 t2
            go_wp2
            rw [HIn.out]
            refine bodyPost_ret (v := .tuple #[.agg #[.int .i64 0, .int .i64 0, .slice none 0 0], .bool false]) (by simp [results, Tryz.results24, go_sem, r0, r1, r2, hq4]) rfl ⟨rfl, ?_⟩
            have hW := HW7.out
            go_grown
          | some s =>
            rintro e w7 ⟨a7, c7, rfl, hb7, hN7⟩
            have HIn := Lib.hid (inv_3 HRr.out hs)
            have HGs := Lib.hid (sumK_good hs)
            have HT7 := Lib.hid (HTr.out.next hb7)
            have HW7 := Lib.hid (HWr.out.trans (hb7.mono HWr.out.size))
            have HB7 := Lib.hid (HBr'.out.next hb7)
            have HN7 := Lib.hid hN7
            have w0 := (hb7.cell (p := ⟨w.heap.size, 0, none⟩) (by show w.heap.size < _; omega)).trans x0
            have w1' := (hb7.cell (p := ⟨w.heap.size, 1, none⟩) (by show w.heap.size < _; omega)).trans x1
            have w2 := (hb7.cell (p := ⟨w.heap.size, 2, none⟩) (by show w.heap.size < _; omega)).trans x2
            have hz7 := hb7.size
            clear hb7 hs hN7 x0 x1 x2 t0 t1 t2
            go_upto_region 14 with fail
            have hv7 := below1 w7 (.cells #[.int .i64 D, .int .i64 N, .slice a7 (termsOf s (allW D N)).length c7] 28)
            have hTs := T3.new w7 D N a7 (termsOf s (allW D N)).length c7 28
            have x0 := (hv7.cell (p := ⟨w.heap.size, 0, none⟩) (by show w.heap.size < _; omega)).trans w0
            have x1 := (hv7.cell (p := ⟨w.heap.size, 1, none⟩) (by show w.heap.size < _; omega)).trans w1'
            have x2 := (hv7.cell (p := ⟨w.heap.size, 2, none⟩) (by show w.heap.size < _; omega)).trans w2
            have HT8 := Lib.hid (HT7.out.next hv7)
            have HW8 := Lib.hid (HW7.out.trans (hv7.mono HW7.out.size))
            have HB8 := Lib.hid (HB7.out.next hv7)
            have HR8 := Lib.hid (HN7.out.row.below hv7)
            have hvs : (w7.alloc (.cells #[.int .i64 D, .int .i64 N, .slice a7 (termsOf s (allW D N)).length c7] 28)).heap.size = w7.heap.size + 1 := by simp
            generalize (w7.alloc (.cells #[.int .i64 D, .int .i64 N, .slice a7 (termsOf s (allW D N)).length c7] 28)) = ws at *
            have hws : w.heap.size < ws.heap.size := by omega
            have hgs : w7.heap.size < ws.heap.size := by omega
            obtain ⟨-, t0, t1, t2, -, -, -⟩ := id hTs
            obtain ⟨hgr8, f0, f1, -, -⟩ := id HB8.out
            have K8 := Lib.hid (show ∀ w', Below ws.heap.size ws w' → (w'.cell? ⟨w.heap.size, 0, none⟩ = some (.int .i64 D) ∧ w'.cell? ⟨w.heap.size, 1, none⟩ = some (.int .i64 N) ∧ w'.cell? ⟨w.heap.size, 2, none⟩ = some (.slice (some ⟨g1, 0, none⟩) xs.length xs.length) ∧ w'.cell? ⟨w7.heap.size, 0, none⟩ = some (.int .i64 D) ∧ w'.cell? ⟨w7.heap.size, 1, none⟩ = some (.int .i64 N) ∧ w'.cell? ⟨w7.heap.size, 2, none⟩ = some (.slice a7 (termsOf s (allW D N)).length c7) ∧ w'.cell? ⟨gr, 0, none⟩ = some (.int .i64 ra) ∧ w'.cell? ⟨gr, 1, none⟩ = some (.int .i64 rb)) from fun w' hb => ⟨(hb.cell (p := ⟨w.heap.size, 0, none⟩) hws).trans x0, (hb.cell (p := ⟨w.heap.size, 1, none⟩) hws).trans x1, (hb.cell (p := ⟨w.heap.size, 2, none⟩) hws).trans x2, (hb.cell (p := ⟨w7.heap.size, 0, none⟩) hgs).trans t0, (hb.cell (p := ⟨w7.heap.size, 1, none⟩) hgs).trans t1, (hb.cell (p := ⟨w7.heap.size, 2, none⟩) hgs).trans t2, (hb.cell (p := ⟨gr, 0, none⟩) hgr8).trans f0, (hb.cell (p := ⟨gr, 1, none⟩) hgr8).trans f1⟩)
            have HEm := Lib.hid (fun W (_ : Below ws.heap.size ws W) => l01Empty_c D N (.slice (some ⟨g1, 0, none⟩) xs.length xs.length) rfl W)
            have HA8 := Lib.hid (fun g3 W (hW : Below ws.heap.size ws W) => HAd.out g3 a7 c7 s HGs.out W (HR8.out.below hW))
            clear hv7 hTs w0 w1' w2 x0 x1 x2 t0 t1 t2 f0 f1 hvs
            go_upto_region 14 with fail
            go_cut [13, 14] (SerCut ws D N ((addK s ra rb (allW D N) noneF).map fun h => termsOf h (allW D N)))
            case first =>
              go_region_held3 (fun w' => w'.cell? ⟨w.heap.size, 0, none⟩ = some (.int .i64 D) ∧ w'.cell? ⟨w.heap.size, 1, none⟩ = some (.int .i64 N) ∧ w'.cell? ⟨w.heap.size, 2, none⟩ = some (.slice (some ⟨g1, 0, none⟩) xs.length xs.length) ∧ w'.cell? ⟨w7.heap.size, 0, none⟩ = some (.int .i64 D) ∧ w'.cell? ⟨w7.heap.size, 1, none⟩ = some (.int .i64 N) ∧ w'.cell? ⟨w7.heap.size, 2, none⟩ = some (.slice a7 (termsOf s (allW D N)).length c7) ∧ w'.cell? ⟨gr, 0, none⟩ = some (.int .i64 ra) ∧ w'.cell? ⟨gr, 1, none⟩ = some (.int .i64 rb))
                ((refine K8.out _ ?_; repeat' (first | with_reducible assumption | with_reducible exact Below.refl _ _ | (with_reducible refine Below.drew ?_) | (with_reducible refine Below.setCell ?_ (by (try dsimp only); omega) _) | (with_reducible refine Below.alloc ?_ (by (try simp only [World.size_setCell]); (try simp only [World.size_drew]); (try simp only [World.size_alloc]); (try simp only [World.size_setCell]); (try simp only [World.size_alloc]); omega) _))))
                (first
                  | (go_at_call 65; (with_reducible refine (HEm.out _ ?_).mono ?_); (focus repeat' (first | with_reducible assumption | with_reducible exact Below.refl _ _ | (with_reducible refine Below.drew ?_) | (with_reducible refine Below.setCell ?_ (by (try dsimp only); omega) _) | (with_reducible refine Below.alloc ?_ (by (try simp only [World.size_setCell]); (try simp only [World.size_drew]); (try simp only [World.size_alloc]); (try simp only [World.size_setCell]); (try simp only [World.size_alloc]); omega) _))); rintro e w8 ⟨g3, rfl, -, hb0⟩; have hbw8 : Below ws.heap.size ws w8 := below_step (by repeat' (first | with_reducible assumption | with_reducible exact Below.refl _ _ | (with_reducible refine Below.drew ?_) | (with_reducible refine Below.setCell ?_ (by (try dsimp only); omega) _) | (with_reducible refine Below.alloc ?_ (by (try simp only [World.size_setCell]); (try simp only [World.size_drew]); (try simp only [World.size_alloc]); (try simp only [World.size_setCell]); (try simp only [World.size_alloc]); omega) _))) hb0 (Nat.le_refl _); have hzw8 := hbw8.size; (try have B0 : T3 w8 ws.heap.size (.int .i64 0) (.int .i64 0) (.slice none 0 0) := T3.next (by exact (T3.new ws 0 0 none 0 0 _).drew) hb0); (try have L00 := B0.1))
                  | (go_at_call 64; (with_reducible refine (HA8.out _ _ ?_).mono ?_); (focus repeat' (first | with_reducible assumption | with_reducible exact Below.refl _ _ | (with_reducible refine Below.drew ?_) | (with_reducible refine Below.setCell ?_ (by (try dsimp only); omega) _) | (with_reducible refine Below.alloc ?_ (by (try simp only [World.size_setCell]); (try simp only [World.size_drew]); (try simp only [World.size_alloc]); (try simp only [World.size_setCell]); (try simp only [World.size_alloc]); omega) _))); rintro e w9 hpost; obtain ⟨X, Y, a6, l6, c6, ok, rfl, hb0, hU⟩ := SumPost.u hpost; (try simp only [World.size_drew] at hU); (try simp only [World.size_alloc] at hU); have hbw9 : Below ws.heap.size ws w9 := below_step (by repeat' (first | with_reducible assumption | with_reducible exact Below.refl _ _ | (with_reducible refine Below.drew ?_) | (with_reducible refine Below.setCell ?_ (by (try dsimp only); omega) _) | (with_reducible refine Below.alloc ?_ (by (try simp only [World.size_setCell]); (try simp only [World.size_drew]); (try simp only [World.size_alloc]); (try simp only [World.size_setCell]); (try simp only [World.size_alloc]); omega) _))) hb0 (Nat.le_refl _); have hzw9 := hbw9.size; have hbw8w9 : Below w8.heap.size w8 w9 := below_step (by repeat' (first | with_reducible assumption | with_reducible exact Below.refl _ _ | (with_reducible refine Below.drew ?_) | (with_reducible refine Below.setCell ?_ (by (try dsimp only); omega) _) | (with_reducible refine Below.alloc ?_ (by (try simp only [World.size_setCell]); (try simp only [World.size_drew]); (try simp only [World.size_alloc]); (try simp only [World.size_setCell]); (try simp only [World.size_alloc]); omega) _))) hb0 (Nat.le_refl _); have hzw8w9 := hbw8w9.size; (try have B0 := B0.next hbw8w9); (try have B1 : T3 w9 w8.heap.size (.int .i64 0) (.int .i64 0) (.slice none 0 0) := T3.next (by exact T3.new w8 0 0 none 0 0 _) hb0); (try have L01 := B0.1); (try have L11 := B1.1); (try obtain ⟨-, b00, b01, b02, b03, b04, b05⟩ := id B0); (try obtain ⟨-, b10, b11, b12, b13, b14, b15⟩ := id B1))
                  | fail)
              all_goals (go_wp2_with fail; go_meet)
              all_goals (refine ⟨_, X, Y, a6, l6, c6, ok, rfl, rfl, ?_, ?_, ?_, ?_⟩)
              all_goals (first | (with_reducible assumption) | (with_reducible exact Nat.le_refl _) | ((repeat' (first | with_reducible assumption | with_reducible exact Below.refl _ _ | (with_reducible refine Below.drew ?_) | (with_reducible refine Below.setCell ?_ (by (try dsimp only); omega) _) | (with_reducible refine Below.alloc ?_ (by (try simp only [World.size_setCell]); (try simp only [World.size_drew]); (try simp only [World.size_alloc]); (try simp only [World.size_setCell]); (try simp only [World.size_alloc]); omega) _))); done) | ((repeat' (first | with_reducible assumption | (with_reducible refine T3.newAt ?_; first | with_reducible rfl | (simp only [World.size_setCell]; done) | (simp only [World.size_alloc]; done) | (simp only [World.size_alloc, World.size_setCell]; done)) | (with_reducible refine T3.fill ?_) | (with_reducible refine T3.far ?_ (by first | with_reducible assumption | omega)) | (with_reducible refine T3.alloc ?_ _))); done) | omega | (with_reducible exact (hU.below (below1 _ _)).mono (by omega)) | (with_reducible exact (((hU.far (by omega)).far (by omega)).far (by omega)).mono (by omega)))
            case rest =>
              obtain ⟨g9, X, Y, a6, l6, c6, ok, rfl, rfl, hg9, hbc9, hT9, hU⟩ := hcut
              obtain ⟨w9, rfl⟩ : ∃ w9 : World, w9 = wc := ⟨_, rfl⟩
              have hz9 := hbc9.size
              obtain ⟨-, t0, t1, t2, -, -, -⟩ := id hT9
              obtain ⟨hq4, r0, r1, r2, z0, z1, z2⟩ := id (HT8.out.next hbc9)
              have HU9 := Lib.hid hU
              have HB9 := Lib.hid (HW8.out.trans (hbc9.mono HW8.out.size))
              clear hbc9 hT9 hU
              go_wp2
              rw [HIn.out]
              refine bodyPost_ret (v := .tuple #[.agg #[.int .i64 X, .int .i64 Y, .slice a6 l6 c6], .bool ok]) (by simp [results, Tryz.results24, go_sem, r0, r1, r2]) rfl ?_
              have hU := HU9.out
              have hW := HB9.out
              exact SumU.back (lo := ws.heap.size) (((hU.far (by omega)).far (by omega)).far (by omega)) (by go_grown) (by omega)
end Go.Proofs.YtoeednnkadmjpaaGreatDoor
