/-
  The model's product along a word; contracts of ProductOfWord, of the program and of its model.
-/
import Derived.Test.YtknigggjnjkhbaaTimT
import Derived.Test.YtknigggjnjkhbaaAreT
import Derived.Test.YtknigggjnjkhbaaAnyP
namespace Go.Proofs.Ytknigggjnjkhbaa
open Go.RowKit

/-- what the model's product along a word comes to -/
def SAlongPost (n : Nat) (o : Option MF) (W : World) (e : Ending) (w' : World) : Prop :=
  match o with
  | none => e = .returned (.tuple #[.slice none 0 0, .bool false]) ∧ Below W.heap.size W w'
  | some P => ∃ a c, e = .returned (.tuple #[.slice a n c, .bool true]) ∧ Below W.heap.size W w' ∧ PRow W.heap.size w'.heap.size w' a (tabF n P)
set_option maxRecDepth 100000 in
set_option maxHeartbeats 8000000 in
theorem l08Product_c (D : Int) (lo hi : Nat) (a : Option Addr) (cap : Nat) (ts : Tabs) (hT : tabsB D ts = true) (s : ByteArray) (hw : wordB D s.data.toList = true) (hs : s.size ≤ 5) (w : World) (hr : TRow lo hi w a ts) (hh : hi ≤ w.heap.size) :
    Calls Try.prog 53 #[.slice a ts.length cap, .string s] w (SAlongPost (wid ts) (alongK (wid ts) ts s s.size) w) := by
  have hq := tabs_sq hT
  obtain ⟨t1, t2, _, _⟩ := tabsB_true hT
  have hb := inB_true t1
  have hl3 : ts.length ≤ 3 := by omega
  have hpos : 0 < ts.length := by omega
  obtain ⟨b, off, a', c', ea, hc0, hI0⟩ := hr.get (Below.refl hi w) (Nat.le_refl _) hpos
  have hw0 : (ts[0]).length = wid ts := by unfold wid; rw [getD_at hpos]
  rw [hw0, Nat.add_zero] at hc0
  have HTab := Lib.hid hq.2
  have HLet := Lib.hid (fun k (hk : k < s.size) => letN_lt hw t2 hk)
  have HR := Lib.hid hr
  have hn := hq.1
  have HNo := Lib.hid (fun k P (h : alongK (wid ts) ts s k = some P) h2 => alongK_no h h2)
  have HYes := Lib.hid (fun k P (h : alongK (wid ts) ts s k = some P) h2 => alongK_yes h h2)
  have HDead := Lib.hid (fun k (h : alongK (wid ts) ts s k = none) m (hm : k ≤ m) => alongK_dead h hm)
  have HBd := Lib.hid (fun k P (h : alongK (wid ts) ts s k = some P) => alongK_bd h)
  have HZ := Lib.hid (show alongK (wid ts) ts s 0 = some unitT from rfl)
  have HAt := Lib.hid (fun k (hk : letN s k < ts.length) => (show tabAtF ts s k = entF ts[letN s k] from by unfold tabAtF; rw [getD_at hk]))
  clear hq hI0 hw0 hT hw t1 t2 hr
  subst ea
  generalize wid ts = n at *
  obtain ⟨o, ho⟩ : ∃ o, alongK n ts s s.size = o := ⟨_, rfl⟩
  rw [ho]
  have HOut := Lib.hid ho
  clear ho
  go_enter Try.func53, Try.ntmps53
  go_wp2_with fail
  refine (l08Unit_c n hn _).mono ?_
  rintro e w1 ⟨a1, c1, rfl, hb1, hP1⟩
  have HB1 := Lib.hid hb1
  have HP1 := Lib.hid hP1
  clear hb1 hP1 hc0
  go_wp2_with fail
  go_loopw [6, 7] (fun v6 v7 wr => ∃ (k : Nat) (P : MF) (a1 : Option Addr) (c1 : Nat), k ≤ s.size ∧ v7 = .int .i64 k ∧ v6 = .slice a1 n c1 ∧ alongK n ts s k = some P ∧ PRow w.heap.size wr.heap.size wr a1 (tabF n P) ∧ Below w.heap.size w wr) (fun _ v7 _ => s.size - (intOf v7).toNat)
  case atStart => exact ⟨0, unitT, _, c1, Nat.zero_le _, rfl, rfl, HZ.out, HP1.out, HB1.out⟩
  case round =>
    obtain ⟨k, P, ap, cp, hk, rfl, rfl, hal, hGp, hBp⟩ := hrel
    have HAl := Lib.hid hal
    have HGp := Lib.hid hGp
    have HBp := Lib.hid hBp
    clear hal hGp hBp
    by_cases hltk : k < s.size
    · have hlet := HLet.out k hltk
      have HTq := Lib.hid (HTab.out (letN s k) hlet.1)
      have HAq := Lib.hid (HAt.out k hlet.1)
      have HN1 := Lib.hid (HNo.out k P HAl.out)
      have HY1 := Lib.hid (HYes.out k P HAl.out)
      have HDd := Lib.hid (fun q => HDead.out (k + 1) q s.size hltk)
      have HBdP := Lib.hid (HBd.out k P HAl.out)
      rw [HAq.out] at HN1 HY1
      obtain ⟨b2, off2, a2, c2, ea2, d0, hIt⟩ := (HR.out.below HBp.out hh).get (Below.refl hi wr) (Nat.le_refl _) hlet.1
      injection ea2 with ea2
      injection ea2 with e1 e2
      subst e1 e2
      obtain ⟨q, hqe⟩ : ∃ q, letN s k = q := ⟨_, rfl⟩
      have hq3 := hlet.1
      have hx := hlet.2
      rw [hqe] at hx hq3
      simp only [hqe] at HTq HN1 HY1 d0 hIt
      have HIt := Lib.hid hIt
      obtain ⟨t, het⟩ : ∃ t, ts[q] = t := ⟨_, rfl⟩
      rw [het] at d0
      simp only [het] at HTq HN1 HY1 HIt
      rw [HTq.out.1.1] at d0
      clear hlet het HAq hIt hqe
      have hxm : ((s[k].toNat : Int) - 48) % 256 = (q : Int) := by rw [hx]; omega
      clear hx
      have e1 : (q : Int) < (ts.length : Int) := by omega
      go_wp2_with fail
      have hIt2 := HIt.out
      rw [HTq.out.2.1] at hIt2
      refine (l08Times_c n hn _ _ lo hi ap a2 cp c2 P (entF t) HBdP.out HTq.out.2.2 _ HGp.out hIt2 (Nat.le_refl _) (by have := HBp.out.size; omega)).mono ?_
      clear hIt2 d0
      cases hok : okT n (mulT n P (entF t)) with
      | false =>
        rintro e w3 ⟨rfl, hb3⟩
        have HF2 := Lib.hid (HOut.out.symm.trans (HDd.out (HN1.out hok)))
        have HB3 := Lib.hid (HBp.out.trans (hb3.mono HBp.out.size))
        clear hb3
        go_wp2
        go_ret2
        rw [HF2.out]
        exact ⟨rfl, HB3.out⟩
      | true =>
        rintro e w3 ⟨a3, c3, rfl, hb3, hP3⟩
        have HY2 := Lib.hid (HY1.out hok)
        have HB3 := Lib.hid (HBp.out.trans (hb3.mono HBp.out.size))
        have HP3 := Lib.hid (hP3.mono HBp.out.size (Nat.le_refl _))
        clear hb3 hP3
        go_wp2
        go_roundw
        case rel => exact ⟨k + 1, _, a3, c3, hltk, by go_num, rfl, HY2.out, HP3.out, HB3.out⟩
        case measure => simp [intOf]; omega
    · obtain rfl : k = s.size := by omega
      have HF2 := Lib.hid (HOut.out.symm.trans HAl.out)
      go_wp2
      go_ret2
      rw [HF2.out]
      exact ⟨ap, cp, rfl, HBp.out, HGp.out⟩

/-- a list of lists and a code, in memory that holds nothing else -/
def GridsPost (ps : List (List Int)) (c : Int) (W : World) (e : Ending) (w' : World) : Prop :=
  ∃ (a : Option Addr) (cap : Nat), e = .returned (.tuple #[.slice a ps.length cap, .int .i64 c]) ∧ Below W.heap.size W w' ∧ AnyP W.heap.size w'.heap.size w' a ps
def TblPost (ps : List (List Int)) (c : Int) (W : World) (e : Ending) (w' : World) : Prop :=
  ∃ (a : Option Addr) (cap : Nat), e = .returned (.tuple #[.slice a ps.length cap, .int .i64 c]) ∧ Below W.heap.size W w' ∧ PRow W.heap.size w'.heap.size w' a ps
theorem GridsPost.err {W : World} (c : Int) : GridsPost [] c W (.returned (.tuple #[.slice none 0 0, .int .i64 c])) W := ⟨none, 0, rfl, Below.refl _ _, .inl (.inl rfl)⟩
theorem TblPost.err {W : World} (c : Int) : TblPost [] c W (.returned (.tuple #[.slice none 0 0, .int .i64 c])) W := ⟨none, 0, rfl, Below.refl _ _, .inl rfl⟩

section
variable (lo hi : Nat) (L : Int) (a : Option Addr) (cap : Nat) (ts : Tabs) (hl : ts.length ≤ 1048576) (hs : sz3 ts ≤ 1048576) (s : ByteArray) (hz : s.size ≤ maxLen) (w : World) (hr : TRow lo hi w a ts) (hh : hi ≤ w.heap.size)
include hl hs hz hr hh

omit hh in
omit hh in
omit hh in
omit hh in
end
end Go.Proofs.Ytknigggjnjkhbaa
