/-
  The program's step of a shuffle: the ways in which a letter is taken next.
-/
import Derived.Test.YtjloadllckllpaaGreatDoorShuN
import Derived.Test.YtjloadllckllpaaGreatDoorRngP
import Derived.Test.YtjloadllckllpaaGreatDoorRes
import Derived.Test.YtjloadllckllpaaGreatDoorShelf
import Derived.Deep.RegionHeld3
namespace Go.Proofs.YtjloadllckllpaaGreatDoor
open Go.RowKit
open Go.WideAt Go.WideMaps Go.ChangeMaps Go.Maps
set_option linter.unusedVariables false

theorem cutOne_yes (s l : ByteArray) (c : UInt8) (hl : l.data.toList = [c]) (h : s.data.toList.head? = some c) (W : World) :
    Calls Tryz.prog 101 #[.string s, .string l] W fun e w' => e = .returned (.tuple #[.string (behind s), .bool true]) ∧ w' = W := by
  have h0 := Tryz.strings_CutPrefix s l W
  rw [hl] at h0
  have hp : Lib.hasPrefix s.data.toList [c] = true := by
    unfold Lib.hasPrefix
    cases hs : s.data.toList with
    | nil => rw [hs] at h; cases h
    | cons a r => rw [hs] at h; simp only [List.head?_cons, Option.some.injEq] at h; simp [h]
  unfold Lib.trimPrefix at h0
  rw [hp, if_pos rfl] at h0
  simp only [List.length_singleton, List.drop_one] at h0
  exact h0
theorem cutOne_no (s l : ByteArray) (c : UInt8) (hl : l.data.toList = [c]) (h : ¬ s.data.toList.head? = some c) (W : World) :
    Calls Tryz.prog 101 #[.string s, .string l] W fun e w' => e = .returned (.tuple #[.string s, .bool false]) ∧ w' = W := by
  have h0 := Tryz.strings_CutPrefix s l W
  rw [hl] at h0
  have hp : Lib.hasPrefix s.data.toList [c] = false := by
    unfold Lib.hasPrefix
    cases hs : s.data.toList with
    | nil => rfl
    | cons a r =>
      rw [hs] at h
      simp only [List.head?_cons, Option.some.injEq] at h
      simp only [List.isPrefixOf, beq_eq_false_iff_ne, ne_eq, Bool.and_true]
      exact fun e => h e.symm
  unfold Lib.trimPrefix at h0
  rw [hp] at h0
  exact h0

theorem gT {w a b : World} {r : Option Nat} (h : w.grownBy a r) (h2 : a.grownBy b r) : w.grownBy b r :=
  ⟨h2.os.trans h.os, h2.tape.trans h.tape, h2.output.trans h.output, Nat.le_trans h.size h2.size, fun i hi hne => (h2.block i (Nat.lt_of_lt_of_le hi h.size) hne).trans (h.block i hi hne)⟩
theorem gN {w a : World} {r : Option Nat} (h : w.grownBy a none) : w.grownBy a r := ⟨h.os, h.tape, h.output, h.size, fun i hi _ => h.block i hi (by simp)⟩
theorem gCell {w w' : World} {r : Option Nat} {n i : Nat} (h : w.grownBy w' r) (hn : n < w.heap.size) (hr : some n ≠ r) : w'.cell? ⟨n, i, none⟩ = w.cell? ⟨n, i, none⟩ := by
  unfold World.cell?
  simp only
  rw [h.block n hn hr]

/-- what is asked of a map of ways: its pairs are among ks, its numbers above 0, at most T in all -/
structure WaysOk (ks : List Pw) (f : Pw → Option Int) (T : Int) : Prop where
  sup : ∀ p, SmP p → f p ≠ none → p ∈ ks
  pos : ∀ p x, SmP p → f p = some x → 0 < x
  tot : sm ks f (fun _ => 1) ≤ T
theorem WaysOk.nn {ks : List Pw} {f : Pw → Option Int} {T : Int} (h : WaysOk ks f T) (hs : ∀ p ∈ ks, SmP p) : ∀ k ∈ ks, 0 ≤ nv (f k) := fun k hk => by
  cases e : f k with
  | none => simp [nv]
  | some x => have := h.pos k x (hs k hk) e; simp [nv]; omega
/-- a number is added at a pair -/
def addP (f : Pw → Option Int) (s : Pw) (x : Int) : Pw → Option Int := putP f s (nv (f s) + x)
theorem WaysOk.add {ks : List Pw} {f : Pw → Option Int} {T x : Int} {s : Pw} (h : WaysOk ks f T) (hs : ∀ p ∈ ks, SmP p) (hn : ks.Nodup) (hk : s ∈ ks) (hx : 0 < x) : WaysOk ks (addP f s x) (T + x) := by
  have h0 := h.nn hs s hk
  refine ⟨fun p hp hne => ?_, fun p y hp he => ?_, ?_⟩
  · by_cases e : p = s
    · rw [e]; exact hk
    · exact h.sup p hp (by simpa [addP, putP, e] using hne)
  · by_cases e : p = s
    · simp only [addP, putP, e, if_pos, Option.some.injEq] at he
      omega
    · exact h.pos p y hp (by simpa [addP, putP, e] using he)
  · unfold addP
    rw [sm_put hn hk]
    have := h.tot
    simp only [Int.mul_one]
    omega
theorem sm_add {ks : List Pw} {f : Pw → Option Int} {x : Int} {s : Pw} {φ : Pw → Int} (hn : ks.Nodup) (hk : s ∈ ks) : sm ks (addP f s x) φ = sm ks f φ + x * φ s := by
  unfold addP
  rw [sm_put hn hk]
  congr 2
  omega
/-- the pair behind a letter, and whether the letter is there -/
def cutI (i : Nat) (p : Pw) : Pw := if i = 0 then cut0 p else cut1 p
def hasI (c : UInt8) (i : Nat) (p : Pw) : Prop := if i = 0 then p.1.data.toList.head? = some c else p.2.data.toList.head? = some c
instance (c : UInt8) (i : Nat) (p : Pw) : Decidable (hasI c i p) := by unfold hasI; exact inferInstance
/-- what one pair's first i words add -/
def addI (c : UInt8) (p : Pw) (x : Int) (g : Pw → Option Int) : Nat → Pw → Option Int
  | 0 => g
  | i + 1 => if hasI c i p then addP (addI c p x g i) (cutI i p) x else addI c p x g i
theorem addI_yes {c : UInt8} {p : Pw} {x : Int} {g : Pw → Option Int} {i : Nat} (h : hasI c i p) : addI c p x g (i + 1) = addP (addI c p x g i) (cutI i p) x := by rw [addI, if_pos h]
theorem addI_no {c : UInt8} {p : Pw} {x : Int} {g : Pw → Option Int} {i : Nat} (h : ¬ hasI c i p) : addI c p x g (i + 1) = addI c p x g i := by rw [addI, if_neg h]
theorem behind_le (s : ByteArray) : (behind s).size ≤ s.size := by rw [← behind_ext]; simp only [ByteArray.size_extract]; omega
theorem addI_ok {ks : List Pw} {c : UInt8} {p : Pw} {x T : Int} {g : Pw → Option Int} (hg : WaysOk ks g T) (hs : ∀ p ∈ ks, SmP p) (hn : ks.Nodup) (hx : 0 < x) (hcl : ∀ i, i < 2 → hasI c i p → cutI i p ∈ ks) : ∀ i, i ≤ 2 → WaysOk ks (addI c p x g i) (T + i * x)
  | 0, _ => by simpa [addI] using hg
  | i + 1, hi => by
    have ih := addI_ok hg hs hn hx hcl i (by omega)
    rw [addI]
    have e : T + ((i + 1 : Nat) : Int) * x = T + i * x + x := by rw [Int.natCast_add, Int.add_mul]; simp; omega
    rw [e]
    split
    · rename_i h; exact ih.add hs hn (hcl i (by omega) h) hx
    · exact ⟨ih.sup, ih.pos, by have := ih.tot; omega⟩
theorem addI_sm {ks : List Pw} {c : UInt8} {p : Pw} {x : Int} {g : Pw → Option Int} (hn : ks.Nodup) (hcl : ∀ i, i < 2 → hasI c i p → cutI i p ∈ ks) (u : List UInt8) : sm ks (addI c p x g 2) (phi u) = sm ks g (phi u) + x * phi (c :: u) p := by
  have h0 := hcl 0 (by omega)
  have h1 := hcl 1 (by omega)
  rw [phi_cons, addI, addI, addI]
  unfold hasI cutI at h0 h1 ⊢
  simp only [if_true, Nat.succ_ne_zero, if_false] at h0 h1 ⊢
  split <;> rename_i a <;> split <;> rename_i b
  · rw [sm_add hn (h1 a), sm_add hn (h0 b), Int.mul_add]; omega
  · rw [sm_add hn (h1 a)]; simp
  · rw [sm_add hn (h0 b)]; simp
  · simp
theorem pw_at0 (x0 x1 : Value) : ∀ w : World, (Instr.index 85 (.agg #[x0, x1]) (.int .i64 0)).run Tryz.prog w = .ok x0 w := fun _ => by kernel_rfl
theorem pw_at1 (x0 x1 : Value) : ∀ w : World, (Instr.index 85 (.agg #[x0, x1]) (.int .i64 1)).run Tryz.prog w = .ok x1 w := fun _ => by kernel_rfl
set_option maxRecDepth 100000 in
set_option maxHeartbeats 4000000 in
theorem after_c (ks : List Pw) (hnd : ks.Nodup) (hsm : ∀ p ∈ ks, SmP p) (cc : UInt8) (ltr : ByteArray) (hlt : ltr.data.toList = [cc]) (hcl : ∀ p ∈ ks, ∀ i, i < 2 → hasI cc i p → cutI i p ∈ ks)
    (b n : Nat) (f : Pw → Option Int) (T : Int) (hok : WaysOk ks f T) (hTb : T ≤ 1000000) (hn : n ≤ 1000000) (w : World) (hM : MapP w b n f) :
    Calls Tryz.prog 96 #[.map (some b), .string ltr] w fun e w' => ∃ b' f', e = .returned (.map (some b')) ∧ Below w.heap.size w w' ∧ w.heap.size ≤ b' ∧ MapP w' b' (2 * n) f' ∧ WaysOk ks f' (2 * T) ∧ ∀ u, sm ks f' (phi u) = sm ks f (phi (cc :: u)) := by
  have HM := Lib.hid hM
  have HOk := Lib.hid hok
  have HCl := Lib.hid hcl
  have HSm := Lib.hid hsm
  have HLt := Lib.hid hlt
  have HNd := Lib.hid hnd
  have hbl := hM.lt
  have hmm := @run_makeMap Tryz.prog
  clear hM hok hcl hsm hlt hnd
  go_enter Tryz.func96, Tryz.ntmps96
  go_wp2_with (at_range; refine wpList_rangeP rfl _ rfl rfl (HM.out.alloc (.map #[] 0)) ?_; intro w0 left0 cnt0 hrg0 hc0 hl0 hg0 hs0)
  go_frame
  simp only [World.size_alloc]
  have hs0' : w0.heap.size = w.heap.size + 1 + 1 := by rw [hs0]; simp
  have HB0 : Hid (Below w.heap.size w w0) := Lib.hid ((below1 w _).trans (below_of_grown hg0 (fun g h => by cases h) (by simp)))
  have hMd : MapP w0 w.heap.size 0 (fun _ => none) := (MapP.made w).grown hg0 (by simp)
  have HSt := Lib.hid (fun φ => show sm ks (fL f left0) φ = sm ks f φ from sm_congr fun k hk => by
    unfold fL
    cases h : left0 k with
    | true => rfl
    | false => rw [hl0 k (HSm.out k hk) h]; rfl)
  go_loopw [16] (fun _ wr => ∃ (left : Pw → Bool) (cnt n' : Nat) (g : Pw → Option Int), RngP wr b (w.heap.size + 1) n f left cnt ∧ MapP wr w.heap.size n' g ∧ n' + 2 * cnt ≤ 2 * n ∧ WaysOk ks g (2 * T - 2 * sm ks (fL f left) fun _ => 1) ∧ (∀ u, sm ks g (phi u) + sm ks (fL f left) (phi (cc :: u)) = sm ks f (phi (cc :: u))) ∧ Below w.heap.size w wr ∧ w.heap.size + 1 < wr.heap.size)
    (fun _ wr => wr.rangeLeft b (w.heap.size + 1))
  case atStart =>
    refine ⟨_, _, _, _, by simpa using hrg0, hMd, by omega, ⟨fun p _ h => absurd rfl h, fun p x _ h => (by cases h), ?_⟩, fun u => ?_, HB0.out, by omega⟩
    · rw [sm_none, HSt.out]; have := HOk.out.tot; omega
    · rw [sm_none, HSt.out]; omega
  case round =>
    obtain ⟨left, cnt, n', g, hR, hMg, hcn, hgk, hsu, hBr, hzr⟩ := hrel
    have HR := Lib.hid hR
    have HMg := Lib.hid hMg
    have HGk := Lib.hid hgk
    have HSu := Lib.hid hsu
    have HBr := Lib.hid hBr
    clear hR hMg hgk hsu hBr hrg0 hg0 HB0 hl0 hMd HSt hs0 hs0'
    have hzb := HBr.out.size
    go_wp2_with (at_next; refine wpList_nextP rfl _ rfl rfl HR.out ?_ ?_)
    · intro hl9
      have hz9 : ∀ φ, sm ks (fL f left) φ = 0 := fun φ => by
        rw [← sm_none ks φ]
        refine sm_congr fun k hk => ?_
        unfold fL
        rw [show left k = false from hl9 k.1 k.2 (HSm.out k hk)]
        rfl
      have hk9 := HGk.out
      rw [hz9] at hk9
      have hs9 := HSu.out
      go_wp2
      go_ret
      exact ⟨w.heap.size, g, rfl, HBr.out, Nat.le_refl _, HMg.out.mono (by omega), ⟨hk9.sup, hk9.pos, by have := hk9.tot; omega⟩, fun u => by have := hs9 u; rw [hz9] at this; omega⟩
    · intro p1 p2 x w2 cnt2 hps hlp hfp hR2 hlt2 hg2 hs2 hen
      have hpk : (p1, p2) ∈ ks := HOk.out.sup (p1, p2) hps (by rw [hfp]; simp)
      have hx0 : 0 < x := HOk.out.pos (p1, p2) x hps hfp
      have HTk := Lib.hid (fun φ => sm_take (f := f) (φ := φ) HNd.out hpk hlp)
      have hnx : nv (f (p1, p2)) = x := by rw [hfp]; rfl
      rw [hnx] at HTk
      have HPc := Lib.hid (HCl.out (p1, p2) hpk)
      have HMg2 := Lib.hid (HMg.out.grown hg2 (by simp))
      have HR2' := Lib.hid hR2
      have HB2 : Hid (Below w.heap.size w w2) := Lib.hid (HBr.out.trans (below_of_grown hg2 (fun g h => by cases h; omega) hzb))
      have hz2 := HB2.out.size
      have hlt3 : (w2.rangeLeft b (w.heap.size + 1)) < wr.rangeLeft b (w.heap.size + 1) := by rw [hR2.left_eq, HR.out.left_eq]; exact hlt2
      clear hR2 hg2 hfp hnx
      unfold pwV at hen ⊢
      go_wp2_with fail
      have hsz6 : (w2.alloc (.cells #[.string p1, .string p2] 85)).heap.size = w2.heap.size + 1 := by simp
      have k0 : (w2.alloc (.cells #[.string p1, .string p2] 85)).cell? ⟨wr.heap.size, 0, none⟩ = some (.string p1) := by rw [← hs2]; go_simp
      have k1 : (w2.alloc (.cells #[.string p1, .string p2] 85)).cell? ⟨wr.heap.size, 1, none⟩ = some (.string p2) := by rw [← hs2]; go_simp
      obtain ⟨w6, hw6⟩ : ∃ W, w2.alloc (.cells #[.string p1, .string p2] 85) = W := ⟨_, rfl⟩
      have HM6 := Lib.hid (HMg2.out.alloc (.cells #[.string p1, .string p2] 85))
      have HR6 := Lib.hid (HR2'.out.alloc (.cells #[.string p1, .string p2] 85))
      have HB6 := Lib.hid (HB2.out.trans ((below1 w2 (.cells #[.string p1, .string p2] 85)).mono hz2))
      rw [hw6] at hsz6 k0 k1 HM6 HR6 HB6 ⊢
      obtain ⟨g6, hg6⟩ : ∃ x, wr.heap.size = x := ⟨_, rfl⟩
      rw [hg6] at k0 k1 ⊢
      have hg6a : g6 < w6.heap.size := by omega
      have hg6b : w.heap.size + 1 < g6 := by omega
      clear hw6 hg6 hs2 hsz6 hzr hzb
      go_loopw [22] (fun v wq => ∃ (i n2 : Nat), i ≤ 2 ∧ v = .int .i64 i ∧ MapP wq w.heap.size n2 (addI cc (p1, p2) x g i) ∧ n2 ≤ n' + i ∧ w6.grownBy wq (some w.heap.size)) (fun v _ => 2 - (intOf v).toNat)
      case atStart => exact ⟨0, n', by omega, rfl, HM6.out, by omega, World.grownBy.refl _ _⟩
      case round =>
        obtain ⟨i, n2, hi, rfl, hMq, hn2, hgq⟩ := hrel
        have HMq := Lib.hid hMq
        have HGq := Lib.hid hgq
        have c0 := (gCell (n := g6) (i := 0) hgq hg6a (by simp; omega)).trans k0
        have c1 := (gCell (n := g6) (i := 1) hgq hg6a (by simp; omega)).trans k1
        have hzq := hgq.size
        clear hMq hgq
        by_cases h2 : i = 2
        · subst h2
          have hw6' := HB6.out.size
          go_wp2
          go_roundw
          case rel =>
            have HTk1 := HTk.out (fun _ => 1)
            have hgk := HGk.out
            refine ⟨_, cnt2, n2, _, HR6.out.kept HGq.out (by simp; omega) (by simp), HMq.out, by omega, ?_, fun u => ?_, HB6.out.trans (below_of_grown HGq.out (fun g h => by cases h; omega) hw6'), by omega⟩
            · have h9 := addI_ok (c := cc) (p := (p1, p2)) (x := x) hgk HSm.out HNd.out hx0 HPc.out 2 (by omega)
              have e : (2 * T - 2 * sm ks (fL f left) fun _ => 1) + ((2 : Nat) : Int) * x = 2 * T - 2 * sm ks (fL f fun z => left z && !decide (z = (p1, p2))) fun _ => 1 := by
                rw [HTk1]; simp only [Int.mul_one]; omega
              rw [e] at h9
              exact h9
            · have h1 := HSu.out u
              rw [HTk.out] at h1
              rw [addI_sm HNd.out HPc.out]
              omega
          case measure => rw [(HR6.out.kept HGq.out (by simp; omega) (by simp)).left_eq, ← HR2'.out.left_eq]; exact hlt3
        · have hi2 : i < 2 := by omega
          have hT2 : 2 * T - 2 * (sm ks (fL f left) fun _ => 1) + 2 * x ≤ 2 * T := by
            have h8 := HTk.out (fun _ => 1)
            simp only [Int.mul_one] at h8
            have h7 : 0 ≤ sm ks (fL f fun z => left z && !decide (z = (p1, p2))) fun _ => 1 := sm_nonneg (fun k hk => by
              unfold fL
              split
              · exact HOk.out.nn HSm.out k hk
              · simp [nv]) (fun _ _ => by omega)
            omega
          have HGi := Lib.hid (addI_ok (c := cc) (p := (p1, p2)) (x := x) HGk.out HSm.out HNd.out hx0 HPc.out)
          have hT3 := hT2
          clear h2 hT2
          obtain rfl | rfl : i = 0 ∨ i = 1 := by omega
          · by_cases hh : p1.data.toList.head? = some cc
            · have HC := Lib.hid (cutOne_yes p1 ltr cc HLt.out hh)
              have hk : (behind p1, p2) ∈ ks := HPc.out 0 (by omega) hh
              have hq : SmP (behind p1, p2) := HSm.out _ hk
              have hnn := (HGi.out 0 (by omega)).nn HSm.out _ hk
              have hn1 := sm_one ((HGi.out 0 (by omega)).nn HSm.out) hk
              have hn3 := (HGi.out 0 (by omega)).tot
              obtain ⟨a, ha⟩ : ∃ a, nv (addI cc (p1, p2) x g 0 (behind p1, p2)) = a := ⟨_, rfl⟩
              have E1 : Hid (addI cc (p1, p2) x g 1 = putP (addI cc (p1, p2) x g 0) (behind p1, p2) (a + x)) := Lib.hid (by
                have h9 := addI_yes (x := x) (g := g) (i := 0) (p := (p1, p2)) (c := cc) hh
                unfold addP at h9
                rw [show cutI 0 (p1, p2) = (behind p1, p2) from rfl, ha] at h9
                exact h9)
              rw [ha] at hnn hn1
              have HA := Lib.hid ha
              have hab : 0 ≤ a ∧ a + x ≤ 2000000 := by constructor; exact hnn; simp at hn3; omega
              have hwr : IntKind.i64.wrap (a + x) = a + x := IntWalk.i64_in _ (by omega)
              have hn9 : n2 < maxLen := by unfold maxLen; omega
              have HQ := Lib.hid hq
              have hat := pw_at0 (.string p1) (.string p2)
              clear hnn hn1 hn3 ha hk hq hh
              go_upto_region 12 with (go_at_call 101; refine (HC.out _).mono ?_; rintro e w' ⟨rfl, rfl⟩)
              have HM8 := Lib.hid (HMq.out.alloc (.cells #[.string (behind p1), .string p2] 85))
              have HG8 := Lib.hid (gT HGq.out (World.grownBy_alloc w' (.cells #[.string (behind p1), .string p2] 85) (some w.heap.size)))
              have d0 : (w'.alloc (.cells #[.string (behind p1), .string p2] 85)).cell? ⟨w'.heap.size, 0, none⟩ = some (.string (behind p1)) := by go_simp
              have d1 : (w'.alloc (.cells #[.string (behind p1), .string p2] 85)).cell? ⟨w'.heap.size, 1, none⟩ = some (.string p2) := by go_simp
              have hz8 : w'.heap.size < (w'.alloc (.cells #[.string (behind p1), .string p2] 85)).heap.size := by simp
              obtain ⟨w8, hw8⟩ : ∃ W, w'.alloc (.cells #[.string (behind p1), .string p2] 85) = W := ⟨_, rfl⟩
              rw [hw8] at HM8 HG8 d0 d1 hz8 ⊢
              obtain ⟨g8, hg8⟩ : ∃ y, w'.heap.size = y := ⟨_, rfl⟩
              rw [hg8] at d0 d1 hz8 hzq ⊢
              have hL0 := HM8.out.drew.run_look1 (behind p1, p2) HQ.out
              obtain ⟨v0, st, w9, hE, hL1, hg9, hS⟩ := HM8.out.drew.run_entry hn9 (behind p1, p2) HQ.out
              obtain ⟨w10, hS, hm10, hg10⟩ := hS (a + x)
              rw [HA.out] at hL0 hL1
              simp only [pwV] at hL0 hL1 hE
              simp only [goInt] at hE hS
              have e0 : w8.drew.cell? ⟨g8, 0, none⟩ = some (.string (behind p1)) := d0
              have e1 : w8.drew.cell? ⟨g8, 1, none⟩ = some (.string p2) := d1
              have f0 := (gCell (n := g8) (i := 0) hg9 hz8 (by simp; omega)).trans e0
              have f1 := (gCell (n := g8) (i := 1) hg9 hz8 (by simp; omega)).trans e1
              have f2 := (gCell (n := g8) (i := 0) hg10 hz8 (by simp; omega)).trans e0
              have f3 := (gCell (n := g8) (i := 1) hg10 hz8 (by simp; omega)).trans e1
              have HM10 := Lib.hid hm10
              have HG10 := Lib.hid (gT HG8.out (gT (show w8.grownBy w8.drew (some w.heap.size) from ⟨rfl, rfl, rfl, Nat.le_refl _, fun _ _ _ => rfl⟩) hg10))
              clear hw8 hg8 hm10 hg9 hg10
              go_region_held3 (fun W => W.cell? ⟨g8, 0, none⟩ = some (.string (behind p1)) ∧ W.cell? ⟨g8, 1, none⟩ = some (.string p2)) (constructor <;> assumption) (fail)
              all_goals
                go_wp2
                go_roundw
                case rel => exact ⟨1, n2 + 1, by omega, by go_num, E1.out ▸ HM10.out, by omega, HG10.out⟩
                case measure => simp [intOf]
            · have HC := Lib.hid (cutOne_no p1 ltr cc HLt.out hh)
              have E1 : Hid (addI cc (p1, p2) x g 1 = addI cc (p1, p2) x g 0) := Lib.hid (addI_no (x := x) (g := g) (i := 0) (p := (p1, p2)) (c := cc) hh)
              have hat := pw_at0 (.string p1) (.string p2)
              clear hh
              go_wp2_with (go_at_call 101; refine (HC.out _).mono ?_; rintro e w' ⟨rfl, rfl⟩)
              go_roundw
              case rel => exact ⟨1, n2, by omega, by go_num, E1.out ▸ HMq.out, by omega, HGq.out⟩
              case measure => simp [intOf]
          · by_cases hh : p2.data.toList.head? = some cc
            · have HC := Lib.hid (cutOne_yes p2 ltr cc HLt.out hh)
              have hk : (p1, behind p2) ∈ ks := HPc.out 1 (by omega) hh
              have hq : SmP (p1, behind p2) := HSm.out _ hk
              have hnn := (HGi.out 1 (by omega)).nn HSm.out _ hk
              have hn1 := sm_one ((HGi.out 1 (by omega)).nn HSm.out) hk
              have hn3 := (HGi.out 1 (by omega)).tot
              obtain ⟨a, ha⟩ : ∃ a, nv (addI cc (p1, p2) x g 1 (p1, behind p2)) = a := ⟨_, rfl⟩
              have E1 : Hid (addI cc (p1, p2) x g 2 = putP (addI cc (p1, p2) x g 1) (p1, behind p2) (a + x)) := Lib.hid (by
                have h9 := addI_yes (x := x) (g := g) (i := 1) (p := (p1, p2)) (c := cc) hh
                unfold addP at h9
                rw [show cutI 1 (p1, p2) = (p1, behind p2) from rfl, ha] at h9
                exact h9)
              rw [ha] at hnn hn1
              have HA := Lib.hid ha
              have hab : 0 ≤ a ∧ a + x ≤ 2000000 := by constructor; exact hnn; simp at hn3; omega
              have hwr : IntKind.i64.wrap (a + x) = a + x := IntWalk.i64_in _ (by omega)
              have hn9 : n2 < maxLen := by unfold maxLen; omega
              have HQ := Lib.hid hq
              have hat := pw_at1 (.string p1) (.string p2)
              clear hnn hn1 hn3 ha hk hq hh
              go_upto_region 12 with (go_at_call 101; refine (HC.out _).mono ?_; rintro e w' ⟨rfl, rfl⟩)
              have HM8 := Lib.hid (HMq.out.alloc (.cells #[.string p1, .string (behind p2)] 85))
              have HG8 := Lib.hid (gT HGq.out (World.grownBy_alloc w' (.cells #[.string p1, .string (behind p2)] 85) (some w.heap.size)))
              have d0 : (w'.alloc (.cells #[.string p1, .string (behind p2)] 85)).cell? ⟨w'.heap.size, 0, none⟩ = some (.string p1) := by go_simp
              have d1 : (w'.alloc (.cells #[.string p1, .string (behind p2)] 85)).cell? ⟨w'.heap.size, 1, none⟩ = some (.string (behind p2)) := by go_simp
              have hz8 : w'.heap.size < (w'.alloc (.cells #[.string p1, .string (behind p2)] 85)).heap.size := by simp
              obtain ⟨w8, hw8⟩ : ∃ W, w'.alloc (.cells #[.string p1, .string (behind p2)] 85) = W := ⟨_, rfl⟩
              rw [hw8] at HM8 HG8 d0 d1 hz8 ⊢
              obtain ⟨g8, hg8⟩ : ∃ y, w'.heap.size = y := ⟨_, rfl⟩
              rw [hg8] at d0 d1 hz8 hzq ⊢
              have hL0 := HM8.out.drew.run_look1 (p1, behind p2) HQ.out
              obtain ⟨v0, st, w9, hE, hL1, hg9, hS⟩ := HM8.out.drew.run_entry hn9 (p1, behind p2) HQ.out
              obtain ⟨w10, hS, hm10, hg10⟩ := hS (a + x)
              rw [HA.out] at hL0 hL1
              simp only [pwV] at hL0 hL1 hE
              simp only [goInt] at hE hS
              have e0 : w8.drew.cell? ⟨g8, 0, none⟩ = some (.string p1) := d0
              have e1 : w8.drew.cell? ⟨g8, 1, none⟩ = some (.string (behind p2)) := d1
              have f0 := (gCell (n := g8) (i := 0) hg9 hz8 (by simp; omega)).trans e0
              have f1 := (gCell (n := g8) (i := 1) hg9 hz8 (by simp; omega)).trans e1
              have f2 := (gCell (n := g8) (i := 0) hg10 hz8 (by simp; omega)).trans e0
              have f3 := (gCell (n := g8) (i := 1) hg10 hz8 (by simp; omega)).trans e1
              have HM10 := Lib.hid hm10
              have HG10 := Lib.hid (gT HG8.out (gT (show w8.grownBy w8.drew (some w.heap.size) from ⟨rfl, rfl, rfl, Nat.le_refl _, fun _ _ _ => rfl⟩) hg10))
              clear hw8 hg8 hm10 hg9 hg10
              go_region_held3 (fun W => W.cell? ⟨g8, 0, none⟩ = some (.string p1) ∧ W.cell? ⟨g8, 1, none⟩ = some (.string (behind p2))) (constructor <;> assumption) (fail)
              all_goals
                go_wp2
                go_roundw
                case rel => exact ⟨2, n2 + 1, by omega, by go_num, E1.out ▸ HM10.out, by omega, HG10.out⟩
                case measure => simp [intOf]
            · have HC := Lib.hid (cutOne_no p2 ltr cc HLt.out hh)
              have E1 : Hid (addI cc (p1, p2) x g 2 = addI cc (p1, p2) x g 1) := Lib.hid (addI_no (x := x) (g := g) (i := 1) (p := (p1, p2)) (c := cc) hh)
              have hat := pw_at1 (.string p1) (.string p2)
              clear hh
              go_wp2_with (go_at_call 101; refine (HC.out _).mono ?_; rintro e w' ⟨rfl, rfl⟩)
              go_roundw
              case rel => exact ⟨2, n2, by omega, by go_num, E1.out ▸ HMq.out, by omega, HGq.out⟩
              case measure => simp [intOf]
end Go.Proofs.YtjloadllckllpaaGreatDoor
