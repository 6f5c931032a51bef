/-
  A range over a map from pairs of words to numbers: what is left, and the laws at its operations. (RngV's, for pairs.)
  The program's step of a shuffle: the ways in which a letter is taken next.
  ShuffleNumber's contract, of the program.
-/
import Derived.Test.YtdgkkcjjfpenpaaGreatDoorMapW
import Derived.Test.YtdgkkcjjfpenpaaGreatDoorShuN
import Derived.Test.YtdgkkcjjfpenpaaGreatDoorRes
import Derived.Test.YtdgkkcjjfpenpaaGreatDoorShelf
import Derived.Deep.RegionHeld3
namespace Go.Proofs.YtdgkkcjjfpenpaaGreatDoor
open Go.RowKit
open Go.WideElems (Fit)
open Go.WideAt Go.WideMaps Go.ChangeMaps Go.Maps

/-- a range over a map that holds f is under way; `left`: what is still to come -/
def RngP (w : World) (b r n : Nat) (f : Pw → Option Int) (left : Pw → Bool) (cnt : Nat) : Prop :=
  ∃ (D : DataW Unit) (lf : Lit → Bool), w.ranges Tryz.prog 108 nmR b r n D lf cnt ∧ (∀ s, SmP s → D.atKey (kP s) .nil = encN (f s)) ∧ ∀ s, SmP s → lf (kP s) = left s
theorem RngP.mapP {w : World} {b r n : Nat} {f : Pw → Option Int} {left : Pw → Bool} {cnt : Nat} (h : RngP w b r n f left cnt) : MapP w b n f := by
  obtain ⟨D, lf, h, hf, _⟩ := h
  exact ⟨D, h.owns, hf⟩
theorem RngP.left_eq {w : World} {b r n : Nat} {f : Pw → Option Int} {left : Pw → Bool} {cnt : Nat} (h : RngP w b r n f left cnt) : w.rangeLeft b r = cnt := by
  obtain ⟨D, lf, h, _⟩ := h
  exact h.left_eq
theorem RngP.ne {w : World} {b r n : Nat} {f : Pw → Option Int} {left : Pw → Bool} {cnt : Nat} (h : RngP w b r n f left cnt) : r ≠ b := by
  obtain ⟨D, lf, h, _⟩ := h
  exact h.ne
theorem RngP.lt {w : World} {b r n : Nat} {f : Pw → Option Int} {left : Pw → Bool} {cnt : Nat} (h : RngP w b r n f left cnt) : r < w.heap.size := by
  obtain ⟨D, lf, h, _⟩ := h
  exact h.lt
theorem RngP.kept {w w' : World} {b r n : Nat} {f : Pw → Option Int} {left : Pw → Bool} {cnt : Nat} {row : Option Nat} (h : RngP w b r n f left cnt) (hg : w.grownBy w' row) (hb : some b ≠ row) (hr : some r ≠ row) : RngP w' b r n f left cnt := by
  obtain ⟨D, lf, h, hf, hl⟩ := h
  exact ⟨D, lf, h.kept hg hb hr, hf, hl⟩
theorem RngP.alloc {w : World} {b r n : Nat} {f : Pw → Option Int} {left : Pw → Bool} {cnt : Nat} (h : RngP w b r n f left cnt) (o : Obj) : RngP (w.alloc o) b r n f left cnt := by
  obtain ⟨D, lf, h, hf, hl⟩ := h
  exact ⟨D, lf, h.alloc o, hf, hl⟩

section
variable {w : World} {ops : Array Oper} {rest : List Oper} {o : Oper} {a : Act} {Q : Exit → Act → World → Prop} {b r n : Nat} {f : Pw → Option Int} {left : Pw → Bool} {cnt : Nat}
theorem wpList_rangeP (hg : o.guard = none) (m : Operand) (hop : o.op = Op.range 110 m) (hm : a.eval m = .map (some b)) (h : MapP w b n f)
    (hK : ∀ w' left cnt, RngP w' b w.heap.size n f left cnt → cnt ≤ n → (∀ s, SmP s → left s = false → f s = none) → w.grownBy w' none → w'.heap.size = w.heap.size + 1 → wpList Tryz.prog ops Q rest (a.put o.dst (.pointer (some ⟨w.heap.size, 0, none⟩))) w') :
    wpList Tryz.prog ops Q (o :: rest) a w := by
  obtain ⟨D, hD, hf⟩ := h
  refine wpList_range_own w hg m _ hop 108 _ keyP Tryz.underlying110 nmR b n D hm hD fun w' hr hgw hs => ?_
  refine hK w' (fun s => Maps.has D (kP s)) _ ⟨D, _, hr, hf, fun _ _ => rfl⟩ hD.size_le (fun s hs hl => ?_) hgw hs
  cases hfs : f s with
  | none => rfl
  | some p =>
    exfalso
    obtain ⟨es, clock, hb, F, _, rfl⟩ := hD
    rcases Maps.fit_look true keyP Tryz.underlying110 (zeroN w) hb F (keyP_mk hs) with ⟨_, _, hat⟩ | ⟨e0, y, _, _, _, _, hat, _⟩
    · have e := encN_none ((hf s hs).symm.trans (hat .nil))
      rw [e] at hfs
      cases hfs
    · have e := has_true_of_atKey hat
      rw [e] at hl
      cases hl
theorem wpList_nextP (hg : o.guard = none) (it : Operand) (hop : o.op = Op.next it false) (hit : a.eval it = .pointer (some ⟨r, 0, none⟩)) (h : RngP w b r n f left cnt)
    (hDone : (∀ s, SmP s → left s = false) → wpList Tryz.prog ops Q rest (a.put o.dst (.tuple #[.bool false])) w)
    (hMore : ∀ (s : Pw) (x : Int) (w' : World) (cnt' : Nat), SmP s → left s = true → f s = some x → RngP w' b r n f (fun z => left z && !decide (z = s)) cnt' → cnt' < cnt → w.grownBy w' (some r) → w'.heap.size = w.heap.size →
      (Instr.entry (.pointer (some ⟨r, 0, none⟩))).run Tryz.prog w' = .ok (.tuple #[pwV s, .int .i64 x]) w' → wpList Tryz.prog ops Q rest (a.put o.dst (.tuple #[.bool true, pwV s, .int .i64 x])) w') :
    wpList Tryz.prog ops Q (o :: rest) a w := by
  obtain ⟨D, lf, hR, hf, hl⟩ := h
  refine wpList_next_ranges w hg it hop 108 keyP nmR pwV (fun p : Int => .int .i64 p) (fun key kl hk => by obtain ⟨s, rfl, _⟩ := keyP_inv hk; exact ⟨s, rfl⟩)
    (fun v y hv => by obtain ⟨n, rfl, _⟩ := nmR_inv hv; exact ⟨n, rfl⟩) b r n D lf cnt hit hR (fun _ h0 => hDone fun s hs => by rw [← hl s hs]; exact h0 _) fun s p kl y w' cnt' hkey hlk hv hat hrg hlt hgr hsz hen => ?_
  obtain ⟨s', es, hs, rfl⟩ := keyP_inv hkey
  have es2 : s = s' := by
    unfold pwV at es
    simp only [Value.agg.injEq] at es
    have h3 := congrArg Array.toList es
    simp at h3
    exact Prod.ext h3.1 h3.2
  subst es2
  have hfs : f s = some p := by
    have e := (hf s hs).symm.trans (hat .nil)
    rw [nmR_mk] at hv
    have hv2 := congrArg Prod.fst (Option.some.inj hv)
    simp only at hv2
    rw [← hv2] at e
    exact encN_some e
  refine hMore s p w' cnt' hs (by rw [← hl s hs]; exact hlk) hfs ⟨D, _, hrg, hf, fun z hz => ?_⟩ hlt hgr hsz hen
  simp only
  rw [hl z hz]
  by_cases e : z = s
  · subst e
    simp [WideAt.sameKey_self (show WideAt.IsKeyLit (kP z) from trivial)]
  · rw [Maps.sameKey_ne (fun e1 => e (kP_inj hz hs e1))]
    simp [e]
end
end Go.Proofs.YtdgkkcjjfpenpaaGreatDoor

namespace Go.Proofs.YtdgkkcjjfpenpaaGreatDoor
open Go.RowKit
open Go.WideAt Go.WideMaps Go.ChangeMaps Go.Maps
set_option linter.unusedVariables false

theorem cutOne_yes (s l : ByteArray) (c : UInt8) (hl : l.data.toList = [c]) (h : s.data.toList.head? = some c) (W : World) :
    Calls Tryz.prog 97 #[.string s, .string l] W fun e w' => e = .returned (.tuple #[.string (behind s), .bool true]) ∧ w' = W := by
  have h0 := Tryz.strings_CutPrefix s l W
  rw [hl] at h0
  have hp : Lib.hasPrefix s.data.toList [c] = true := by
    unfold Lib.hasPrefix
    cases hs : s.data.toList with
    | nil => rw [hs] at h; cases h
    | cons a r => rw [hs] at h; simp only [List.head?_cons, Option.some.injEq] at h; simp [h]
  unfold Lib.trimPrefix at h0
  rw [hp, if_pos rfl] at h0
  simp only [List.length_singleton, List.drop_one] at h0
  exact h0
theorem cutOne_no (s l : ByteArray) (c : UInt8) (hl : l.data.toList = [c]) (h : ¬ s.data.toList.head? = some c) (W : World) :
    Calls Tryz.prog 97 #[.string s, .string l] W fun e w' => e = .returned (.tuple #[.string s, .bool false]) ∧ w' = W := by
  have h0 := Tryz.strings_CutPrefix s l W
  rw [hl] at h0
  have hp : Lib.hasPrefix s.data.toList [c] = false := by
    unfold Lib.hasPrefix
    cases hs : s.data.toList with
    | nil => rfl
    | cons a r =>
      rw [hs] at h
      simp only [List.head?_cons, Option.some.injEq] at h
      simp only [List.isPrefixOf, beq_eq_false_iff_ne, ne_eq, Bool.and_true]
      exact fun e => h e.symm
  unfold Lib.trimPrefix at h0
  rw [hp] at h0
  exact h0

theorem gT {w a b : World} {r : Option Nat} (h : w.grownBy a r) (h2 : a.grownBy b r) : w.grownBy b r :=
  ⟨h2.os.trans h.os, h2.tape.trans h.tape, h2.output.trans h.output, Nat.le_trans h.size h2.size, fun i hi hne => (h2.block i (Nat.lt_of_lt_of_le hi h.size) hne).trans (h.block i hi hne)⟩
theorem gN {w a : World} {r : Option Nat} (h : w.grownBy a none) : w.grownBy a r := ⟨h.os, h.tape, h.output, h.size, fun i hi _ => h.block i hi (by simp)⟩
theorem gCell {w w' : World} {r : Option Nat} {n i : Nat} (h : w.grownBy w' r) (hn : n < w.heap.size) (hr : some n ≠ r) : w'.cell? ⟨n, i, none⟩ = w.cell? ⟨n, i, none⟩ := by
  unfold World.cell?
  simp only
  rw [h.block n hn hr]

/-- what is asked of a map of ways: its pairs are among ks, its numbers above 0, at most T in all -/
structure WaysOk (ks : List Pw) (f : Pw → Option Int) (T : Int) : Prop where
  sup : ∀ p, SmP p → f p ≠ none → p ∈ ks
  pos : ∀ p x, SmP p → f p = some x → 0 < x
  tot : sm ks f (fun _ => 1) ≤ T
theorem WaysOk.nn {ks : List Pw} {f : Pw → Option Int} {T : Int} (h : WaysOk ks f T) (hs : ∀ p ∈ ks, SmP p) : ∀ k ∈ ks, 0 ≤ nv (f k) := fun k hk => by
  cases e : f k with
  | none => simp [nv]
  | some x => have := h.pos k x (hs k hk) e; simp [nv]; omega
/-- a number is added at a pair -/
def addP (f : Pw → Option Int) (s : Pw) (x : Int) : Pw → Option Int := putP f s (nv (f s) + x)
theorem WaysOk.add {ks : List Pw} {f : Pw → Option Int} {T x : Int} {s : Pw} (h : WaysOk ks f T) (hs : ∀ p ∈ ks, SmP p) (hn : ks.Nodup) (hk : s ∈ ks) (hx : 0 < x) : WaysOk ks (addP f s x) (T + x) := by
  have h0 := h.nn hs s hk
  refine ⟨fun p hp hne => ?_, fun p y hp he => ?_, ?_⟩
  · by_cases e : p = s
    · rw [e]; exact hk
    · exact h.sup p hp (by simpa [addP, putP, e] using hne)
  · by_cases e : p = s
    · simp only [addP, putP, e, if_pos, Option.some.injEq] at he
      omega
    · exact h.pos p y hp (by simpa [addP, putP, e] using he)
  · unfold addP
    rw [sm_put hn hk]
    have := h.tot
    simp only [Int.mul_one]
    omega
theorem sm_add {ks : List Pw} {f : Pw → Option Int} {x : Int} {s : Pw} {φ : Pw → Int} (hn : ks.Nodup) (hk : s ∈ ks) : sm ks (addP f s x) φ = sm ks f φ + x * φ s := by
  unfold addP
  rw [sm_put hn hk]
  congr 2
  omega
/-- the pair behind a letter, and whether the letter is there -/
def cutI (i : Nat) (p : Pw) : Pw := if i = 0 then cut0 p else cut1 p
def hasI (c : UInt8) (i : Nat) (p : Pw) : Prop := if i = 0 then p.1.data.toList.head? = some c else p.2.data.toList.head? = some c
instance (c : UInt8) (i : Nat) (p : Pw) : Decidable (hasI c i p) := by unfold hasI; exact inferInstance
/-- what one pair's first i words add -/
def addI (c : UInt8) (p : Pw) (x : Int) (g : Pw → Option Int) : Nat → Pw → Option Int
  | 0 => g
  | i + 1 => if hasI c i p then addP (addI c p x g i) (cutI i p) x else addI c p x g i
theorem addI_yes {c : UInt8} {p : Pw} {x : Int} {g : Pw → Option Int} {i : Nat} (h : hasI c i p) : addI c p x g (i + 1) = addP (addI c p x g i) (cutI i p) x := by rw [addI, if_pos h]
theorem addI_no {c : UInt8} {p : Pw} {x : Int} {g : Pw → Option Int} {i : Nat} (h : ¬ hasI c i p) : addI c p x g (i + 1) = addI c p x g i := by rw [addI, if_neg h]
theorem behind_le (s : ByteArray) : (behind s).size ≤ s.size := by rw [← behind_ext]; simp only [ByteArray.size_extract]; omega
theorem addI_ok {ks : List Pw} {c : UInt8} {p : Pw} {x T : Int} {g : Pw → Option Int} (hg : WaysOk ks g T) (hs : ∀ p ∈ ks, SmP p) (hn : ks.Nodup) (hx : 0 < x) (hcl : ∀ i, i < 2 → hasI c i p → cutI i p ∈ ks) : ∀ i, i ≤ 2 → WaysOk ks (addI c p x g i) (T + i * x)
  | 0, _ => by simpa [addI] using hg
  | i + 1, hi => by
    have ih := addI_ok hg hs hn hx hcl i (by omega)
    rw [addI]
    have e : T + ((i + 1 : Nat) : Int) * x = T + i * x + x := by rw [Int.natCast_add, Int.add_mul]; simp; omega
    rw [e]
    split
    · rename_i h; exact ih.add hs hn (hcl i (by omega) h) hx
    · exact ⟨ih.sup, ih.pos, by have := ih.tot; omega⟩
theorem addI_sm {ks : List Pw} {c : UInt8} {p : Pw} {x : Int} {g : Pw → Option Int} (hn : ks.Nodup) (hcl : ∀ i, i < 2 → hasI c i p → cutI i p ∈ ks) (u : List UInt8) : sm ks (addI c p x g 2) (phi u) = sm ks g (phi u) + x * phi (c :: u) p := by
  have h0 := hcl 0 (by omega)
  have h1 := hcl 1 (by omega)
  rw [phi_cons, addI, addI, addI]
  unfold hasI cutI at h0 h1 ⊢
  simp only [if_true, Nat.succ_ne_zero, if_false] at h0 h1 ⊢
  split <;> rename_i a <;> split <;> rename_i b
  · rw [sm_add hn (h1 a), sm_add hn (h0 b), Int.mul_add]; omega
  · rw [sm_add hn (h1 a)]; simp
  · rw [sm_add hn (h0 b)]; simp
  · simp
theorem pw_at0 (x0 x1 : Value) : ∀ w : World, (Instr.index 108 (.agg #[x0, x1]) (.int .i64 0)).run Tryz.prog w = .ok x0 w := fun _ => by kernel_rfl
theorem pw_at1 (x0 x1 : Value) : ∀ w : World, (Instr.index 108 (.agg #[x0, x1]) (.int .i64 1)).run Tryz.prog w = .ok x1 w := fun _ => by kernel_rfl
set_option maxRecDepth 100000 in
set_option maxHeartbeats 4000000 in
theorem after_c (ks : List Pw) (hnd : ks.Nodup) (hsm : ∀ p ∈ ks, SmP p) (cc : UInt8) (ltr : ByteArray) (hlt : ltr.data.toList = [cc]) (hcl : ∀ p ∈ ks, ∀ i, i < 2 → hasI cc i p → cutI i p ∈ ks)
    (b n : Nat) (f : Pw → Option Int) (T : Int) (hok : WaysOk ks f T) (hTb : T ≤ 1000000) (hn : n ≤ 1000000) (w : World) (hM : MapP w b n f) :
    Calls Tryz.prog 93 #[.map (some b), .string ltr] w fun e w' => ∃ b' f', e = .returned (.map (some b')) ∧ Below w.heap.size w w' ∧ w.heap.size ≤ b' ∧ MapP w' b' (2 * n) f' ∧ WaysOk ks f' (2 * T) ∧ ∀ u, sm ks f' (phi u) = sm ks f (phi (cc :: u)) := by
  have HM := Lib.hid hM
  have HOk := Lib.hid hok
  have HCl := Lib.hid hcl
  have HSm := Lib.hid hsm
  have HLt := Lib.hid hlt
  have HNd := Lib.hid hnd
  have hbl := hM.lt
  have hmm := @run_makeMap Tryz.prog
  clear hM hok hcl hsm hlt hnd
  go_enter Tryz.func93, Tryz.ntmps93
  go_wp2_with (at_range; refine wpList_rangeP rfl _ rfl rfl (HM.out.alloc (.map #[] 0)) ?_; intro w0 left0 cnt0 hrg0 hc0 hl0 hg0 hs0)
  go_frame
  simp only [World.size_alloc]
  have hs0' : w0.heap.size = w.heap.size + 1 + 1 := by rw [hs0]; simp
  have HB0 : Hid (Below w.heap.size w w0) := Lib.hid ((below1 w _).trans (below_of_grown hg0 (fun g h => by cases h) (by simp)))
  have hMd : MapP w0 w.heap.size 0 (fun _ => none) := (MapP.made w).grown hg0 (by simp)
  have HSt := Lib.hid (fun φ => show sm ks (fL f left0) φ = sm ks f φ from sm_congr fun k hk => by
    unfold fL
    cases h : left0 k with
    | true => rfl
    | false => rw [hl0 k (HSm.out k hk) h]; rfl)
  go_loopw [16] (fun _ wr => ∃ (left : Pw → Bool) (cnt n' : Nat) (g : Pw → Option Int), RngP wr b (w.heap.size + 1) n f left cnt ∧ MapP wr w.heap.size n' g ∧ n' + 2 * cnt ≤ 2 * n ∧ WaysOk ks g (2 * T - 2 * sm ks (fL f left) fun _ => 1) ∧ (∀ u, sm ks g (phi u) + sm ks (fL f left) (phi (cc :: u)) = sm ks f (phi (cc :: u))) ∧ Below w.heap.size w wr ∧ w.heap.size + 1 < wr.heap.size)
    (fun _ wr => wr.rangeLeft b (w.heap.size + 1))
  case atStart =>
    refine ⟨_, _, _, _, by simpa using hrg0, hMd, by omega, ⟨fun p _ h => absurd rfl h, fun p x _ h => (by cases h), ?_⟩, fun u => ?_, HB0.out, by omega⟩
    · rw [sm_none, HSt.out]; have := HOk.out.tot; omega
    · rw [sm_none, HSt.out]; omega
  case round =>
    obtain ⟨left, cnt, n', g, hR, hMg, hcn, hgk, hsu, hBr, hzr⟩ := hrel
    have HR := Lib.hid hR
    have HMg := Lib.hid hMg
    have HGk := Lib.hid hgk
    have HSu := Lib.hid hsu
    have HBr := Lib.hid hBr
    clear hR hMg hgk hsu hBr hrg0 hg0 HB0 hl0 hMd HSt hs0 hs0'
    have hzb := HBr.out.size
    go_wp2_with (at_next; refine wpList_nextP rfl _ rfl rfl HR.out ?_ ?_)
    · intro hl9
      have hz9 : ∀ φ, sm ks (fL f left) φ = 0 := fun φ => by
        rw [← sm_none ks φ]
        refine sm_congr fun k hk => ?_
        unfold fL
        rw [show left k = false from hl9 k.1 k.2 (HSm.out k hk)]
        rfl
      have hk9 := HGk.out
      rw [hz9] at hk9
      have hs9 := HSu.out
      go_wp2
      go_ret
      exact ⟨w.heap.size, g, rfl, HBr.out, Nat.le_refl _, HMg.out.mono (by omega), ⟨hk9.sup, hk9.pos, by have := hk9.tot; omega⟩, fun u => by have := hs9 u; rw [hz9] at this; omega⟩
    · intro p1 p2 x w2 cnt2 hps hlp hfp hR2 hlt2 hg2 hs2 hen
      have hpk : (p1, p2) ∈ ks := HOk.out.sup (p1, p2) hps (by rw [hfp]; simp)
      have hx0 : 0 < x := HOk.out.pos (p1, p2) x hps hfp
      have HTk := Lib.hid (fun φ => sm_take (f := f) (φ := φ) HNd.out hpk hlp)
      have hnx : nv (f (p1, p2)) = x := by rw [hfp]; rfl
      rw [hnx] at HTk
      have HPc := Lib.hid (HCl.out (p1, p2) hpk)
      have HMg2 := Lib.hid (HMg.out.grown hg2 (by simp))
      have HR2' := Lib.hid hR2
      have HB2 : Hid (Below w.heap.size w w2) := Lib.hid (HBr.out.trans (below_of_grown hg2 (fun g h => by cases h; omega) hzb))
      have hz2 := HB2.out.size
      have hlt3 : (w2.rangeLeft b (w.heap.size + 1)) < wr.rangeLeft b (w.heap.size + 1) := by rw [hR2.left_eq, HR.out.left_eq]; exact hlt2
      clear hR2 hg2 hfp hnx
      unfold pwV at hen ⊢
      go_wp2_with fail
      have hsz6 : (w2.alloc (.cells #[.string p1, .string p2] 108)).heap.size = w2.heap.size + 1 := by simp
      have k0 : (w2.alloc (.cells #[.string p1, .string p2] 108)).cell? ⟨wr.heap.size, 0, none⟩ = some (.string p1) := by rw [← hs2]; go_simp
      have k1 : (w2.alloc (.cells #[.string p1, .string p2] 108)).cell? ⟨wr.heap.size, 1, none⟩ = some (.string p2) := by rw [← hs2]; go_simp
      obtain ⟨w6, hw6⟩ : ∃ W, w2.alloc (.cells #[.string p1, .string p2] 108) = W := ⟨_, rfl⟩
      have HM6 := Lib.hid (HMg2.out.alloc (.cells #[.string p1, .string p2] 108))
      have HR6 := Lib.hid (HR2'.out.alloc (.cells #[.string p1, .string p2] 108))
      have HB6 := Lib.hid (HB2.out.trans ((below1 w2 (.cells #[.string p1, .string p2] 108)).mono hz2))
      rw [hw6] at hsz6 k0 k1 HM6 HR6 HB6 ⊢
      obtain ⟨g6, hg6⟩ : ∃ x, wr.heap.size = x := ⟨_, rfl⟩
      rw [hg6] at k0 k1 ⊢
      have hg6a : g6 < w6.heap.size := by omega
      have hg6b : w.heap.size + 1 < g6 := by omega
      clear hw6 hg6 hs2 hsz6 hzr hzb
      go_loopw [22] (fun v wq => ∃ (i n2 : Nat), i ≤ 2 ∧ v = .int .i64 i ∧ MapP wq w.heap.size n2 (addI cc (p1, p2) x g i) ∧ n2 ≤ n' + i ∧ w6.grownBy wq (some w.heap.size)) (fun v _ => 2 - (intOf v).toNat)
      case atStart => exact ⟨0, n', by omega, rfl, HM6.out, by omega, World.grownBy.refl _ _⟩
      case round =>
        obtain ⟨i, n2, hi, rfl, hMq, hn2, hgq⟩ := hrel
        have HMq := Lib.hid hMq
        have HGq := Lib.hid hgq
        have c0 := (gCell (n := g6) (i := 0) hgq hg6a (by simp; omega)).trans k0
        have c1 := (gCell (n := g6) (i := 1) hgq hg6a (by simp; omega)).trans k1
        have hzq := hgq.size
        clear hMq hgq
        by_cases h2 : i = 2
        · subst h2
          have hw6' := HB6.out.size
          go_wp2
          go_roundw
          case rel =>
            have HTk1 := HTk.out (fun _ => 1)
            have hgk := HGk.out
            refine ⟨_, cnt2, n2, _, HR6.out.kept HGq.out (by simp; omega) (by simp), HMq.out, by omega, ?_, fun u => ?_, HB6.out.trans (below_of_grown HGq.out (fun g h => by cases h; omega) hw6'), by omega⟩
            · have h9 := addI_ok (c := cc) (p := (p1, p2)) (x := x) hgk HSm.out HNd.out hx0 HPc.out 2 (by omega)
              have e : (2 * T - 2 * sm ks (fL f left) fun _ => 1) + ((2 : Nat) : Int) * x = 2 * T - 2 * sm ks (fL f fun z => left z && !decide (z = (p1, p2))) fun _ => 1 := by
                rw [HTk1]; simp only [Int.mul_one]; omega
              rw [e] at h9
              exact h9
            · have h1 := HSu.out u
              rw [HTk.out] at h1
              rw [addI_sm HNd.out HPc.out]
              omega
          case measure => rw [(HR6.out.kept HGq.out (by simp; omega) (by simp)).left_eq, ← HR2'.out.left_eq]; exact hlt3
        · have hi2 : i < 2 := by omega
          have hT2 : 2 * T - 2 * (sm ks (fL f left) fun _ => 1) + 2 * x ≤ 2 * T := by
            have h8 := HTk.out (fun _ => 1)
            simp only [Int.mul_one] at h8
            have h7 : 0 ≤ sm ks (fL f fun z => left z && !decide (z = (p1, p2))) fun _ => 1 := sm_nonneg (fun k hk => by
              unfold fL
              split
              · exact HOk.out.nn HSm.out k hk
              · simp [nv]) (fun _ _ => by omega)
            omega
          have HGi := Lib.hid (addI_ok (c := cc) (p := (p1, p2)) (x := x) HGk.out HSm.out HNd.out hx0 HPc.out)
          have hT3 := hT2
          clear h2 hT2
          obtain rfl | rfl : i = 0 ∨ i = 1 := by omega
          · by_cases hh : p1.data.toList.head? = some cc
            · have HC := Lib.hid (cutOne_yes p1 ltr cc HLt.out hh)
              have hk : (behind p1, p2) ∈ ks := HPc.out 0 (by omega) hh
              have hq : SmP (behind p1, p2) := HSm.out _ hk
              have hnn := (HGi.out 0 (by omega)).nn HSm.out _ hk
              have hn1 := sm_one ((HGi.out 0 (by omega)).nn HSm.out) hk
              have hn3 := (HGi.out 0 (by omega)).tot
              obtain ⟨a, ha⟩ : ∃ a, nv (addI cc (p1, p2) x g 0 (behind p1, p2)) = a := ⟨_, rfl⟩
              have E1 : Hid (addI cc (p1, p2) x g 1 = putP (addI cc (p1, p2) x g 0) (behind p1, p2) (a + x)) := Lib.hid (by
                have h9 := addI_yes (x := x) (g := g) (i := 0) (p := (p1, p2)) (c := cc) hh
                unfold addP at h9
                rw [show cutI 0 (p1, p2) = (behind p1, p2) from rfl, ha] at h9
                exact h9)
              rw [ha] at hnn hn1
              have HA := Lib.hid ha
              have hab : 0 ≤ a ∧ a + x ≤ 2000000 := by constructor; exact hnn; simp at hn3; omega
              have hwr : IntKind.i64.wrap (a + x) = a + x := IntWalk.i64_in _ (by omega)
              have hn9 : n2 < maxLen := by unfold maxLen; omega
              have HQ := Lib.hid hq
              have hat := pw_at0 (.string p1) (.string p2)
              clear hnn hn1 hn3 ha hk hq hh
              go_upto_region 12 with (go_at_call 97; refine (HC.out _).mono ?_; rintro e w' ⟨rfl, rfl⟩)
              have HM8 := Lib.hid (HMq.out.alloc (.cells #[.string (behind p1), .string p2] 108))
              have HG8 := Lib.hid (gT HGq.out (World.grownBy_alloc w' (.cells #[.string (behind p1), .string p2] 108) (some w.heap.size)))
              have d0 : (w'.alloc (.cells #[.string (behind p1), .string p2] 108)).cell? ⟨w'.heap.size, 0, none⟩ = some (.string (behind p1)) := by go_simp
              have d1 : (w'.alloc (.cells #[.string (behind p1), .string p2] 108)).cell? ⟨w'.heap.size, 1, none⟩ = some (.string p2) := by go_simp
              have hz8 : w'.heap.size < (w'.alloc (.cells #[.string (behind p1), .string p2] 108)).heap.size := by simp
              obtain ⟨w8, hw8⟩ : ∃ W, w'.alloc (.cells #[.string (behind p1), .string p2] 108) = W := ⟨_, rfl⟩
              rw [hw8] at HM8 HG8 d0 d1 hz8 ⊢
              obtain ⟨g8, hg8⟩ : ∃ y, w'.heap.size = y := ⟨_, rfl⟩
              rw [hg8] at d0 d1 hz8 hzq ⊢
              have hL0 := HM8.out.drew.run_look1 (behind p1, p2) HQ.out
              obtain ⟨v0, st, w9, hE, hL1, hg9, hS⟩ := HM8.out.drew.run_entry hn9 (behind p1, p2) HQ.out
              obtain ⟨w10, hS, hm10, hg10⟩ := hS (a + x)
              rw [HA.out] at hL0 hL1
              simp only [pwV] at hL0 hL1 hE
              simp only [goInt] at hE hS
              have e0 : w8.drew.cell? ⟨g8, 0, none⟩ = some (.string (behind p1)) := d0
              have e1 : w8.drew.cell? ⟨g8, 1, none⟩ = some (.string p2) := d1
              have f0 := (gCell (n := g8) (i := 0) hg9 hz8 (by simp; omega)).trans e0
              have f1 := (gCell (n := g8) (i := 1) hg9 hz8 (by simp; omega)).trans e1
              have f2 := (gCell (n := g8) (i := 0) hg10 hz8 (by simp; omega)).trans e0
              have f3 := (gCell (n := g8) (i := 1) hg10 hz8 (by simp; omega)).trans e1
              have HM10 := Lib.hid hm10
              have HG10 := Lib.hid (gT HG8.out (gT (show w8.grownBy w8.drew (some w.heap.size) from ⟨rfl, rfl, rfl, Nat.le_refl _, fun _ _ _ => rfl⟩) hg10))
              clear hw8 hg8 hm10 hg9 hg10
              go_region_held3 (fun W => W.cell? ⟨g8, 0, none⟩ = some (.string (behind p1)) ∧ W.cell? ⟨g8, 1, none⟩ = some (.string p2)) (constructor <;> assumption) (fail)
              all_goals
                go_wp2
                go_roundw
                case rel => exact ⟨1, n2 + 1, by omega, by go_num, E1.out ▸ HM10.out, by omega, HG10.out⟩
                case measure => simp [intOf]
            · have HC := Lib.hid (cutOne_no p1 ltr cc HLt.out hh)
              have E1 : Hid (addI cc (p1, p2) x g 1 = addI cc (p1, p2) x g 0) := Lib.hid (addI_no (x := x) (g := g) (i := 0) (p := (p1, p2)) (c := cc) hh)
              have hat := pw_at0 (.string p1) (.string p2)
              clear hh
              go_wp2_with (go_at_call 97; refine (HC.out _).mono ?_; rintro e w' ⟨rfl, rfl⟩)
              go_roundw
              case rel => exact ⟨1, n2, by omega, by go_num, E1.out ▸ HMq.out, by omega, HGq.out⟩
              case measure => simp [intOf]
          · by_cases hh : p2.data.toList.head? = some cc
            · have HC := Lib.hid (cutOne_yes p2 ltr cc HLt.out hh)
              have hk : (p1, behind p2) ∈ ks := HPc.out 1 (by omega) hh
              have hq : SmP (p1, behind p2) := HSm.out _ hk
              have hnn := (HGi.out 1 (by omega)).nn HSm.out _ hk
              have hn1 := sm_one ((HGi.out 1 (by omega)).nn HSm.out) hk
              have hn3 := (HGi.out 1 (by omega)).tot
              obtain ⟨a, ha⟩ : ∃ a, nv (addI cc (p1, p2) x g 1 (p1, behind p2)) = a := ⟨_, rfl⟩
              have E1 : Hid (addI cc (p1, p2) x g 2 = putP (addI cc (p1, p2) x g 1) (p1, behind p2) (a + x)) := Lib.hid (by
                have h9 := addI_yes (x := x) (g := g) (i := 1) (p := (p1, p2)) (c := cc) hh
                unfold addP at h9
                rw [show cutI 1 (p1, p2) = (p1, behind p2) from rfl, ha] at h9
                exact h9)
              rw [ha] at hnn hn1
              have HA := Lib.hid ha
              have hab : 0 ≤ a ∧ a + x ≤ 2000000 := by constructor; exact hnn; simp at hn3; omega
              have hwr : IntKind.i64.wrap (a + x) = a + x := IntWalk.i64_in _ (by omega)
              have hn9 : n2 < maxLen := by unfold maxLen; omega
              have HQ := Lib.hid hq
              have hat := pw_at1 (.string p1) (.string p2)
              clear hnn hn1 hn3 ha hk hq hh
              go_upto_region 12 with (go_at_call 97; refine (HC.out _).mono ?_; rintro e w' ⟨rfl, rfl⟩)
              have HM8 := Lib.hid (HMq.out.alloc (.cells #[.string p1, .string (behind p2)] 108))
              have HG8 := Lib.hid (gT HGq.out (World.grownBy_alloc w' (.cells #[.string p1, .string (behind p2)] 108) (some w.heap.size)))
              have d0 : (w'.alloc (.cells #[.string p1, .string (behind p2)] 108)).cell? ⟨w'.heap.size, 0, none⟩ = some (.string p1) := by go_simp
              have d1 : (w'.alloc (.cells #[.string p1, .string (behind p2)] 108)).cell? ⟨w'.heap.size, 1, none⟩ = some (.string (behind p2)) := by go_simp
              have hz8 : w'.heap.size < (w'.alloc (.cells #[.string p1, .string (behind p2)] 108)).heap.size := by simp
              obtain ⟨w8, hw8⟩ : ∃ W, w'.alloc (.cells #[.string p1, .string (behind p2)] 108) = W := ⟨_, rfl⟩
              rw [hw8] at HM8 HG8 d0 d1 hz8 ⊢
              obtain ⟨g8, hg8⟩ : ∃ y, w'.heap.size = y := ⟨_, rfl⟩
              rw [hg8] at d0 d1 hz8 hzq ⊢
              have hL0 := HM8.out.drew.run_look1 (p1, behind p2) HQ.out
              obtain ⟨v0, st, w9, hE, hL1, hg9, hS⟩ := HM8.out.drew.run_entry hn9 (p1, behind p2) HQ.out
              obtain ⟨w10, hS, hm10, hg10⟩ := hS (a + x)
              rw [HA.out] at hL0 hL1
              simp only [pwV] at hL0 hL1 hE
              simp only [goInt] at hE hS
              have e0 : w8.drew.cell? ⟨g8, 0, none⟩ = some (.string p1) := d0
              have e1 : w8.drew.cell? ⟨g8, 1, none⟩ = some (.string (behind p2)) := d1
              have f0 := (gCell (n := g8) (i := 0) hg9 hz8 (by simp; omega)).trans e0
              have f1 := (gCell (n := g8) (i := 1) hg9 hz8 (by simp; omega)).trans e1
              have f2 := (gCell (n := g8) (i := 0) hg10 hz8 (by simp; omega)).trans e0
              have f3 := (gCell (n := g8) (i := 1) hg10 hz8 (by simp; omega)).trans e1
              have HM10 := Lib.hid hm10
              have HG10 := Lib.hid (gT HG8.out (gT (show w8.grownBy w8.drew (some w.heap.size) from ⟨rfl, rfl, rfl, Nat.le_refl _, fun _ _ _ => rfl⟩) hg10))
              clear hw8 hg8 hm10 hg9 hg10
              go_region_held3 (fun W => W.cell? ⟨g8, 0, none⟩ = some (.string p1) ∧ W.cell? ⟨g8, 1, none⟩ = some (.string (behind p2))) (constructor <;> assumption) (fail)
              all_goals
                go_wp2
                go_roundw
                case rel => exact ⟨2, n2 + 1, by omega, by go_num, E1.out ▸ HM10.out, by omega, HG10.out⟩
                case measure => simp [intOf]
            · have HC := Lib.hid (cutOne_no p2 ltr cc HLt.out hh)
              have E1 : Hid (addI cc (p1, p2) x g 2 = addI cc (p1, p2) x g 1) := Lib.hid (addI_no (x := x) (g := g) (i := 1) (p := (p1, p2)) (c := cc) hh)
              have hat := pw_at1 (.string p1) (.string p2)
              clear hh
              go_wp2_with (go_at_call 97; refine (HC.out _).mono ?_; rintro e w' ⟨rfl, rfl⟩)
              go_roundw
              case rel => exact ⟨2, n2, by omega, by go_num, E1.out ▸ HMq.out, by omega, HGq.out⟩
              case measure => simp [intOf]
end Go.Proofs.YtdgkkcjjfpenpaaGreatDoor

namespace Go.Proofs.YtdgkkcjjfpenpaaGreatDoor
open Go.RowKit
open Go.WideAt Go.WideMaps Go.ChangeMaps Go.Maps
set_option linter.unusedVariables false

/-- a word without its first a letters -/
def dropB (a : Nat) (s : ByteArray) : ByteArray := ⟨(s.data.toList.drop a).toArray⟩
theorem dropB_size (a : Nat) (s : ByteArray) : (dropB a s).size = s.size - a := by
  unfold dropB
  show (s.data.toList.drop a).toArray.size = _
  simp only [List.size_toArray, List.length_drop]
  rfl
theorem dropB_0 (s : ByteArray) : dropB 0 s = s := rfl
theorem behind_drop (a : Nat) (s : ByteArray) : behind (dropB a s) = dropB (a + 1) s := by
  unfold behind dropB
  simp only [List.tail_drop]
theorem dropB_all (s : ByteArray) : dropB s.size s = ByteArray.empty := by
  unfold dropB
  have : s.data.toList.drop s.size = [] := List.drop_eq_nil_of_le (Nat.le_refl _)
  rw [this]; rfl
def suf (s : ByteArray) : List ByteArray := (List.range (s.size + 1)).map fun a => dropB a s
theorem suf_nodup (s : ByteArray) : (suf s).Nodup := by
  unfold suf List.Nodup
  rw [List.pairwise_map]
  refine List.Pairwise.imp_of_mem (R := (· < ·)) (fun {a b} ha hb h e => ?_) List.pairwise_lt_range
  have h1 := congrArg ByteArray.size e
  rw [dropB_size, dropB_size] at h1
  have := List.mem_range.1 hb
  omega
theorem suf_mem {s t : ByteArray} : t ∈ suf s ↔ ∃ a, a ≤ s.size ∧ t = dropB a s := by
  unfold suf
  rw [List.mem_map]
  constructor
  · rintro ⟨a, ha, rfl⟩
    exact ⟨a, by have := List.mem_range.1 ha; omega, rfl⟩
  · rintro ⟨a, ha, rfl⟩
    exact ⟨a, List.mem_range.2 (by omega), rfl⟩
/-- the pairs that a shuffle of two words comes by -/
def grid (v w : ByteArray) : List Pw := (suf v).flatMap fun p => (suf w).map fun q => (p, q)
theorem grid_mem {v w : ByteArray} {p : Pw} : p ∈ grid v w ↔ p.1 ∈ suf v ∧ p.2 ∈ suf w := by
  unfold grid
  rw [List.mem_flatMap]
  constructor
  · rintro ⟨a, ha, h⟩
    obtain ⟨q, hq, rfl⟩ := List.mem_map.1 h
    exact ⟨ha, hq⟩
  · rintro ⟨h1, h2⟩
    exact ⟨p.1, h1, List.mem_map.2 ⟨p.2, h2, rfl⟩⟩
theorem grid_nodup (v w : ByteArray) : (grid v w).Nodup := by
  unfold grid List.Nodup
  rw [List.pairwise_flatMap]
  refine ⟨fun a _ => ?_, List.Pairwise.imp (fun {a b} h => ?_) (suf_nodup v)⟩
  · rw [List.pairwise_map]
    exact List.Pairwise.imp (fun {p q} h e => h (congrArg Prod.snd e)) (suf_nodup w)
  · intro x hx y hy e
    obtain ⟨p, _, rfl⟩ := List.mem_map.1 hx
    obtain ⟨q, _, rfl⟩ := List.mem_map.1 hy
    exact h (congrArg Prod.fst e)
theorem grid_small {v w : ByteArray} (hv : v.size ≤ 8) (hw : w.size ≤ 8) : ∀ p ∈ grid v w, SmP p := fun p hp => by
  obtain ⟨h1, h2⟩ := grid_mem.1 hp
  obtain ⟨a, _, h1⟩ := suf_mem.1 h1
  obtain ⟨b, _, h2⟩ := suf_mem.1 h2
  refine ⟨?_, ?_⟩
  · rw [h1, dropB_size]; unfold maxLen; omega
  · rw [h2, dropB_size]; unfold maxLen; omega
theorem suf_behind {s t : ByteArray} {c : UInt8} (h : t ∈ suf s) (hc : t.data.toList.head? = some c) : behind t ∈ suf s := by
  obtain ⟨a, ha, rfl⟩ := suf_mem.1 h
  refine suf_mem.2 ⟨a + 1, ?_, behind_drop a s⟩
  rcases Nat.lt_or_ge a s.size with h | h
  · omega
  · have : (dropB a s).data.toList = [] := nil_of (by rw [dropB_size]; omega)
    rw [this] at hc
    cases hc
theorem grid_cut {v w : ByteArray} {c : UInt8} : ∀ p ∈ grid v w, ∀ i, i < 2 → hasI c i p → cutI i p ∈ grid v w := fun p hp i _ h => by
  obtain ⟨h1, h2⟩ := grid_mem.1 hp
  unfold hasI at h
  unfold cutI
  split
  · rename_i e
    rw [if_pos e] at h
    exact grid_mem.2 ⟨suf_behind h1 h, h2⟩
  · rename_i e
    rw [if_neg e] at h
    exact grid_mem.2 ⟨h1, suf_behind h2 h⟩
theorem sm_phi_nil {f : Pw → Option Int} : ∀ {ks : List Pw}, ks.Nodup → (ByteArray.empty, ByteArray.empty) ∈ ks → sm ks f (phi []) = nv (f (ByteArray.empty, ByteArray.empty))
  | [], _, h => by cases h
  | k :: ks, hn, h => by
    obtain ⟨hk, hn⟩ := List.nodup_cons.1 hn
    by_cases e : k = (ByteArray.empty, ByteArray.empty)
    · subst e
      have h0 : sm ks f (phi []) = 0 := by
        have : ∀ {l : List Pw}, (ByteArray.empty, ByteArray.empty) ∉ l → sm l f (phi []) = 0 := by
          intro l
          induction l with
          | nil => intro _; rfl
          | cons z l ih =>
            intro hz
            have h1 := ih (fun h => hz (List.mem_cons_of_mem _ h))
            have h2 : phi [] z = 0 := by rw [phi_nil, if_neg (fun e : z = (ByteArray.empty, ByteArray.empty) => hz (by rw [← e]; exact List.mem_cons_self ..))]
            unfold sm at h1 ⊢
            simp only [List.map_cons, List.sum_cons, h1, h2]
            simp
        exact this hk
      unfold sm at h0 ⊢
      simp only [List.map_cons, List.sum_cons]
      rw [h0, phi_nil, if_pos rfl]
      simp
    · have hm : (ByteArray.empty, ByteArray.empty) ∈ ks := by
        rcases List.mem_cons.1 h with h | h
        · exact absurd h.symm e
        · exact h
      have ih := sm_phi_nil (f := f) hn hm
      have h2 : phi [] k = 0 := by rw [phi_nil, if_neg e]
      unfold sm at ih ⊢
      simp only [List.map_cons, List.sum_cons, ih, h2]
      simp
/-- the beginning -/
def way0 (v w : ByteArray) : Pw → Option Int := putP (fun _ => none) (v, w) 1
theorem grid_0 (v w : ByteArray) : (v, w) ∈ grid v w := grid_mem.2 ⟨suf_mem.2 ⟨0, by omega, rfl⟩, suf_mem.2 ⟨0, by omega, rfl⟩⟩
theorem grid_e (v w : ByteArray) : (ByteArray.empty, ByteArray.empty) ∈ grid v w := grid_mem.2 ⟨suf_mem.2 ⟨v.size, Nat.le_refl _, (dropB_all v).symm⟩, suf_mem.2 ⟨w.size, Nat.le_refl _, (dropB_all w).symm⟩⟩
theorem way0_ok (v w : ByteArray) (hv : v.size ≤ 8) (hw : w.size ≤ 8) : WaysOk (grid v w) (way0 v w) 1 := by
  have h0 : WaysOk (grid v w) (fun _ => none) 0 := ⟨fun p _ h => absurd rfl h, fun p x _ h => (by cases h), by rw [sm_none]; omega⟩
  have h1 := h0.add (grid_small hv hw) (grid_nodup v w) (grid_0 v w) (x := 1) (by omega)
  exact h1
theorem way0_sm (v w : ByteArray) (u : List UInt8) : sm (grid v w) (way0 v w) (phi u) = phi u (v, w) := by
  unfold way0
  rw [sm_put (grid_nodup v w) (grid_0 v w), sm_none]
  simp [nv]
theorem ext_one (u : ByteArray) (k : Nat) (h : k < u.size) : (u.extract k (k + 1)).data.toList = [u[k]] ∧ u.data.toList.drop k = u[k] :: u.data.toList.drop (k + 1) := by
  have h' : k < u.data.toList.length := h
  have e : u[k] = u.data.toList[k] := by rw [Array.getElem_toList]; rfl
  have e2 : u.data.toList.drop k = u.data.toList[k] :: u.data.toList.drop (k + 1) := List.drop_eq_getElem_cons h'
  refine ⟨?_, by rw [e]; exact e2⟩
  simp only [ByteArray.data_extract, Array.toList_extract, List.extract_eq_take_drop]
  rw [e2, e]
  simp
section
variable {ops : Array Oper} {rest : List Oper} {o : Oper} {a : Act} {w : World} {Q : Exit → Act → World → Prop} {b n : Nat} {f : Pw → Option Int}
theorem wpList_insP (hg : o.guard = none) (m x v : Operand) (hop : o.op = Op.insert 110 m x v) (hm : a.eval m = .map (some b)) (h : MapP w b n f) (hn : n < maxLen) (s : Pw) (hx : a.eval x = pwV s) (hs : SmP s) (y : Int) (hv : a.eval v = .int .i64 y)
    (hK : ∀ w', MapP w' b (n + 1) (putP f s y) → w.grownBy w' (some b) → wpList Tryz.prog ops Q rest (a.put o.dst undef) w') : wpList Tryz.prog ops Q (o :: rest) a w := by
  obtain ⟨w', hrun, r1, r2⟩ := h.run_put hn s hs y
  refine wpList_plain hg fun K' hK' => ?_
  unfold Oper.wp
  simp [execOp, hop, hm, hx, hv, hrun, Result.andThen]
  exact hK' _ _ (hK w' r1 r2)
end
/-- a word that is fit -/
def fitW (d : Int) (s : ByteArray) : Bool := decide ((s.size : Int) ≤ 8) && wordB d s.data.toList
theorem isWord_f (d : Int) (s : ByteArray) (hs : s.size ≤ maxLen) (w : World) :
    Calls Tryz.prog 13 #[.int .i64 d, .int .i64 8, .string s] w fun e w' => e = .returned (.bool (fitW d s)) ∧ w = w' := isWord_c d 8 s hs w
def nth (v w u : ByteArray) (i : Nat) : ByteArray := if i = 0 then v else if i = 1 then w else u
theorem shC_fit {d : Int} {v w u : ByteArray} (hi : inB d 1 3 = true) (h : ∀ j, j < 3 → fitW d (nth v w u j) = true) : shC d v w u = 0 := by
  have h0 := h 0 (by omega)
  have h1 := h 1 (by omega)
  have h2 := h 2 (by omega)
  unfold fitW nth at h0 h1 h2
  simp only [Bool.and_eq_true, decide_eq_true_eq, if_true, if_false, Nat.succ_ne_zero] at h0 h1 h2
  unfold shC
  rw [if_pos]
  simp only [Bool.and_eq_true, decide_eq_true_eq]
  refine ⟨⟨⟨⟨⟨⟨hi, h0.2⟩, h1.2⟩, h2.2⟩, ?_⟩, ?_⟩, ?_⟩
  · have := h0.1; omega
  · have := h1.1; omega
  · have := h2.1; simp at this; omega
theorem shC_unfit {d : Int} {v w u : ByteArray} {j : Nat} (hj : j < 3) (h : fitW d (nth v w u j) = false) : shC d v w u = 2 := by
  refine shC_bad fun e => ?_
  obtain ⟨_, h2, h3, h4, h5, h6, h7⟩ := shC_good e
  have : fitW d (nth v w u j) = true := by
    unfold fitW nth
    simp only [Bool.and_eq_true, decide_eq_true_eq]
    split
    · exact ⟨by omega, h2⟩
    · split
      · exact ⟨by omega, h3⟩
      · exact ⟨by omega, h4⟩
  rw [h] at this
  cases this
end Go.Proofs.YtdgkkcjjfpenpaaGreatDoor
