/-
  A range over a map from pairs of words to numbers: what is left, and the laws at its operations. (RngV's, for pairs.)
-/
import Derived.Test.YtjloadllckllpaaGreatDoorMapW
namespace Go.Proofs.YtjloadllckllpaaGreatDoor
open Go.RowKit
open Go.WideElems (Fit)
open Go.WideAt Go.WideMaps Go.ChangeMaps Go.Maps

/-- a range over a map that holds f is under way; `left`: what is still to come -/
def RngP (w : World) (b r n : Nat) (f : Pw → Option Int) (left : Pw → Bool) (cnt : Nat) : Prop :=
  ∃ (D : DataW Unit) (lf : Lit → Bool), w.ranges Tryz.prog 85 nmR b r n D lf cnt ∧ (∀ s, SmP s → D.atKey (kP s) .nil = encN (f s)) ∧ ∀ s, SmP s → lf (kP s) = left s
theorem RngP.mapP {w : World} {b r n : Nat} {f : Pw → Option Int} {left : Pw → Bool} {cnt : Nat} (h : RngP w b r n f left cnt) : MapP w b n f := by
  obtain ⟨D, lf, h, hf, _⟩ := h
  exact ⟨D, h.owns, hf⟩
theorem RngP.left_eq {w : World} {b r n : Nat} {f : Pw → Option Int} {left : Pw → Bool} {cnt : Nat} (h : RngP w b r n f left cnt) : w.rangeLeft b r = cnt := by
  obtain ⟨D, lf, h, _⟩ := h
  exact h.left_eq
theorem RngP.ne {w : World} {b r n : Nat} {f : Pw → Option Int} {left : Pw → Bool} {cnt : Nat} (h : RngP w b r n f left cnt) : r ≠ b := by
  obtain ⟨D, lf, h, _⟩ := h
  exact h.ne
theorem RngP.lt {w : World} {b r n : Nat} {f : Pw → Option Int} {left : Pw → Bool} {cnt : Nat} (h : RngP w b r n f left cnt) : r < w.heap.size := by
  obtain ⟨D, lf, h, _⟩ := h
  exact h.lt
theorem RngP.kept {w w' : World} {b r n : Nat} {f : Pw → Option Int} {left : Pw → Bool} {cnt : Nat} {row : Option Nat} (h : RngP w b r n f left cnt) (hg : w.grownBy w' row) (hb : some b ≠ row) (hr : some r ≠ row) : RngP w' b r n f left cnt := by
  obtain ⟨D, lf, h, hf, hl⟩ := h
  exact ⟨D, lf, h.kept hg hb hr, hf, hl⟩
theorem RngP.alloc {w : World} {b r n : Nat} {f : Pw → Option Int} {left : Pw → Bool} {cnt : Nat} (h : RngP w b r n f left cnt) (o : Obj) : RngP (w.alloc o) b r n f left cnt := by
  obtain ⟨D, lf, h, hf, hl⟩ := h
  exact ⟨D, lf, h.alloc o, hf, hl⟩

section
variable {w : World} {ops : Array Oper} {rest : List Oper} {o : Oper} {a : Act} {Q : Exit → Act → World → Prop} {b r n : Nat} {f : Pw → Option Int} {left : Pw → Bool} {cnt : Nat}
theorem wpList_rangeP (hg : o.guard = none) (m : Operand) (hop : o.op = Op.range 87 m) (hm : a.eval m = .map (some b)) (h : MapP w b n f)
    (hK : ∀ w' left cnt, RngP w' b w.heap.size n f left cnt → cnt ≤ n → (∀ s, SmP s → left s = false → f s = none) → w.grownBy w' none → w'.heap.size = w.heap.size + 1 → wpList Tryz.prog ops Q rest (a.put o.dst (.pointer (some ⟨w.heap.size, 0, none⟩))) w') :
    wpList Tryz.prog ops Q (o :: rest) a w := by
  obtain ⟨D, hD, hf⟩ := h
  refine wpList_range_own w hg m _ hop 85 _ keyP Tryz.underlying87 nmR b n D hm hD fun w' hr hgw hs => ?_
  refine hK w' (fun s => Maps.has D (kP s)) _ ⟨D, _, hr, hf, fun _ _ => rfl⟩ hD.size_le (fun s hs hl => ?_) hgw hs
  cases hfs : f s with
  | none => rfl
  | some p =>
    exfalso
    obtain ⟨es, clock, hb, F, _, rfl⟩ := hD
    rcases Maps.fit_look true keyP Tryz.underlying87 (zeroN w) hb F (keyP_mk hs) with ⟨_, _, hat⟩ | ⟨e0, y, _, _, _, _, hat, _⟩
    · have e := encN_none ((hf s hs).symm.trans (hat .nil))
      rw [e] at hfs
      cases hfs
    · have e := has_true_of_atKey hat
      rw [e] at hl
      cases hl
theorem wpList_nextP (hg : o.guard = none) (it : Operand) (hop : o.op = Op.next it false) (hit : a.eval it = .pointer (some ⟨r, 0, none⟩)) (h : RngP w b r n f left cnt)
    (hDone : (∀ s, SmP s → left s = false) → wpList Tryz.prog ops Q rest (a.put o.dst (.tuple #[.bool false])) w)
    (hMore : ∀ (s : Pw) (x : Int) (w' : World) (cnt' : Nat), SmP s → left s = true → f s = some x → RngP w' b r n f (fun z => left z && !decide (z = s)) cnt' → cnt' < cnt → w.grownBy w' (some r) → w'.heap.size = w.heap.size →
      (Instr.entry (.pointer (some ⟨r, 0, none⟩))).run Tryz.prog w' = .ok (.tuple #[pwV s, .int .i64 x]) w' → wpList Tryz.prog ops Q rest (a.put o.dst (.tuple #[.bool true, pwV s, .int .i64 x])) w') :
    wpList Tryz.prog ops Q (o :: rest) a w := by
  obtain ⟨D, lf, hR, hf, hl⟩ := h
  refine wpList_next_ranges w hg it hop 85 keyP nmR pwV (fun p : Int => .int .i64 p) (fun key kl hk => by obtain ⟨s, rfl, _⟩ := keyP_inv hk; exact ⟨s, rfl⟩)
    (fun v y hv => by obtain ⟨n, rfl, _⟩ := nmR_inv hv; exact ⟨n, rfl⟩) b r n D lf cnt hit hR (fun _ h0 => hDone fun s hs => by rw [← hl s hs]; exact h0 _) fun s p kl y w' cnt' hkey hlk hv hat hrg hlt hgr hsz hen => ?_
  obtain ⟨s', es, hs, rfl⟩ := keyP_inv hkey
  have es2 : s = s' := by
    unfold pwV at es
    simp only [Value.agg.injEq] at es
    have h3 := congrArg Array.toList es
    simp at h3
    exact Prod.ext h3.1 h3.2
  subst es2
  have hfs : f s = some p := by
    have e := (hf s hs).symm.trans (hat .nil)
    rw [nmR_mk] at hv
    have hv2 := congrArg Prod.fst (Option.some.inj hv)
    simp only at hv2
    rw [← hv2] at e
    exact encN_some e
  refine hMore s p w' cnt' hs (by rw [← hl s hs]; exact hlk) hfs ⟨D, _, hrg, hf, fun z hz => ?_⟩ hlt hgr hsz hen
  simp only
  rw [hl z hz]
  by_cases e : z = s
  · subst e
    simp [WideAt.sameKey_self (show WideAt.IsKeyLit (kP z) from trivial)]
  · rw [Maps.sameKey_ne (fun e1 => e (kP_inj hz hs e1))]
    simp [e]
end
end Go.Proofs.YtjloadllckllpaaGreatDoor
