/-
  Elements of the free group behind an interface: words, inverses of words, products. Contracts of the numbers of an inverse and of a product.
-/
import Derived.Test.YtnhiceopgjfaaaaRed
import Derived.Test.YtnhiceopgjfaaaaInvZ
namespace Go.Proofs.Ytnhiceopgjfaaaa
open Go.RowKit

/-- a slice of numbers, as it was handed in -/
structure Sl where
  a : Option Addr
  c : Nat
  z : List Int
def Sl.val (s : Sl) : Value := .slice s.a s.z.length s.c
structure Sl.Ok (s : Sl) (w : World) : Prop where
  row : IRow 0 w.heap.size w s.a s.z
  len : s.z.length ≤ 12
  bd : ∀ x ∈ s.z, -3 ≤ x ∧ x ≤ 3
theorem Sl.Ok.below {s : Sl} {w w' : World} (h : s.Ok w) (hb : Below w.heap.size w w') : s.Ok w' := ⟨(h.row.below hb (Nat.le_refl _)).mono (Nat.le_refl _) hb.size, h.len, h.bd⟩
/-- a word, or the inverse of one -/
inductive El where
  | word (s : Sl)
  | inv (s : Sl)
def El.val : El → Value
  | .word s => .iface 45 s.val
  | .inv s => .iface 49 (.agg #[.iface 45 s.val])
def El.num : El → List Int
  | .word s => s.z
  | .inv s => invL s.z
def El.sl : El → Sl
  | .word s => s
  | .inv s => s
theorem El.num_len (e : El) : e.num.length = e.sl.z.length := by cases e <;> simp [El.num, El.sl, invL_length]
theorem invL_bd {z : List Int} (h : ∀ x ∈ z, -3 ≤ x ∧ x ≤ 3) : ∀ x ∈ invL z, -3 ≤ x ∧ x ≤ 3 := fun x hx => by
  simp only [invL, List.mem_reverse, List.mem_map] at hx
  obtain ⟨y, hy, rfl⟩ := hx
  have := h y hy
  omega
def allN (es : List El) : List Int := es.flatMap El.num
theorem allN_take {es : List El} {k : Nat} (h : k < es.length) : allN (es.take (k + 1)) = allN (es.take k) ++ (es[k]).num := by
  unfold allN; rw [List.take_succ_eq_append_getElem h, List.flatMap_append]; simp
theorem allN_len : ∀ (es : List El), (∀ e ∈ es, e.sl.z.length ≤ 12) → (allN es).length ≤ 12 * es.length
  | [], _ => by simp [allN]
  | e :: r, h => by
    have h1 := allN_len r (fun x hx => h x (List.mem_cons_of_mem _ hx))
    have h2 := h e (List.mem_cons_self ..)
    have h3 := e.num_len
    simp only [allN, List.flatMap_cons, List.length_append, List.length_cons] at h1 ⊢
    omega
theorem allN_bd {es : List El} (h : ∀ e ∈ es, ∀ x ∈ e.sl.z, -3 ≤ x ∧ x ≤ 3) : ∀ x ∈ allN es, -3 ≤ x ∧ x ≤ 3 := fun x hx => by
  simp only [allN, List.mem_flatMap] at hx
  obtain ⟨e, he, hx⟩ := hx
  cases e with
  | word s => exact h _ he x hx
  | inv s => exact invL_bd (h _ he) x hx

set_option maxRecDepth 100000 in
theorem cloneI_any (lo hi : Nat) (a : Option Addr) (cap : Nat) (zs : List Int) (hl : zs.length ≤ 4194304) (w : World) (hr : IRow lo hi w a zs) (hh : hi ≤ w.heap.size) :
    Calls Try.prog 59 #[.slice a zs.length cap] w (IntsPost zs w) := by
  cases a with
  | some ad => exact cloneI_c lo hi ad cap zs hl w hr hh
  | none =>
    have h0 : zs = [] := by
      rcases hr with h | ⟨b, off, e, _⟩
      · exact h
      · cases e
    subst h0
    have hnil : ∀ W : World, (binOp .eql 22 (.slice none 0 cap) (.slice none 0 0)).run Try.prog W = .ok (.bool true) W := fun W => run_eql_slice_nil W 22 2 none 0 cap Try.underlying22
    clear hr
    go_enter Try.func59, Try.ntmps59
    go_wp2
    go_ret
    exact ⟨none, _, rfl, Below.refl _ _, .inl rfl⟩

theorem groupNumbers_c (a : Option Addr) (n cap : Nat) (w : World) :
    Calls Try.prog 87 #[.slice a n cap] w fun e w' => e = .returned (.slice a n cap) ∧ w = w' := by
  go_enter Try.func87, Try.ntmps87
  go_wp2
  go_ret
  exact ⟨rfl, rfl⟩

set_option maxRecDepth 100000 in
set_option maxHeartbeats 4000000 in
theorem invNumbers_c (lo hi : Nat) (a : Option Addr) (cap : Nat) (z : List Int) (hl : z.length ≤ 1000) (hb : ∀ x ∈ z, -3 ≤ x ∧ x ≤ 3) (w : World) (hr : IRow lo hi w a z) (hh : hi ≤ w.heap.size) :
    Calls Try.prog 47 #[.agg #[.iface 45 (.slice a z.length cap)]] w (IntsPost (invL z) w) := by
  have HT := Lib.hid hr
  have HBd := Lib.hid (fun x (hx : x ∈ z.reverse) => hb x (List.mem_reverse.1 hx))
  have HD := Lib.hid (negK_done z)
  have HR := Lib.hid (show z.reverse.length = z.length from List.length_reverse)
  have HIL := Lib.hid (invL_length z)
  clear hr hb
  go_enter Try.func47, Try.ntmps47
  go_wp2_with fail
  refine (groupNumbers_c _ _ _ _).mono ?_
  rintro e w' ⟨rfl, rfl⟩
  go_wp2_with fail
  refine (cloneI_any lo hi a cap z (by omega) _ (HT.out.below (below1 w _) hh) (by simp; omega)).mono ?_
  rintro e w1 ⟨a1, c1, rfl, hb1, hN1⟩
  have hz1 := hb1.size
  have HB1 := Lib.hid ((below1 w (.cells #[.iface 45 (.slice a z.length cap)] 49)).trans (hb1.mono (by simp)))
  have HN1 := Lib.hid hN1
  clear hb1 hN1
  go_wp2_with fail
  refine (reverseI_c _ _ a1 c1 z (by omega) _ HN1.out).mono ?_
  rintro e w2 ⟨r, rfl, hG, hgr, hN2⟩
  have HN2 := Lib.hid hN2
  have hz2 := hG.size
  have HB2 := Lib.hid (HB1.out.trans (below_of_grown hG (fun g h => by have := (hgr g h).1; simp at this; omega) (by have := HB1.out.size; omega)))
  clear hN2 hG hgr
  go_wp2
  go_loopw [14] (fun vi wr => ∃ k : Nat, k ≤ z.length ∧ vi = .int .i64 k ∧ Below w.heap.size w wr ∧ w1.heap.size ≤ wr.heap.size ∧ NewI (w.heap.size + 1) w1.heap.size wr a1 (negK z.reverse k)) (fun vi _ => z.length - (intOf vi).toNat)
  case atStart => exact ⟨0, Nat.zero_le _, rfl, HB2.out, hz2, by rw [negK_zero]; exact HN2.out.mono (by simp) (Nat.le_refl _)⟩
  case round =>
    obtain ⟨k, hk, rfl, hB, hz3, hN⟩ := hrel
    have hzr := hB.size
    by_cases hlt : k < z.length
    · rcases hN with h | ⟨g, rfl, hg1, hg2, hM, hI⟩
      · have := congrArg List.length h
        rw [negK_length, HR.out] at this
        simp only [List.length_nil] at this; omega
      have c0 := hI k (by rw [negK_length, HR.out]; exact hlt)
      rw [negK_get, if_neg (Nat.lt_irrefl _), getDI (by rw [HR.out]; exact hlt), Nat.zero_add] at c0
      have hbx := HBd.out (z.reverse[k]'(by rw [HR.out]; exact hlt)) (List.getElem_mem _)
      have HS := Lib.hid (negK_set z.reverse k (by rw [HR.out]; exact hlt))
      obtain ⟨x, hx⟩ : ∃ x, z.reverse[k]'(by rw [HR.out]; exact hlt) = x := ⟨_, rfl⟩
      rw [hx] at c0 hbx HS
      rw [negK_length, HR.out] at hM
      have hf := (hM.2 k hlt).2
      have hgs := hM.1
      have HM := Lib.hid hM
      have HI := Lib.hid hI
      have HB := Lib.hid hB
      have hw2 : IntKind.i64.wrap (-x) = -x := IntWalk.i64_in _ (by omega)
      have f0 : (0 : Int) ≤ (k : Int) := by omega
      have f1 : (k : Int) < (z.length : Int) := by omega
      clear hx hM hI hB
      go_wp2
      go_roundw
      case rel =>
        refine ⟨k + 1, by omega, by go_num, HB.out.setCell (p := ⟨g, k, none⟩) (by show w.heap.size ≤ g; omega) _, by simpa using hz3, .inr ⟨g, rfl, hg1, hg2, ?_, ?_⟩⟩
        · rw [negK_length, HR.out]; exact HM.out.set _ _
        · rw [← HS.out]
          exact IntsIn.upd HI.out (by rw [negK_length, HR.out]; exact HM.out) (by rw [negK_length, HR.out]; exact hlt) _
      case measure => simp [intOf]; omega
    · obtain rfl : k = z.length := by omega
      rw [HD.out] at hN
      have HN := Lib.hid hN
      have HB := Lib.hid hB
      clear hN hB
      go_wp2
      go_ret
      exact ⟨a1, c1, by first | (rw [HIL.out]; done) | (rw [HIL.out]; rfl), HB.out, HN.out.mono (by omega) hz3⟩
end Go.Proofs.Ytnhiceopgjfaaaa
