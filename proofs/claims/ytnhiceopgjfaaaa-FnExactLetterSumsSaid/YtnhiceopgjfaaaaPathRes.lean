/-
  Paths in the making: one row more; the model's copies of steps and paths; the program's path of moves.
-/
import Derived.Test.YtnhiceopgjfaaaaHds
import Derived.Test.YtnhiceopgjfaaaaEndOf
namespace Go.Proofs.Ytnhiceopgjfaaaa
open Go.RowKit

/-- what a function that returns a path and a code comes to -/
def PathPost (qs : List (List Int)) (c : Int) (W : World) (e : Ending) (w' : World) : Prop :=
  ∃ (a : Option Addr) (cap : Nat), e = .returned (.tuple #[.slice a qs.length cap, .int .i64 c]) ∧ Below W.heap.size W w' ∧ NewP W.heap.size w'.heap.size w' a qs

theorem wpList_append_path {ops : Array Oper} {rest : List Oper} {o : Oper} {act : Act} {Q : Exit → Act → World → Prop} (hgd : o.guard = none) (s x : Operand)
    (ho : o.op = .call { callee := .builtin .append, args := #[s, x], argTypes := #[31, 31] })
    (base : Nat) (w0 w : World) (b : Option Addr) (l c : Nat) (ps : List (List Int)) (z : List Int) (a : Option Addr) (n k : Nat) (hs : act.eval s = .slice b l c) (hl : l = ps.length) (hown : OwnP w0 base (.slice b l c) ps) (hb : Below w0.heap.size w0 w)
    (hz : NewI w0.heap.size w.heap.size w a z) (hn : n = z.length) (hx : act.eval x = .slice (some ⟨w.heap.size, 0, none⟩) 1 1) (hbig : l + 1 ≤ 4194304) (hbase : base ≤ w0.heap.size)
    (h : ∀ a' c' w', OwnP w' base (.slice a' (l + 1) c') (ps ++ [z]) → Below base w w' → w.heap.size ≤ w'.heap.size → wpList Try.prog ops Q rest (act.put o.dst (.slice a' (l + 1) c')) w') :
    wpList Try.prog ops Q (o :: rest) act (w.alloc (.cells #[.slice a n k] 22)) := by
  obtain ⟨hds, h1, h2, h3, h4⟩ := hown
  subst hn
  have hbw := hb.trans ((below1 w (.cells #[.slice a z.length k] 22)).mono hb.size)
  refine wpList_append_hds hgd s x ho base (.slice b l c) l hds [⟨a, z.length, k⟩] hs (by rw [h2]; exact hl) (h1.below hbw (fun g hg => (h1.lt g hg).2)) (some ⟨w.heap.size, 0, none⟩) 1 1 hx rfl (.inr ⟨w.heap.size, 0, rfl, hds_one w ⟨a, z.length, k⟩⟩) hbig (by have := hb.size; simp; omega) fun a' c' w' hO hG hv => ?_
  refine h a' c' w' (OwnP.snoc (B := w.heap.size) h1 h2 h3 h4 hbw (hz.below (below1 w _) (Nat.le_refl _)) (by simp) hbase hO hG hv) ?_ ?_
  · exact ((below1 w (.cells #[.slice a z.length k] 22)).mono (by have := hb.size; omega)).trans (below_of_grown hG (fun g hg => (h1.lt g hg).1) (by have := hb.size; simp; omega))
  · have h9 := hG.size
    rw [World.size_alloc] at h9
    omega

def timesI (k : Int) (z : List Int) : List Int := z.map fun x => k * x
theorem timesI_length (k : Int) (z : List Int) : (timesI k z).length = z.length := by simp [timesI]

/-- the first numbers of a move -/
def stepOf (D : Nat) (v : Mv) : List Int := [v.a, v.b, v.c].take D
theorem stepOf_length {D : Nat} (h : D ≤ 3) (v : Mv) : (stepOf D v).length = D := by simp [stepOf]; omega
theorem stepOf_of {D : Nat} (h : D ≤ 3) {z : List Int} (hz : z.length = D) : stepOf D (mvOf z) = z := by
  apply List.ext_getElem
  · rw [stepOf_length h, hz]
  · intro i h1 h2
    have hi : i = 0 ∨ i = 1 ∨ i = 2 := by omega
    simp only [stepOf, List.getElem_take, mvOf]
    rcases hi with rfl | rfl | rfl <;> simp [List.getElem?_eq_getElem h2]
theorem flat_steps {D : Nat} (h : D ≤ 3) : ∀ ms : List Mv, flat (ms.map (stepOf D)) = D * ms.length
  | [] => by simp [flat]
  | v :: r => by simp only [List.map_cons, flat, stepOf_length h, flat_steps h r, List.length_cons, Nat.mul_add]; omega

/-- what a function that returns new rows comes to -/
def RowsPost (qs : List (List Int)) (W : World) (e : Ending) (w' : World) : Prop :=
  ∃ (a : Option Addr) (cap : Nat), e = .returned (.slice a qs.length cap) ∧ Below W.heap.size W w' ∧ NewP W.heap.size w'.heap.size w' a qs
set_option maxRecDepth 100000 in
set_option maxHeartbeats 2000000 in
theorem rowsOf_c (lo hi : Nat) (D : Nat) (hD : 1 ≤ D ∧ D ≤ 3) (a : Option Addr) (cap : Nat) (ms : List Mv) (hm : ms.length ≤ 1000) (w : World) (hr : MRow lo hi w a ms) (hh : hi ≤ w.heap.size) :
    Calls Try.prog 64 #[.int .i64 D, .slice a ms.length cap] w (RowsPost (ms.map (stepOf D)) w) := by
  have HT := Lib.hid hr
  have hD3 : (D : Int) ≤ 3 := by omega
  have hD0 : (0 : Int) ≤ (D : Int) := by omega
  clear hr
  go_enter Try.func64, Try.ntmps64
  go_wp2
  go_loopw [5, 10] (fun vs vi wr => ∃ (k : Nat) (b : Option Addr) (l c : Nat), k ≤ ms.length ∧ vi = .int .i64 k ∧ vs = .slice b l c ∧ l = k ∧ OwnP wr w.heap.size (.slice b l c) ((ms.take k).map (stepOf D)) ∧ Below w.heap.size w wr) (fun _ vi _ => ms.length - (intOf vi).toNat)
  case atStart => exact ⟨0, none, 0, 0, Nat.zero_le _, rfl, rfl, rfl, OwnP.nil _ _, Below.refl _ _⟩
  case round =>
    obtain ⟨k, bv, lv, cv, hk, rfl, rfl, hlv, hO, hB⟩ := hrel
    have HO := Lib.hid hO
    have HL := Lib.hid hlv
    have HSz := Lib.hid hB.size
    have hlv9 : lv ≤ 1000 := by omega
    clear hO hlv
    by_cases hlt : k < ms.length
    · obtain ⟨b, off, rfl, d0, d1, d2⟩ := HT.out.get hB hh hlt
      have HTk := Lib.hid (show (ms.take (k + 1)).map (stepOf D) = (ms.take k).map (stepOf D) ++ [stepOf D ms[k]] from by rw [List.take_succ_eq_append_getElem hlt, List.map_append]; rfl)
      obtain ⟨x0, x1, x2, hx⟩ : ∃ x0 x1 x2, ms[k] = ⟨x0, x1, x2⟩ := ⟨_, _, _, rfl⟩
      rw [hx] at d0 d1 d2 HTk
      simp only at d0 d1 d2
      have hTn : Tri (wr.alloc (.cells #[.int .i64 x0, .int .i64 x1, .int .i64 x2] 59)) wr.heap.size x0 x1 x2 := ⟨by simp, by go_simp, by go_simp, by go_simp, by go_simp, by go_simp, by go_simp⟩
      have HI := Lib.hid (hTn.ints (zs := stepOf D ⟨x0, x1, x2⟩) (by rw [stepOf_length hD.2]; exact hD.2) (fun h => by simp [stepOf]) (fun h => by simp [stepOf]) (fun h => by simp [stepOf]))
      have HSl := Lib.hid (stepOf_length hD.2 ⟨x0, x1, x2⟩)
      generalize stepOf D ⟨x0, x1, x2⟩ = z at HTk HI HSl
      have hcl := fun W => cloneI_c 0 W.heap.size ⟨wr.heap.size, 0, none⟩ 3 z (by rw [HSl.out]; omega) W
      rw [HSl.out] at hcl
      have HCl := Lib.hid hcl
      have HB9 := Lib.hid hB
      clear hx hB hTn hcl
      go_wp2_with fail
      refine (HCl.out _ (.inr ⟨wr.heap.size, 0, rfl, Nat.zero_le _, by simp, HI.out⟩) (Nat.le_refl _)).mono ?_
      rintro e w1 ⟨a1, c1, rfl, hb1, hN1⟩
      have HB1 := Lib.hid ((below1 wr (.cells #[.int .i64 x0, .int .i64 x1, .int .i64 x2] 59)).trans (hb1.mono (by simp)))
      have HN1 := Lib.hid (hN1.mono (lo' := wr.heap.size) (by simp) (Nat.le_refl _))
      clear hb1 hN1 d0 d1 d2
      go_wp2_with (at_builtin; refine wpList_append_path rfl _ _ rfl w.heap.size wr w1 bv lv cv ((ms.take k).map (stepOf D)) z a1 z.length c1 rfl (by rw [HL.out]; simp; omega) HO.out HB1.out HN1.out rfl rfl (by omega) HSz.out ?_)
      intro a9 q9 w9 hO9 hb9 _
      have HO9 := Lib.hid hO9
      have HBx := Lib.hid ((HB9.out.trans (HB1.out.mono HSz.out)).trans hb9)
      clear hO9 hb9
      go_wp2
      go_roundw
      case rel => exact ⟨k + 1, a9, lv + 1, q9, by omega, by go_num, rfl, by rw [HL.out], by have h := HO9.out; rw [← List.map_take] at h; rw [HTk.out]; exact h, HBx.out⟩
      case measure => simp [intOf]; omega
    · obtain rfl : k = ms.length := by omega
      have HTe := Lib.hid (show (ms.take ms.length).map (stepOf D) = ms.map (stepOf D) from by rw [List.take_length])
      have hO := HO.out
      rw [HTe.out] at hO
      have HLq := Lib.hid hO.at_.1
      have HOw := Lib.hid hO.at_.2
      clear hO
      go_wp2
      go_ret
      exact ⟨bv, cv, by rw [HLq.out]; rfl, hB, HOw.out⟩

set_option maxRecDepth 100000 in
set_option maxHeartbeats 2000000 in
theorem pathOf_c (lo hi : Nat) (D : Nat) (hD : 1 ≤ D ∧ D ≤ 3) (a : Option Addr) (cap : Nat) (ms : List Mv) (hm : ms.length ≤ 1000) (w : World) (hr : MRow lo hi w a ms) (hh : hi ≤ w.heap.size) (qs : List (List Int)) (hq : qs = ms.map (stepOf D)) (c : Int) (rs : List (List Int))
    (hres : if pathB D qs then rs = qs ∧ c = 0 else rs = [] ∧ c = 3) :
    Calls Try.prog 53 #[.int .i64 D, .slice a ms.length cap] w (PathPost rs c w) := by
  have HRo := Lib.hid (rowsOf_c lo hi D hD a cap ms hm w hr hh)
  have hfl : flat qs ≤ 1048576 := by
    rw [hq, flat_steps hD.2]
    have : D * ms.length ≤ 3 * 1000 := Nat.mul_le_mul hD.2 hm
    omega
  have hlq : qs.length ≤ 1048576 := by rw [hq, List.length_map]; omega
  have HRes := Lib.hid hres
  rw [← hq] at HRo
  clear hr hq hres
  go_enter Try.func53, Try.ntmps53
  go_wp2_with fail
  refine HRo.out.mono ?_
  rintro e w1 ⟨bv, cv, rfl, hB, hN⟩
  have HIs := Lib.hid (iIsPath_c w.heap.size w1.heap.size D bv cv qs hlq hfl w1 hN.row)
  have HOw := Lib.hid hN
  clear hN hfl
  cases hp : pathB D qs with
  | true =>
    obtain ⟨rfl, rfl⟩ := (show rs = qs ∧ c = 0 from by have h := HRes.out; rwa [hp, if_pos rfl] at h)
    go_wp2_with (go_at_call 61; refine HIs.out.mono ?_; rw [hp]; rintro e w' ⟨rfl, rfl⟩)
    go_ret2
    exact ⟨bv, cv, rfl, hB, HOw.out⟩
  | false =>
    obtain ⟨rfl, rfl⟩ := (show rs = [] ∧ c = 3 from by have h := HRes.out; rw [hp] at h; simpa using h)
    go_wp2_with (go_at_call 61; refine HIs.out.mono ?_; rw [hp]; rintro e w' ⟨rfl, rfl⟩)
    go_ret2
    exact ⟨none, 0, rfl, hB, .inl rfl⟩
end Go.Proofs.Ytnhiceopgjfaaaa
