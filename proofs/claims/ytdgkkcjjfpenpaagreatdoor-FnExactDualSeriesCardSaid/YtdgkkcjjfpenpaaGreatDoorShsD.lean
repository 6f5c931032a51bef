/-
  The program adds the words of a shuffle, times a, to a map of values: contract of addShuffle.
  The program's shuffle as a function to range over: the map that it makes is a new one.
  The program's sum of the shuffles of the words of two series, times both values, as work behind the door.
  The program's sum of the shuffles of two series, behind the door.
-/
import Derived.Test.YtdgkkcjjfpenpaaGreatDoorShsC
import Derived.Test.YtdgkkcjjfpenpaaGreatDoorShuH
import Derived.Test.YtdgkkcjjfpenpaaGreatDoorNew4
import Derived.Test.YtdgkkcjjfpenpaaGreatDoorPwR
import Derived.Test.YtdgkkcjjfpenpaaGreatDoorUnitS
import Derived.Test.YtdgkkcjjfpenpaaGreatDoorGate
import Derived.Test.YtdgkkcjjfpenpaaGreatDoorConst
import Derived.RangeFuncBox
import Derived.RangeFuncNested
import Derived.RangeFuncCalls
import Derived.TacticsInMore
import Derived.Deep.RegionHeld2
import Derived.Deep.RegionHeld3
namespace Go.Proofs.YtdgkkcjjfpenpaaGreatDoor
open Go.RowKit
open Go.WideAt Go.WideMaps Go.ChangeMaps Go.Maps
set_option linter.unusedVariables false
set_option linter.unusedSimpArgs false
attribute [local go_sem] Oper.semAt_some

theorem grown_past {w W W' : World} {bs B : Nat} {row : Option Nat} (h : w.grownBy W (some bs)) (hg : W.grownBy W' row) (hr : ∀ r, row = some r → B ≤ r) (hB : w.heap.size ≤ B) : w.grownBy W' (some bs) :=
  ⟨hg.os.trans h.os, hg.tape.trans h.tape, hg.output.trans h.output, Nat.le_trans h.size hg.size, fun k hk hne => (hg.block k (Nat.lt_of_lt_of_le hk h.size) (fun e => by have := hr k e.symm; omega)).trans (h.block k hk hne)⟩
theorem keepsFrom_grown {B bs : Nat} {W W' : World} (hg : W.grownBy W' (some bs)) (hb : bs < B) : KeepsFrom B W W' := KeepsFrom.of_grownBy hg (fun j e => by cases e; exact hb)
theorem apR_turn (a b n d p q : Int) : apR a b n d p q = apR a b p q n d := by
  unfold apR
  rw [Int.mul_comm n p, Int.mul_comm d q]
set_option maxRecDepth 100000 in
set_option maxHeartbeats 8000000 in
theorem addShuffle_c (ws : List ByteArray) (hws : ∀ s ∈ ws, s.size ≤ 1000) (v u : ByteArray) (hvu : v.size + u.size ≤ 5) (hin : ∀ x ∈ eachL v.data.toList u.data.toList (v.size + u.size) ByteArray.empty, x.1 ∈ ws ∧ isF (x.2 : Int) 1 = true) (hfew : (eachL v.data.toList u.data.toList (v.size + u.size) ByteArray.empty).length ≤ 1000)
    (bs n : Nat) (hn : n ≤ 900000) (f : VF) (hf : GoodV ws f) (a b : Int) (ha : isF a b = true) (bm p q B : Nat) (hbs : bs < B) (hBm : B ≤ bm) (w : World) (hBw : B ≤ w.heap.size) (hm : MapV w bs n f) (hM : MapP w bm 1 (way0 v u)) (hp : p < w.heap.size) (hq : q < w.heap.size) (c0 : w.cell? ⟨p, 0, none⟩ = some (.map (some bm))) (c1 : w.cell? ⟨q, 0, none⟩ = some (.string ⟨#[]⟩)) :
    Calls Tryz.prog 74 #[.map (some bs), .agg #[.int .i64 a, .int .i64 b], .func (.func 86) #[] #[.pointer (some ⟨p, 0, none⟩), .pointer (some ⟨q, 0, none⟩)]] w
      (AddPost (shK a b (eachL v.data.toList u.data.toList (v.size + u.size) ByteArray.empty) f) bs (n + (eachL v.data.toList u.data.toList (v.size + u.size) ByteArray.empty).length) w) := by
  have hmx : Tryz.prog.follows .mixedOrders = true := by kernel_rfl
  have HWs := Lib.hid hws
  have HIn := Lib.hid hin
  have HGf := Lib.hid hf
  have HIa := Lib.hid ha
  have hbl := hm.lt
  obtain ⟨w8, hw8⟩ : ∃ w8, (w.alloc (.cells #[.map (some bs)] 82)).alloc (.cells #[.int .i64 a, .int .i64 b] 44) = w8 := ⟨_, rfl⟩
  have hb8 : Below w.heap.size w w8 := by rw [← hw8]; exact below2 w _ _
  have hz8 : w8.heap.size = w.heap.size + 2 := by rw [← hw8]; simp
  have k0 : w8.cell? ⟨w.heap.size, 0, none⟩ = some (.map (some bs)) := by subst hw8; go_simp
  have k1 : w8.cell? ⟨w.heap.size + 1, 0, none⟩ = some (.int .i64 a) := by subst hw8; go_simp
  have k2 : w8.cell? ⟨w.heap.size + 1, 1, none⟩ = some (.int .i64 b) := by subst hw8; go_simp
  have hm8 : MapV w8 bs n f := hm.below hb8 hbl
  have hM8 : MapP w8 bm 1 (way0 v u) := hM.below hb8 hM.lt
  have e0 := (hb8.cell (p := ⟨p, 0, none⟩) hp).trans c0
  have e1 := (hb8.cell (p := ⟨q, 0, none⟩) hq).trans c1
  refine (callsIn_wide (n := 9)).1 ?_
  refine callsIn_of_at Tryz.func74 rfl trivial ?_
  simp only [Tryz.ntmps74, List.size_toArray, List.length_cons, List.length_nil, Nat.reduceAdd, Nat.reduceSub, Array.replicate_succ, Array.replicate_zero, List.push_toArray, List.append_toArray, List.nil_append, List.cons_append]
  refine WpAt.seq trivial (WpAt.of_in trivial rfl ?_)
  gi_wp2
  refine WpAt.seq trivial (WpAt.of_in trivial rfl ?_)
  gi_wp2
  try rw [hw8]
  clear hw8 c0 c1 hm hM
  refine WpAt.block trivial ?_
  refine WpAt.range_np trivial Tryz.func74 (by omega) (gf := 86) (lb := #[.pointer (some ⟨p, 0, none⟩), .pointer (some ⟨q, 0, none⟩)]) rfl trivial (enters_of Tryz.func86 (by kernel_rfl) rfl)
    (words_stops3 [misP 3] B v u hvu bm p q hBm w8 hM8 (by omega) (by omega) e0 e1) (fun h k => h.trans k) (fun W l o o' hl h ho hk => ⟨by simp, fun k o2 hB hk2 ho2 => (World.putObj_heap_other (by intro e; subst e; rw [h] at hk2; cases hk2; rw [hk] at ho2; cases ho2)).trans hk2⟩) (Below.refl _ _) (fun _ => rfl)
    (fun (pre : List (Sw v u)) W => ∃ h, shK a b (pre.map (·.1)) f = some h ∧ GoodV ws h ∧ MapV W bs (n + pre.length) h ∧ w8.grownBy W (some bs))
    (fun (pre : List (Sw v u)) W => shK a b (pre.map (·.1)) f = none ∧ w8.grownBy W (some bs))
    (fun s A B' row hs hg hr => by
      obtain ⟨h, h1, h2, h3, h4⟩ := hs
      exact ⟨h, h1, h2, h3.grown hg (fun e => by have := (hr bs e.symm).1; omega), grown_past h4 hg (fun r e => (hr r e).1) (Nat.le_refl _)⟩)
    (fun s A B' row hs hg hr => ⟨hs.1, grown_past hs.2 hg (fun r e => (hr r e).1) (Nat.le_refl _)⟩)
    ⟨f, rfl, HGf.out, hm8, ⟨rfl, rfl, rfl, Nat.le_refl _, fun _ _ _ => rfl⟩⟩
    (fun x : Sw v u => { tmps := #[.map (some bs), .agg #[.int .i64 a, .int .i64 b], .func (.func 86) #[] #[.pointer (some ⟨p, 0, none⟩), .pointer (some ⟨q, 0, none⟩)], .pointer (some ⟨w.heap.size, 0, none⟩), .pointer (some ⟨w.heap.size + 1, 0, none⟩), undef, .string x.1.1, .int .i64 (x.1.2 : Int), .func (.func 86) #[] #[.pointer (some ⟨p, 0, none⟩), .pointer (some ⟨q, 0, none⟩)], .string x.1.1, .int .i64 (x.1.2 : Int), undef, undef, undef, undef, undef, undef, undef, undef, undef, undef, undef, undef, undef], defers := [] }) ?assign ?body ?done ?pan
  case assign =>
    intro l x W K hK
    simp only [encE]
    gi_wp2
    exact hK
  case body =>
    rintro l pre ⟨⟨s, num⟩, hmem⟩ W ⟨h, hsh, hgd, hmv, hgr⟩ hlt
    have hx := HIn.out _ hmem
    have hsz : s.size ≤ 1000 := HWs.out _ hx.1
    have hsm : s.size ≤ maxLen := by unfold maxLen; omega
    have HFn := Lib.hid hx.2
    have HMem := Lib.hid hx.1
    have HSn := Lib.hid (show shK a b ((pre ++ [(⟨(s, num), hmem⟩ : Sw v u)]).map (·.1)) f = shStep a b h (s, num) by rw [List.map_append]; exact shK_snoc hsh _)
    have hzW := hgr.size
    have hS0 : (W.cell? ⟨w.heap.size, 0, none⟩ = some (.map (some bs)) ∧ W.cell? ⟨w.heap.size + 1, 0, none⟩ = some (.int .i64 a) ∧ W.cell? ⟨w.heap.size + 1, 1, none⟩ = some (.int .i64 b)) := ⟨(gr_cell (i := 0) hgr (n := w.heap.size) (by omega) (by omega)).trans k0, (gr_cell (i := 0) hgr (n := w.heap.size + 1) (by omega) (by omega)).trans k1, (gr_cell (i := 1) hgr (n := w.heap.size + 1) (by omega) (by omega)).trans k2⟩
    have hbsW : bs < W.heap.size := hmv.lt
    have HIv := Lib.hid (valF_isF hgd s)
    have HG := Lib.hid hgd
    have HMv := Lib.hid hmv
    have HGr := Lib.hid hgr
    obtain ⟨x, d, hpq⟩ : ∃ x d, valF h s = (x, d) := ⟨_, _, rfl⟩
    rw [hpq] at HIv
    have HAt := Lib.hid (fun W' (hW : Below W.heap.size W W') => by
      have h1 := at_c bs (n + pre.length) h s hsm W' (HMv.out.below hW hbsW)
      rw [hpq] at h1
      exact h1)
    have HStep := Lib.hid (shStep_ap a b h (s, num))
    rw [hpq] at HStep
    have HAp := Lib.hid (fun W => by
      have h1 := addProduct_c x d a b (num : Int) 1 HIv.out HIa.out HFn.out W
      rw [apR_turn, apR_apS] at h1
      exact h1)
    have hnum : (0 : Int) ≤ (num : Int) := by omega
    clear hsh hgd hmv hgr hx hpq k0 k1 k2 e0 e1
    gi_wp2
    refine wpIn_region_round (S := fun w' => (w'.cell? ⟨w.heap.size, 0, none⟩ = some (.map (some bs)) ∧ w'.cell? ⟨w.heap.size + 1, 0, none⟩ = some (.int .i64 a) ∧ w'.cell? ⟨w.heap.size + 1, 1, none⟩ = some (.int .i64 b))) hmx (by kernel_rfl) (fun ⟨_, _, h⟩ => h) hS0 (fun hHeld => ?_)
    refine wpAnyH_take (i := 0) (v := ?_) rfl (by kernel_rfl) (by kernel_rfl) (by kernel_rfl) (fun _ _ _ h => h) (Or.inl ⟨by rfl, ?_⟩) (by assumption) ?_
    rotate_left
    · (intro w0 hSw; obtain ⟨s0, s1, s2⟩ := hSw; go_simp; (try with_reducible rfl))
    (try simp only [Act.put, List.setIfInBounds_toArray, List.set_cons_zero, List.set_cons_succ, List.getElem_toArray, List.getElem_cons_zero, List.getElem_cons_succ])
    refine wpAnyH_take (i := 1) (v := ?_) rfl (by kernel_rfl) (by kernel_rfl) (by kernel_rfl) (fun _ _ _ h => h) (Or.inl ⟨by rfl, ?_⟩) (by assumption) ?_
    rotate_left
    · (intro w0 hSw; obtain ⟨s0, s1, s2⟩ := hSw; go_simp; (try with_reducible rfl))
    (try simp only [Act.put, List.setIfInBounds_toArray, List.set_cons_zero, List.set_cons_succ, List.getElem_toArray, List.getElem_cons_zero, List.getElem_cons_succ])
    refine wpAnyH_take (i := 2) (v := ?_) rfl (by kernel_rfl) (by kernel_rfl) (by kernel_rfl) (fun _ _ _ h => h) (Or.inl ⟨by rfl, ?_⟩) (by assumption) ?_
    rotate_left
    · (intro w0 hSw; obtain ⟨s0, s1, s2⟩ := hSw; go_simp; (try with_reducible rfl))
    (try simp only [Act.put, List.setIfInBounds_toArray, List.set_cons_zero, List.set_cons_succ, List.getElem_toArray, List.getElem_cons_zero, List.getElem_cons_succ])
    refine wpAnyH_take (i := 3) (v := ?_) rfl (by kernel_rfl) (by kernel_rfl) (by kernel_rfl) (fun _ _ _ h => h) (Or.inl ⟨by rfl, ?_⟩) (by assumption) ?_
    rotate_left
    · (intro w0 hSw; obtain ⟨s0, s1, s2⟩ := hSw; go_simp; (try with_reducible rfl))
    (try simp only [Act.put, List.setIfInBounds_toArray, List.set_cons_zero, List.set_cons_succ, List.getElem_toArray, List.getElem_cons_zero, List.getElem_cons_succ])
    refine wpAnyH_take (i := 5) (v := ?_) rfl (by kernel_rfl) (by kernel_rfl) (by kernel_rfl) (fun _ _ _ h => h) (Or.inl ⟨by rfl, ?_⟩) (by assumption) ?_
    rotate_left
    · (intro w0 hSw; obtain ⟨s0, s1, s2⟩ := hSw; go_simp; (try with_reducible rfl))
    (try simp only [Act.put, List.setIfInBounds_toArray, List.set_cons_zero, List.set_cons_succ, List.getElem_toArray, List.getElem_cons_zero, List.getElem_cons_succ])
    refine wpAnyH_take (i := 6) (v := ?_) rfl (by kernel_rfl) (by kernel_rfl) (by kernel_rfl) (fun _ _ _ h => h) (Or.inl ⟨by rfl, ?_⟩) (by assumption) ?_
    rotate_left
    · (intro w0 hSw; obtain ⟨s0, s1, s2⟩ := hSw; go_simp; (try with_reducible rfl))
    (try simp only [Act.put, List.setIfInBounds_toArray, List.set_cons_zero, List.set_cons_succ, List.getElem_toArray, List.getElem_cons_zero, List.getElem_cons_succ])
    refine wpAnyH_ready (rs := [4]) (by kernel_rfl) (by simp) ?_
    refine (AllReadyH.cons rfl (fun K hK => ?_) AllReadyH.nil)
    go_simp
    go_at_call 85
    refine (HAt.out _ (by first | exact Below.refl _ _ | exact (Below.refl _ _).drew)).mono ?_
    rintro e w5 ⟨rfl, hb5⟩
    have HB5 := Lib.hid (show Below W.heap.size W w5 from ⟨hb5.os, hb5.tape, hb5.output, hb5.size, hb5.block⟩)
    have hz5 := HB5.out.size
    have hS5 : (w5.cell? ⟨w.heap.size, 0, none⟩ = some (.map (some bs)) ∧ w5.cell? ⟨w.heap.size + 1, 0, none⟩ = some (.int .i64 a) ∧ w5.cell? ⟨w.heap.size + 1, 1, none⟩ = some (.int .i64 b)) := ⟨(HB5.out.cell (p := ⟨w.heap.size, 0, none⟩) (by show w.heap.size < _; omega)).trans hS0.1, (HB5.out.cell (p := ⟨w.heap.size + 1, 0, none⟩) (by show w.heap.size + 1 < _; omega)).trans hS0.2.1, (HB5.out.cell (p := ⟨w.heap.size + 1, 1, none⟩) (by show w.heap.size + 1 < _; omega)).trans hS0.2.2⟩
    clear hb5
    refine hK.out _ _ hS5 (fun hSl => ?_)
    clear hK K
    (try simp only [Act.put, List.setIfInBounds_toArray, List.set_cons_zero, List.set_cons_succ, List.getElem_toArray, List.getElem_cons_zero, List.getElem_cons_succ])
    refine wpAnyH_ready (rs := [7]) (by kernel_rfl) (by simp) ?_
    refine (AllReadyH.cons rfl (fun K hK => ?_) AllReadyH.nil)
    go_simp
    go_at_call 67
    refine (wholeFraction_c _ _).mono ?_
    rintro e w6 ⟨rfl, hb6⟩
    have HB6 := Lib.hid (HB5.out.trans (hb6.mono hz5))
    have hz6 := HB6.out.size
    have hS6 : (w6.cell? ⟨w.heap.size, 0, none⟩ = some (.map (some bs)) ∧ w6.cell? ⟨w.heap.size + 1, 0, none⟩ = some (.int .i64 a) ∧ w6.cell? ⟨w.heap.size + 1, 1, none⟩ = some (.int .i64 b)) := ⟨(HB6.out.cell (p := ⟨w.heap.size, 0, none⟩) (by show w.heap.size < _; omega)).trans hS0.1, (HB6.out.cell (p := ⟨w.heap.size + 1, 0, none⟩) (by show w.heap.size + 1 < _; omega)).trans hS0.2.1, (HB6.out.cell (p := ⟨w.heap.size + 1, 1, none⟩) (by show w.heap.size + 1 < _; omega)).trans hS0.2.2⟩
    clear hb6
    refine hK.out _ _ hS6 (fun hSl => ?_)
    clear hK K
    (try simp only [Act.put, List.setIfInBounds_toArray, List.set_cons_zero, List.set_cons_succ, List.getElem_toArray, List.getElem_cons_zero, List.getElem_cons_succ])
    refine wpAnyH_ready (rs := [8]) (by kernel_rfl) (by simp) ?_
    refine (AllReadyH.cons rfl (fun K hK => ?_) AllReadyH.nil)
    go_simp
    go_at_call 84
    cases hr : apS x d (num : Int) 1 a b with
    | none =>
      rw [hr] at HAp HStep
      simp only at HAp
      clear hr
      refine (HAp.out _).mono ?_
      rintro e w7 ⟨rfl, hb7⟩
      have HB7 := Lib.hid (HB6.out.trans (hb7.mono hz6))
      have hz7 := HB7.out.size
      have hS7 : (w7.cell? ⟨w.heap.size, 0, none⟩ = some (.map (some bs)) ∧ w7.cell? ⟨w.heap.size + 1, 0, none⟩ = some (.int .i64 a) ∧ w7.cell? ⟨w.heap.size + 1, 1, none⟩ = some (.int .i64 b)) := ⟨(HB7.out.cell (p := ⟨w.heap.size, 0, none⟩) (by show w.heap.size < _; omega)).trans hS0.1, (HB7.out.cell (p := ⟨w.heap.size + 1, 0, none⟩) (by show w.heap.size + 1 < _; omega)).trans hS0.2.1, (HB7.out.cell (p := ⟨w.heap.size + 1, 1, none⟩) (by show w.heap.size + 1 < _; omega)).trans hS0.2.2⟩
      clear hb7
      refine hK.out _ _ hS7 (fun hSl => ?_)
      clear hK K
      (try simp only [Act.put, List.setIfInBounds_toArray, List.set_cons_zero, List.set_cons_succ, List.getElem_toArray, List.getElem_cons_zero, List.getElem_cons_succ])
      refine wpAnyH_take (i := 9) (v := ?_) rfl (by kernel_rfl) (by kernel_rfl) (by kernel_rfl) (fun _ _ _ h => h) (Or.inl ⟨by rfl, ?_⟩) (by assumption) ?_
      rotate_left
      · (intro w0 hSw; obtain ⟨s0, s1, s2⟩ := hSw; go_simp; (try with_reducible rfl))
      (try simp only [Act.put, List.setIfInBounds_toArray, List.set_cons_zero, List.set_cons_succ, List.getElem_toArray, List.getElem_cons_zero, List.getElem_cons_succ])
      refine wpAnyH_take (i := 10) (v := ?_) rfl (by kernel_rfl) (by kernel_rfl) (by kernel_rfl) (fun _ _ _ h => h) (Or.inl ⟨by rfl, ?_⟩) (by assumption) ?_
      rotate_left
      · (intro w0 hSw; obtain ⟨s0, s1, s2⟩ := hSw; go_simp; (try with_reducible rfl))
      (try simp only [Act.put, List.setIfInBounds_toArray, List.set_cons_zero, List.set_cons_succ, List.getElem_toArray, List.getElem_cons_zero, List.getElem_cons_succ])
      refine wpAnyH_ready (rs := [11]) (by kernel_rfl) (by simp) ?_
      refine (AllReadyH.cons rfl (fun K hK => ?_) AllReadyH.nil)
      go_simp
      go_at_call 71
      refine (fitting_no 0 0 _).mono ?_
      rintro e w9 ⟨rfl, hb9⟩
      have hb9' : Below w7.heap.size w7 w9 := ⟨hb9.os, hb9.tape, hb9.output, hb9.size, hb9.block⟩
      have HB9 := Lib.hid (HB7.out.trans (hb9'.mono hz7))
      have HG9 := Lib.hid (gr_trans HGr.out (gr_below HB9.out))
      clear hb9 hb9'
      exact ⟨rfl, rfl, (show KeepsOthers W w9 from ⟨HB9.out.size, fun _ _ hk _ => (HB9.out.block _ (Array.getElem?_eq_some_iff.1 hk).1).trans hk⟩).from _, HSn.out.trans HStep.out, HG9.out⟩
    | some r =>
      obtain ⟨r1, r2⟩ := r
      rw [hr] at HAp HStep
      simp only at HAp
      have HIr := Lib.hid (show isF r1 r2 = true from apS_isF hr)
      clear hr
      refine (HAp.out _).mono ?_
      rintro e w7 ⟨rfl, hb7⟩
      have HB7 := Lib.hid (HB6.out.trans (hb7.mono hz6))
      have hz7 := HB7.out.size
      have hS7 : (w7.cell? ⟨w.heap.size, 0, none⟩ = some (.map (some bs)) ∧ w7.cell? ⟨w.heap.size + 1, 0, none⟩ = some (.int .i64 a) ∧ w7.cell? ⟨w.heap.size + 1, 1, none⟩ = some (.int .i64 b)) := ⟨(HB7.out.cell (p := ⟨w.heap.size, 0, none⟩) (by show w.heap.size < _; omega)).trans hS0.1, (HB7.out.cell (p := ⟨w.heap.size + 1, 0, none⟩) (by show w.heap.size + 1 < _; omega)).trans hS0.2.1, (HB7.out.cell (p := ⟨w.heap.size + 1, 1, none⟩) (by show w.heap.size + 1 < _; omega)).trans hS0.2.2⟩
      clear hb7
      refine hK.out _ _ hS7 (fun hSl => ?_)
      clear hK K
      (try simp only [Act.put, List.setIfInBounds_toArray, List.set_cons_zero, List.set_cons_succ, List.getElem_toArray, List.getElem_cons_zero, List.getElem_cons_succ])
      refine wpAnyH_take (i := 9) (v := ?_) rfl (by kernel_rfl) (by kernel_rfl) (by kernel_rfl) (fun _ _ _ h => h) (Or.inl ⟨by rfl, ?_⟩) (by assumption) ?_
      rotate_left
      · (intro w0 hSw; obtain ⟨s0, s1, s2⟩ := hSw; go_simp; (try with_reducible rfl))
      (try simp only [Act.put, List.setIfInBounds_toArray, List.set_cons_zero, List.set_cons_succ, List.getElem_toArray, List.getElem_cons_zero, List.getElem_cons_succ])
      refine wpAnyH_take (i := 10) (v := ?_) rfl (by kernel_rfl) (by kernel_rfl) (by kernel_rfl) (fun _ _ _ h => h) (Or.inl ⟨by rfl, ?_⟩) (by assumption) ?_
      rotate_left
      · (intro w0 hSw; obtain ⟨s0, s1, s2⟩ := hSw; go_simp; (try with_reducible rfl))
      (try simp only [Act.put, List.setIfInBounds_toArray, List.set_cons_zero, List.set_cons_succ, List.getElem_toArray, List.getElem_cons_zero, List.getElem_cons_succ])
      refine wpAnyH_ready (rs := [11]) (by kernel_rfl) (by simp) ?_
      refine (AllReadyH.cons rfl (fun K hK => ?_) AllReadyH.nil)
      go_simp
      go_at_call 71
      refine (fitting_ok r1 r2 _).mono ?_
      rintro e w9 ⟨rfl, hb9⟩
      have hb9' : Below w7.heap.size w7 w9 := ⟨hb9.os, hb9.tape, hb9.output, hb9.size, hb9.block⟩
      have HB9 := Lib.hid (HB7.out.trans (hb9'.mono hz7))
      have hz9 := HB9.out.size
      have hS9 : (w9.cell? ⟨w.heap.size, 0, none⟩ = some (.map (some bs)) ∧ w9.cell? ⟨w.heap.size + 1, 0, none⟩ = some (.int .i64 a) ∧ w9.cell? ⟨w.heap.size + 1, 1, none⟩ = some (.int .i64 b)) := ⟨(HB9.out.cell (p := ⟨w.heap.size, 0, none⟩) (by show w.heap.size < _; omega)).trans hS0.1, (HB9.out.cell (p := ⟨w.heap.size + 1, 0, none⟩) (by show w.heap.size + 1 < _; omega)).trans hS0.2.1, (HB9.out.cell (p := ⟨w.heap.size + 1, 1, none⟩) (by show w.heap.size + 1 < _; omega)).trans hS0.2.2⟩
      clear hb9 hb9'
      refine hK.out _ _ hS9 (fun hSl => ?_)
      clear hK K
      (try simp only [Act.put, List.setIfInBounds_toArray, List.set_cons_zero, List.set_cons_succ, List.getElem_toArray, List.getElem_cons_zero, List.getElem_cons_succ])
      refine wpAnyH_ready (rs := [12]) (by kernel_rfl) (by simp) ?_
      refine (AllReadyH.cons rfl (fun K hK => ?_) AllReadyH.nil)
      go_simp
      go_at_call 83
      refine (put_c bs (n + pre.length) h s r1 r2 HIr.out (by omega) hsm _ (HMv.out.below HB9.out hbsW)).mono ?_
      rintro e w10 ⟨rfl, hM10, hG10⟩
      have hz10 := hG10.size
      have hS10 : (w10.cell? ⟨w.heap.size, 0, none⟩ = some (.map (some bs)) ∧ w10.cell? ⟨w.heap.size + 1, 0, none⟩ = some (.int .i64 a) ∧ w10.cell? ⟨w.heap.size + 1, 1, none⟩ = some (.int .i64 b)) := ⟨(gr_cell (i := 0) hG10 (n := w.heap.size) (by omega) (by omega)).trans hS9.1, (gr_cell (i := 0) hG10 (n := w.heap.size + 1) (by omega) (by omega)).trans hS9.2.1, (gr_cell (i := 1) hG10 (n := w.heap.size + 1) (by omega) (by omega)).trans hS9.2.2⟩
      have HM10 := Lib.hid hM10
      have HG10 := Lib.hid (gr_trans (gr_below HB9.out) hG10)
      clear hM10 hG10
      refine hK.out _ _ hS10 (fun hSl => ?_)
      clear hK K
      (try simp only [Act.put, List.setIfInBounds_toArray, List.set_cons_zero, List.set_cons_succ, List.getElem_toArray, List.getElem_cons_zero, List.getElem_cons_succ])
      refine wpAnyH_done (by kernel_rfl) ?_ _
      gi_wp2
      exact ⟨keepsFrom_grown HG10.out (by omega), KwB.of_grown HG10.out hbs, setF h s (nzF (r1, r2)), HSn.out.trans HStep.out, HG.out.set_ HMem.out HIr.out, by rw [List.length_append]; exact HM10.out, gr_trans HGr.out HG10.out⟩
  case done =>
    rintro D2 zs W hD hzs ⟨h, hsh, hgd, hmv, hgr⟩ hK
    have hfull : shK a b (eachL v.data.toList u.data.toList (v.size + u.size) ByteArray.empty) f = some h := by rw [← hzs]; exact hsh
    have hlen : zs.length = (eachL v.data.toList u.data.toList (v.size + u.size) ByteArray.empty).length := by rw [← hzs, List.length_map]
    refine .inl ⟨rfl, ⟨by simp, .inl ⟨_, _, rfl, run_takeDeferred hK, ?_⟩⟩⟩
    refine ⟨.tuple #[], by simp [results, Tryz.results74, go_sem], ?_⟩
    rw [hfull, ← hlen]
    exact ⟨rfl, hmv.grown (grownBy_putObj' W D2 _) (fun e => by injection e with e; omega), grown_past (gr_trans (gr_below hb8) hgr) (grownBy_putObj' W D2 _) (fun r e => by injection e with e; omega) (Nat.le_refl w.heap.size)⟩
  case pan =>
    rintro D2 pre W hD hpre ⟨hsh, hgr⟩ hK
    have hfull := shK_stop hpre hsh
    refine .inr ⟨_, rfl, ⟨by simp, .inl ⟨_, _, rfl, run_takeDeferred hK, ?_⟩⟩⟩
    show AddPost _ _ _ _ _ _
    rw [hfull]
    exact ⟨rfl, grown_past (gr_trans (gr_below hb8) hgr) (grownBy_putObj' W D2 _) (fun r e => by injection e with e; omega) (Nat.le_refl w.heap.size)⟩
end Go.Proofs.YtdgkkcjjfpenpaaGreatDoor

namespace Go.Proofs.YtdgkkcjjfpenpaaGreatDoor
open Go.RowKit
open Go.WideAt Go.WideMaps Go.ChangeMaps Go.Maps
set_option linter.unusedVariables false

theorem shuffleOf_new (v w : ByteArray) (hv : v.size ≤ 8) (hw : w.size ≤ 8) (W : World) :
    Calls Tryz.prog 57 #[.string v, .string w] W fun e w' => ∃ bm p q, e = .returned (.func (.func 86) #[] #[.pointer (some ⟨p, 0, none⟩), .pointer (some ⟨q, 0, none⟩)]) ∧ Below W.heap.size W w' ∧ W.heap.size ≤ bm ∧
      MapP w' bm 1 (way0 v w) ∧ p < w'.heap.size ∧ q < w'.heap.size ∧ w'.cell? ⟨p, 0, none⟩ = some (.map (some bm)) ∧ w'.cell? ⟨q, 0, none⟩ = some (.string ⟨#[]⟩) := by
  have hmm := @run_makeMap Tryz.prog
  have hs0 : SmP (v, w) := ⟨show v.size ≤ maxLen by unfold maxLen; omega, show w.size ≤ maxLen by unfold maxLen; omega⟩
  go_enter Tryz.func57, Tryz.ntmps57
  go_wp2_with (first
    | (refine wpList_insP rfl _ _ _ rfl rfl (MapP.made _) (by decide) (v, w) rfl hs0 1 rfl ?_; intro w1 hM1 hg1)
    | (go_at_call 75; refine (wordsFrom_c _ _ _).mono ?_; rintro e w2 ⟨rfl, rfl⟩))
  go_ret
  have hB1 : Below W.heap.size W w1 := (below1 W _).trans (below_of_grown hg1 (fun g h => by cases h; omega) (by simp))
  refine ⟨_, _, _, rfl, hB1.trans ((below2 w1 _ _).mono hB1.size), ?_, (hM1.alloc _).alloc _, by simp; omega, by simp, ?_, ?_⟩
  · exact Nat.le_refl _
  · go_simp
  · go_simp
end Go.Proofs.YtdgkkcjjfpenpaaGreatDoor

namespace Go.Proofs.YtdgkkcjjfpenpaaGreatDoor
open Go.RowKit
set_option linter.unusedVariables false

/-- a call that panics at the end of a region that draws its order -/
theorem add_dead {f : FuncId} {args : Array Value} {w : World} {b n : Nat} {R : Ending → World → Prop} (h : Calls Tryz.prog f args w (AddPost none b n w)) (hp : ∀ w', w.grownBy w' (some b) → R (.panicked [misP 3]) w') (_h : Hid False → R (.returned (.tuple #[])) w) : Calls Tryz.prog f args w R := by
  refine h.mono ?_
  rintro e w' ⟨rfl, hb⟩
  exact hp w' hb
set_option maxRecDepth 100000 in
set_option maxHeartbeats 8000000 in
theorem sumWork_c (D N : Nat) (hD : D ≤ 3) (hN : N ≤ 5) (xs ys : List Tm) (hx : serB (D : Int) (N : Int) xs = true) (hy : serB (D : Int) (N : Int) ys = true) (hlx : xs.length ≤ 1048576) (hly : ys.length ≤ 1048576) (a1 a2 : Option Addr) (k1 k2 : Nat) (px py ps : Nat) (w : World)
    (qx : px < w.heap.size) (qy : py < w.heap.size) (qs : ps < w.heap.size)
    (x1 : w.cell? ⟨px, 1, none⟩ = some (.int .i64 N)) (x2 : w.cell? ⟨px, 2, none⟩ = some (.slice a1 xs.length k1)) (y2 : w.cell? ⟨py, 2, none⟩ = some (.slice a2 ys.length k2)) (f0 : w.cell? ⟨ps, 0, none⟩ = some (.func (.func 57) #[] #[]))
    (tx : Row w a1 xs) (ty : Row w a2 ys) :
    Calls Tryz.prog 70 #[.pointer (some ⟨px, 0, none⟩), .pointer (some ⟨py, 0, none⟩), .pointer (some ⟨ps, 0, none⟩)] w (WorkPost (shAll D N ys xs (fun _ => none)) w) := by
  have hmm := @run_makeMap Tryz.prog
  have HFx := Lib.hid (ser_fr hx)
  have HFy := Lib.hid (ser_fr hy)
  have HWx := Lib.hid (ser_wordB hx)
  have HWy := Lib.hid (ser_wordB hy)
  have hbud := bud_few hD hN (ser_nodup hx) (ser_nodup hy) (ser_allW hD hx) (ser_allW hD hy)
  obtain ⟨o, ho⟩ : ∃ o, shAll D N ys xs (fun _ => none) = o := ⟨_, rfl⟩
  rw [ho]
  obtain ⟨w1, hw1⟩ : ∃ w1, w.alloc (.map #[] 0) = w1 := ⟨_, rfl⟩
  have hb1 : Below w.heap.size w w1 := by rw [← hw1]; exact below1 w _
  have hz1 : w1.heap.size = w.heap.size + 1 := by rw [← hw1]; simp
  have HM1 : Hid (MapV w1 w.heap.size 0 (fun _ => none)) := Lib.hid (by rw [← hw1]; exact MapV.made w)
  have HB1 := Lib.hid hb1
  have HC := Lib.hid (show ∀ wr, w1.grownBy wr (some w.heap.size) → wr.cell? ⟨px, 1, none⟩ = some (.int .i64 N) ∧ wr.cell? ⟨px, 2, none⟩ = some (.slice a1 xs.length k1) ∧ wr.cell? ⟨py, 2, none⟩ = some (.slice a2 ys.length k2) ∧ wr.cell? ⟨ps, 0, none⟩ = some (.func (.func 57) #[] #[]) from fun wr hg =>
    ⟨(gr_cell hg (by omega) (by omega)).trans ((hb1.cell (p := ⟨px, 1, none⟩) qx).trans x1), (gr_cell hg (by omega) (by omega)).trans ((hb1.cell (p := ⟨px, 2, none⟩) qx).trans x2), (gr_cell hg (by omega) (by omega)).trans ((hb1.cell (p := ⟨py, 2, none⟩) qy).trans y2), (gr_cell hg (by omega) (by omega)).trans ((hb1.cell (p := ⟨ps, 0, none⟩) qs).trans f0)⟩)
  have HTx := Lib.hid (show ∀ wr, w1.grownBy wr (some w.heap.size) → ∀ i (h : i < xs.length), ∃ b off, a1 = some ⟨b, off, none⟩ ∧ b < w.heap.size ∧ wr.cell? ⟨b, off + i * 3, none⟩ = some (.string (xs[i]).s) ∧ wr.cell? ⟨b, off + i * 3 + 1, none⟩ = some (.int .i64 (xs[i]).n) ∧ wr.cell? ⟨b, off + i * 3 + 2, none⟩ = some (.int .i64 (xs[i]).d) from fun wr hg i hi => by
    rcases tx with h | ⟨b, off, h1, h2, h3⟩
    · rw [h] at hi; simp at hi
    · obtain ⟨c0, c1, c2⟩ := h3 i hi
      exact ⟨b, off, h1, h2, (gr_cell hg (by omega) (by omega)).trans ((hb1.cell (p := ⟨b, _, none⟩) h2).trans c0), (gr_cell hg (by omega) (by omega)).trans ((hb1.cell (p := ⟨b, _, none⟩) h2).trans c1), (gr_cell hg (by omega) (by omega)).trans ((hb1.cell (p := ⟨b, _, none⟩) h2).trans c2)⟩)
  have HTy := Lib.hid (show ∀ wr, w1.grownBy wr (some w.heap.size) → ∀ i (h : i < ys.length), ∃ b off, a2 = some ⟨b, off, none⟩ ∧ b < w.heap.size ∧ wr.cell? ⟨b, off + i * 3, none⟩ = some (.string (ys[i]).s) ∧ wr.cell? ⟨b, off + i * 3 + 1, none⟩ = some (.int .i64 (ys[i]).n) ∧ wr.cell? ⟨b, off + i * 3 + 2, none⟩ = some (.int .i64 (ys[i]).d) from fun wr hg i hi => by
    rcases ty with h | ⟨b, off, h1, h2, h3⟩
    · rw [h] at hi; simp at hi
    · obtain ⟨c0, c1, c2⟩ := h3 i hi
      exact ⟨b, off, h1, h2, (gr_cell hg (by omega) (by omega)).trans ((hb1.cell (p := ⟨b, _, none⟩) h2).trans c0), (gr_cell hg (by omega) (by omega)).trans ((hb1.cell (p := ⟨b, _, none⟩) h2).trans c1), (gr_cell hg (by omega) (by omega)).trans ((hb1.cell (p := ⟨b, _, none⟩) h2).trans c2)⟩)
  have HO := Lib.hid (show shAll D N ys (xs.drop 0) (fun _ => none) = o from ho)
  have hbud0 : 0 + bud N ys (xs.drop 0) ≤ 900000 := by rw [List.drop_zero]; omega
  have HBu := Lib.hid hbud0
  have g1 : w1.grownBy w1 (some w.heap.size) := ⟨rfl, rfl, rfl, Nat.le_refl _, fun _ _ _ => rfl⟩
  obtain ⟨i1, i2, i3, i4⟩ := HC.out w1 g1
  have HG1 := Lib.hid g1
  clear hx hy ho hb1 hbud hbud0 x1 x2 y2 f0 tx ty g1
  go_enter Tryz.func70, Tryz.ntmps70
  go_wp2_with fail
  try rw [hw1]
  clear hw1
  go_loopw [14] (fun v14 wr => ∃ (i : Nat) (h : VF) (n : Nat), i ≤ xs.length ∧ v14 = .int .i64 i ∧ shAll D N ys (xs.drop i) h = o ∧ GoodV (allW D N) h ∧ MapV wr w.heap.size n h ∧ n + bud N ys (xs.drop i) ≤ 900000 ∧ w1.grownBy wr (some w.heap.size)) (fun v14 _ => xs.length - (intOf v14).toNat)
  case atStart => exact ⟨0, _, 0, Nat.zero_le _, rfl, HO.out, GoodV.none _, HM1.out, HBu.out, HG1.out⟩
  case round =>
    obtain ⟨i, h, n, hi, rfl, hO, hG, hM, hn, hg⟩ := hrel
    obtain ⟨wo, rfl⟩ : ∃ wo : World, wo = wr := ⟨_, rfl⟩
    have hz := hg.size
    obtain ⟨i1, i2, i3, i4⟩ := HC.out wo hg
    have HO := Lib.hid hO
    have HG := Lib.hid hG
    have HM := Lib.hid hM
    have HN := Lib.hid hn
    have HGr := Lib.hid hg
    clear hO hG hM hn
    by_cases hlt : i < xs.length
    · obtain ⟨bx, ox, rfl, hbx, c0, c1, c2⟩ := HTx.out wo hg i hlt
      have HFs := Lib.hid (HFx.out _ (List.getElem_mem hlt))
      have HWs := Lib.hid (HWx.out _ (List.getElem_mem hlt))
      have HNx := Lib.hid (shAll_next (D := D) (N := N) (ys := ys) hlt h)
      have HBn := Lib.hid (bud_next (N := N) (ys := ys) hlt)
      obtain ⟨s, hs⟩ : ∃ s, xs[i] = s := ⟨_, rfl⟩
      rw [hs] at c0 c1 c2 HFs HWs HNx HBn
      obtain ⟨ss, x, d⟩ := s
      simp only at c0 c1 c2
      have hltI : (i : Int) < (xs.length : Int) := by omega
      have hi0 : (0 : Int) ≤ (i : Int) := by omega
      have hk1 : IntKind.i64.wrap ((i : Int) + 1) = (i : Int) + 1 := IntWalk.i64_in _ (by omega)
      obtain ⟨wA, hwA⟩ : ∃ wA, wo.alloc (.cells #[.string ss, .int .i64 x, .int .i64 d] 46) = wA := ⟨_, rfl⟩
      have HA0 : Hid (wA.cell? ⟨wo.heap.size, 0, none⟩ = some (.string ss)) := Lib.hid (by subst hwA; go_simp)
      have HA1 : Hid (wA.cell? ⟨wo.heap.size, 1, none⟩ = some (.int .i64 x)) := Lib.hid (by subst hwA; go_simp)
      have HA2 : Hid (wA.cell? ⟨wo.heap.size, 2, none⟩ = some (.int .i64 d)) := Lib.hid (by subst hwA; go_simp)
      have hzA : wA.heap.size = wo.heap.size + 1 := by rw [← hwA]; simp
      have HBA : Hid (Below wo.heap.size wo wA) := Lib.hid (by rw [← hwA]; exact below1 wo _)
      have HGA := Lib.hid (gr_trans hg (gr_below HBA.out))
      have HJ0 := Lib.hid (show (shRow D N ⟨ss, x, d⟩ (ys.drop 0) h).bind (shAll D N ys (xs.drop (i + 1))) = o by rw [← HNx.out]; exact HO.out)
      have HB0 := Lib.hid (show n + budR N ⟨ss, x, d⟩ (ys.drop 0) + bud N ys (xs.drop (i + 1)) ≤ 900000 by rw [List.drop_zero]; have h1 := HN.out; rw [HBn.out] at h1; omega)
      have k3 : wA.cell? ⟨py, 2, none⟩ = some (.slice a2 ys.length k2) := (HC.out wA HGA.out).2.2.1
      clear hs hg
      go_wp2_with fail
      go_loopw [21] (fun v21 wq => ∃ (j : Nat) (h' : VF) (m : Nat), j ≤ ys.length ∧ v21 = .int .i64 j ∧ (shRow D N ⟨ss, x, d⟩ (ys.drop j) h').bind (shAll D N ys (xs.drop (i + 1))) = o ∧ GoodV (allW D N) h' ∧ MapV wq w.heap.size m h' ∧ m + budR N ⟨ss, x, d⟩ (ys.drop j) + bud N ys (xs.drop (i + 1)) ≤ 900000 ∧ wA.grownBy wq (some w.heap.size)) (fun v21 _ => ys.length - (intOf v21).toNat)
      case atStart => exact ⟨0, h, n, Nat.zero_le _, rfl, HJ0.out, HG.out, by (try rw [hwA]); exact HM.out.below HBA.out HM.out.lt, HB0.out, by (try rw [hwA]); exact ⟨rfl, rfl, rfl, Nat.le_refl _, fun _ _ _ => rfl⟩⟩
      case round =>
        obtain ⟨j, h', m, hj, rfl, hO', hG', hM', hn', hq⟩ := hrel
        obtain ⟨wq, rfl⟩ : ∃ wq : World, wq = wr := ⟨_, rfl⟩
        have hzq := hq.size
        have hg' := gr_trans HGA.out hq
        obtain ⟨i1, i2, i3, i4⟩ := HC.out wq hg'
        have b0 := (gr_cell (i := 0) hq (by omega) (by omega)).trans HA0.out
        have b1 := (gr_cell (i := 1) hq (by omega) (by omega)).trans HA1.out
        have b2 := (gr_cell (i := 2) hq (by omega) (by omega)).trans HA2.out
        have HO := Lib.hid hO'
        have HG := Lib.hid hG'
        have HM := Lib.hid hM'
        have HN := Lib.hid hn'
        have HQ := Lib.hid hq
        have HGr := Lib.hid hg'
        have hmb := hM'.lt
        clear hO' hG' hM' hn' hq
        by_cases hlj : j < ys.length
        · obtain ⟨by_, oy, rfl, hby, c0, c1, c2⟩ := HTy.out wq hg' j hlj
          have HFt := Lib.hid (HFy.out _ (List.getElem_mem hlj))
          have HWt := Lib.hid (HWy.out _ (List.getElem_mem hlj))
          have HNr := Lib.hid (shRow_next (D := D) (N := N) (s := ⟨ss, x, d⟩) hlj h')
          have HBr := Lib.hid (budR_next (N := N) (s := ⟨ss, x, d⟩) hlj)
          obtain ⟨t, ht⟩ : ∃ t, ys[j] = t := ⟨_, rfl⟩
          rw [ht] at c0 c1 c2 HFt HWt HNr HBr
          obtain ⟨ts, y, e⟩ := t
          simp only at c0 c1 c2
          have hjI : (j : Int) < (ys.length : Int) := by omega
          have hj0 : (0 : Int) ≤ (j : Int) := by omega
          have hj1 : IntKind.i64.wrap ((j : Int) + 1) = (j : Int) + 1 := IntWalk.i64_in _ (by omega)
          have HMul := Lib.hid (fun W => by
            have h1 := iMul_c x d y e W
            rw [mulR_y HFs.out HFt.out] at h1
            exact h1)
          obtain ⟨wB, hwB⟩ : ∃ wB, wq.alloc (.cells #[.string ts, .int .i64 y, .int .i64 e] 46) = wB := ⟨_, rfl⟩
          have HBB : Hid (Below wq.heap.size wq wB) := Lib.hid (by rw [← hwB]; exact below1 wq _)
          have hzB : wB.heap.size = wq.heap.size + 1 := by rw [← hwB]; simp
          have d0 : wB.cell? ⟨wq.heap.size, 0, none⟩ = some (.string ts) := by subst hwB; go_simp
          have d1 : wB.cell? ⟨wq.heap.size, 1, none⟩ = some (.int .i64 y) := by subst hwB; go_simp
          have d2 : wB.cell? ⟨wq.heap.size, 2, none⟩ = some (.int .i64 e) := by subst hwB; go_simp
          have e0 := (HBB.out.cell (p := ⟨wo.heap.size, 0, none⟩) (by show wo.heap.size < _; omega)).trans b0
          have e1 := (HBB.out.cell (p := ⟨wo.heap.size, 1, none⟩) (by show wo.heap.size < _; omega)).trans b1
          have e2 := (HBB.out.cell (p := ⟨wo.heap.size, 2, none⟩) (by show wo.heap.size < _; omega)).trans b2
          have HGB := Lib.hid (gr_trans HQ.out (gr_below HBB.out) : wA.grownBy wB (some w.heap.size))
          clear ht hg' b0 b1 b2
          cases hok : fOk (x * y) (d * e) with
          | false =>
            have HE := Lib.hid (show none = o by rw [← HO.out, HNr.out, shPair_no (s := ⟨ss, x, d⟩) (t := ⟨ts, y, e⟩) hok]; rfl)
            unfold q3 at HMul
            rw [(low_no hok).1, (low_no hok).2.1, (low_no hok).2.2] at HMul
            have HBw := Lib.hid (HB1.out.trans (below_of_grown (B := w.heap.size) HGr.out (fun g e => by cases e; exact Nat.le_refl _) (by omega)))
            clear hok
            go_wp2_with fail
            refine (HMul.out _).mono ?_
            rintro e5 w5 ⟨rfl, hb5⟩
            go_wp2_with fail
            refine (fitting_no 0 0 _).mono ?_
            rintro e6 w6 ⟨rfl, hb6⟩
            have hE := HE.out
            subst hE
            have hB5 := hb5.size
            exact ⟨rfl, rfl, HBw.out.trans (((HBB.out.trans (hb5.mono (by omega))).trans (hb6.mono (by omega))).mono HBw.out.size)⟩
          | true =>
            unfold q3 at HMul
            rw [(low_yes hok).2.2] at HMul
            have HFp := Lib.hid (fOk_isFp hok)
            have HOk := Lib.hid hok
            obtain ⟨X, hX⟩ : ∃ X, fN (x * y) (d * e) = X := ⟨_, rfl⟩
            obtain ⟨Y, hY⟩ : ∃ Y, fD (x * y) (d * e) = Y := ⟨_, rfl⟩
            rw [hX, hY] at HMul HFp
            have HX := Lib.hid hX
            have HY := Lib.hid hY
            clear hok hX hY
            go_wp2_with fail
            refine (HMul.out _).mono ?_
            rintro e5 w5 ⟨rfl, hb5⟩
            have HB5 := Lib.hid hb5
            have hz5 := hb5.size
            clear hb5
            go_wp2_with fail
            refine (fitting_ok X Y _).mono ?_
            rintro e6 w6 ⟨rfl, hb6⟩
            have hz6 := hb6.size
            obtain ⟨w7, hw7⟩ : ∃ w7, w6.alloc (.cells #[.int .i64 X, .int .i64 Y] 44) = w7 := ⟨_, rfl⟩
            have HB7 : Hid (Below wB.heap.size wB w7) := Lib.hid (by rw [← hw7]; exact (HB5.out.trans (hb6.mono hz5)).trans ((below1 w6 _).mono (by omega)))
            have hz7 : w7.heap.size = w6.heap.size + 1 := by rw [← hw7]; simp
            have z0 : w7.cell? ⟨w6.heap.size, 0, none⟩ = some (.int .i64 X) := by subst hw7; go_simp
            have z1 : w7.cell? ⟨w6.heap.size, 1, none⟩ = some (.int .i64 Y) := by subst hw7; go_simp
            have u0 := (HB7.out.cell (p := ⟨wo.heap.size, 0, none⟩) (by show wo.heap.size < _; omega)).trans e0
            have v0 := (HB7.out.cell (p := ⟨wq.heap.size, 0, none⟩) (by show wq.heap.size < _; omega)).trans d0
            have HG7 := Lib.hid (gr_trans HGB.out (gr_below HB7.out) : wA.grownBy w7 (some w.heap.size))
            have HM7 := Lib.hid (HM.out.below (HBB.out.trans (HB7.out.mono (by omega))) hmb)
            obtain ⟨i1, i2, i3, i4⟩ := HC.out w7 (gr_trans HGA.out HG7.out)
            have hss := HWs.out.2
            have hts := HWt.out.2
            try simp only at hss hts
            have HAw := Lib.hid (fun W => areIn_c (N : Int) ss ts (by omega) (by omega) W)
            clear hb6 c0 c1 c2 d0 d1 d2 e0 e1 e2
            by_cases hfit : ss.size + ts.size ≤ N
            · rw [show decide ((ss.size : Int) + (ts.size : Int) ≤ (N : Int)) = true from decide_eq_true (by omega)] at HAw
              have HE := Lib.hid (show ((shK X Y (eachL ss.data.toList ts.data.toList (ss.size + ts.size) ByteArray.empty) h').bind (shRow D N ⟨ss, x, d⟩ (ys.drop (j + 1)))).bind (shAll D N ys (xs.drop (i + 1))) = o by
                rw [← HO.out, HNr.out, shPair_in (s := ⟨ss, x, d⟩) (t := ⟨ts, y, e⟩) HOk.out hfit, HX.out, HY.out])
              have hbb : m + 243 + budR N ⟨ss, x, d⟩ (ys.drop (j + 1)) + bud N ys (xs.drop (i + 1)) ≤ 900000 := by
                have h1 := HN.out
                rw [HBr.out] at h1
                simp only [fit1, if_pos hfit] at h1
                omega
              have HEg := Lib.hid (each_good hD hN HWs.out.1 HWt.out.1 hfit)
              go_wp2_with fail
              refine (HAw.out _).mono ?_
              rintro e8 w8 ⟨rfl, hw8⟩
              have hw8 := hw8.symm
              subst hw8
              obtain ⟨F1, hfew⟩ := HEg.out
              have hsum : ss.size + ts.size ≤ 5 := by omega
              have hm9 : m ≤ 900000 := by omega
              have hwl : w.heap.size < w7.heap.size := by omega
              have HAd := Lib.hid (fun bm p q W (hW : Below w7.heap.size w7 W) hbm hMp hp hq c0 c1 => addShuffle_c (allW D N) (fun t ht => by have := allW_len ht; omega) ss ts hsum F1 (by omega) w.heap.size m hm9 h' HG.out X Y HFp.out bm p q w7.heap.size hwl hbm W hW.size (HM7.out.below hW hwl) hMp hp hq c0 c1)
              have HSh := Lib.hid (fun W => shuffleOf_new ss ts (by omega) (by omega) W)
              have KG := Lib.hid (show ∀ w', w7.grownBy w' (some w.heap.size) → (w'.cell? ⟨w6.heap.size, 0, none⟩ = some (.int .i64 X) ∧ w'.cell? ⟨w6.heap.size, 1, none⟩ = some (.int .i64 Y) ∧ w'.cell? ⟨ps, 0, none⟩ = some (.func (.func 57) #[] #[]) ∧ w'.cell? ⟨wo.heap.size, 0, none⟩ = some (.string ss) ∧ w'.cell? ⟨wq.heap.size, 0, none⟩ = some (.string ts)) from fun w' hg => ⟨(gr_cell hg (by omega) (by omega)).trans z0, (gr_cell hg (by omega) (by omega)).trans z1, (gr_cell hg (by omega) (by omega)).trans i4, (gr_cell hg (by omega) (by omega)).trans u0, (gr_cell hg (by omega) (by omega)).trans v0⟩)
              cases hk : shK X Y (eachL ss.data.toList ts.data.toList (ss.size + ts.size) ByteArray.empty) h' with
              | none =>
                rw [hk] at HAd HE
                have hE := HE.out
                simp only [Option.bind_none] at hE
                subst hE
                have HBw := Lib.hid (fun w' (hg : w7.grownBy w' (some w.heap.size)) => (HB1.out.trans (below_of_grown (B := w.heap.size) (gr_trans (gr_trans HGA.out HG7.out) hg) (fun g e => by cases e; exact Nat.le_refl _) (by omega)) : Below w.heap.size w w'))
                clear hk
                go_upto_region 10 with fail
                go_region_held2 (fun w' => w'.cell? ⟨w6.heap.size, 0, none⟩ = some (.int .i64 X) ∧ w'.cell? ⟨w6.heap.size, 1, none⟩ = some (.int .i64 Y) ∧ w'.cell? ⟨ps, 0, none⟩ = some (.func (.func 57) #[] #[]) ∧ w'.cell? ⟨wo.heap.size, 0, none⟩ = some (.string ss) ∧ w'.cell? ⟨wq.heap.size, 0, none⟩ = some (.string ts))
                  ((refine KG.out _ ?_; first | with_reducible assumption | (refine gr_below ?_; repeat' (first | with_reducible assumption | with_reducible exact Below.refl _ _ | (with_reducible refine Below.drew ?_) | (with_reducible refine Below.setCell ?_ (by (try dsimp only); omega) _) | (with_reducible refine Below.alloc ?_ (by (try simp only [World.size_setCell]); (try simp only [World.size_drew]); (try simp only [World.size_alloc]); (try simp only [World.size_setCell]); (try simp only [World.size_alloc]); omega) _)))))
                  (first
                    | (go_at_call 57; (with_reducible refine (HSh.out _).mono ?_); rintro e9 w9 ⟨bm, p, q, rfl, hb0, hbm, hMp, hp, hq9, c0, c1⟩; have hbw9 : Below w7.heap.size w7 w9 := below_step (by repeat' (first | with_reducible assumption | with_reducible exact Below.refl _ _ | (with_reducible refine Below.drew ?_) | (with_reducible refine Below.setCell ?_ (by (try dsimp only); omega) _) | (with_reducible refine Below.alloc ?_ (by (try simp only [World.size_setCell]); (try simp only [World.size_drew]); (try simp only [World.size_alloc]); (try simp only [World.size_setCell]); (try simp only [World.size_alloc]); omega) _))) hb0 (Nat.le_refl _); have hg9 : w7.grownBy w9 (some w.heap.size) := gr_below hbw9)
                    | (go_at_call 74; have hqq := HAd.out bm p q _ hbw9 hbm hMp hp hq9 c0 c1; refine add_dead hqq ?_ ?_; (intro w10 hg10; exact ⟨rfl, rfl, HBw.out _ (gr_trans hg9 hg10)⟩); intro hF)
                    | fail)
                all_goals exact hF.out.elim
              | some h2 =>
                rw [hk] at HAd HE
                have HE2 := Lib.hid (show (shRow D N ⟨ss, x, d⟩ (ys.drop (j + 1)) h2).bind (shAll D N ys (xs.drop (i + 1))) = o from HE.out)
                have HG2 := Lib.hid (HG.out.shK (fun x hx => (F1 x hx).1) hk)
                clear hk
                go_upto_region 10 with fail
                go_region_held3 (fun w' => w'.cell? ⟨w6.heap.size, 0, none⟩ = some (.int .i64 X) ∧ w'.cell? ⟨w6.heap.size, 1, none⟩ = some (.int .i64 Y) ∧ w'.cell? ⟨ps, 0, none⟩ = some (.func (.func 57) #[] #[]) ∧ w'.cell? ⟨wo.heap.size, 0, none⟩ = some (.string ss) ∧ w'.cell? ⟨wq.heap.size, 0, none⟩ = some (.string ts))
                  ((refine KG.out _ ?_; first | with_reducible assumption | (refine gr_below ?_; repeat' (first | with_reducible assumption | with_reducible exact Below.refl _ _ | (with_reducible refine Below.drew ?_) | (with_reducible refine Below.setCell ?_ (by (try dsimp only); omega) _) | (with_reducible refine Below.alloc ?_ (by (try simp only [World.size_setCell]); (try simp only [World.size_drew]); (try simp only [World.size_alloc]); (try simp only [World.size_setCell]); (try simp only [World.size_alloc]); omega) _)))))
                  (first
                    | (go_at_call 57; (with_reducible refine (HSh.out _).mono ?_); rintro e9 w9 ⟨bm, p, q, rfl, hb0, hbm, hMp, hp, hq9, c0, c1⟩; have hbw9 : Below w7.heap.size w7 w9 := below_step (by repeat' (first | with_reducible assumption | with_reducible exact Below.refl _ _ | (with_reducible refine Below.drew ?_) | (with_reducible refine Below.setCell ?_ (by (try dsimp only); omega) _) | (with_reducible refine Below.alloc ?_ (by (try simp only [World.size_setCell]); (try simp only [World.size_drew]); (try simp only [World.size_alloc]); (try simp only [World.size_setCell]); (try simp only [World.size_alloc]); omega) _))) hb0 (Nat.le_refl _); have hg9 : w7.grownBy w9 (some w.heap.size) := gr_below hbw9)
                    | (go_at_call 74; refine (HAd.out bm p q _ hbw9 (by first | exact hbm | (have := hbw9.size; omega)) hMp hp hq9 c0 c1).mono ?_; rintro e10 w10 ⟨rfl, hM10, hg10⟩; have hg7 : w7.grownBy w10 (some w.heap.size) := gr_trans hg9 hg10)
                    | fail)
                all_goals
                  have HM10 := Lib.hid hM10
                  have HG10 := Lib.hid (gr_trans HG7.out hg7)
                  clear hM10 hg10 hg7
                  go_wp2
                  go_roundw
                  case rel => exact ⟨j + 1, h2, _, by omega, by go_num, HE2.out, HG2.out, HM10.out, by omega, HG10.out⟩
                  case measure => simp [intOf]; omega
            · rw [show decide ((ss.size : Int) + (ts.size : Int) ≤ (N : Int)) = false from decide_eq_false (by omega)] at HAw
              have HE := Lib.hid (show (shRow D N ⟨ss, x, d⟩ (ys.drop (j + 1)) h').bind (shAll D N ys (xs.drop (i + 1))) = o by
                rw [← HO.out, HNr.out, shPair_far (s := ⟨ss, x, d⟩) (t := ⟨ts, y, e⟩) HOk.out hfit]; rfl)
              have HBu := Lib.hid (show m + budR N ⟨ss, x, d⟩ (ys.drop (j + 1)) + bud N ys (xs.drop (i + 1)) ≤ 900000 by
                have h1 := HN.out
                rw [HBr.out] at h1
                omega)
              go_wp2_with fail
              refine (HAw.out _).mono ?_
              rintro e8 w8 ⟨rfl, hw8⟩
              have hw8 := hw8.symm
              subst hw8
              go_wp2
              go_roundw
              case rel => exact ⟨j + 1, h', m, by omega, by go_num, HE.out, HG.out, HM7.out, HBu.out, HG7.out⟩
              case measure => simp [intOf]; omega
        · obtain rfl : j = ys.length := by omega
          have HE := Lib.hid (show shAll D N ys (xs.drop (i + 1)) h' = o by have h1 := HO.out; rw [shRow_end (Nat.le_refl _)] at h1; exact h1)
          have HBu := Lib.hid (show m + bud N ys (xs.drop (i + 1)) ≤ 900000 by have := HN.out; omega)
          clear hg'
          go_wp2
          go_roundw
          case rel => exact ⟨i + 1, h', m, by omega, by go_num, HE.out, HG.out, HM.out, HBu.out, HGr.out⟩
          case measure => simp [intOf]; omega
    · obtain rfl : i = xs.length := by omega
      have HE := Lib.hid (show some h = o by have h1 := HO.out; rw [shAll_end (Nat.le_refl _)] at h1; exact h1)
      have HN' := Lib.hid (show n ≤ 1048576 by have := HN.out; omega)
      have HBw := Lib.hid (HB1.out.trans (below_of_grown (B := w.heap.size) hg (fun g e => by cases e; exact Nat.le_refl _) (by omega)))
      clear hg
      go_wp2
      go_ret
      rw [← HE.out]
      exact ⟨w.heap.size, n, rfl, Nat.le_refl _, HBw.out, HN'.out, HM.out⟩
end Go.Proofs.YtdgkkcjjfpenpaaGreatDoor

namespace Go.Proofs.YtdgkkcjjfpenpaaGreatDoor
open Go.RowKit
set_option linter.unusedVariables false

/-- what a function comes to that returns a series, if all fits, and a code -/
def ShsPost (L V : Int) (r : Option (List Tm)) (W : World) (e : Ending) (w' : World) : Prop := match r with | none => SerPost 0 0 [] 3 W e w' | some ts => SerPost L V ts 0 W e w'
set_option maxRecDepth 100000 in
set_option maxHeartbeats 4000000 in
theorem sums_c (D N : Nat) (hD : 1 ≤ D ∧ D ≤ 3) (hN : N ≤ 5) (a1 a2 : Option Addr) (k1 k2 : Nat) (xs ys : List Tm) (hx : serB (D : Int) (N : Int) xs = true) (hy : serB (D : Int) (N : Int) ys = true) (hlx : xs.length ≤ 1048576) (hly : ys.length ≤ 1048576) (w : World) (t1 : Row w a1 xs) (t2 : Row w a2 ys) :
    Calls Tryz.prog 56 #[.agg #[.int .i64 D, .int .i64 N, .slice a1 xs.length k1], .agg #[.int .i64 D, .int .i64 N, .slice a2 ys.length k2], .func (.func 57) #[] #[]] w (ShsPost D N ((shAll D N ys xs (fun _ => none)).map fun h => termsOf h (allW D N)) w) := by
  have hmf : ∀ (fn : Fn) (first cap : Array Value) (w : World), (Instr.makeFunc fn first cap).run Tryz.prog w = .ok (.func fn first cap) w := fun _ _ _ _ => rfl
  have HT1 := Lib.hid t1
  have HT2 := Lib.hid t2
  have HX := Lib.hid hx
  have HY := Lib.hid hy
  have hfew := allW_few (D := D) (by omega) (n := N) (by omega)
  have HWl := Lib.hid (show (allW D N).length ≤ 1048576 by omega)
  have HWs := Lib.hid (show ∀ s ∈ allW D N, s.size ≤ 1048576 from fun s hs => by have := allW_size D N s hs; omega)
  obtain ⟨o, ho⟩ : ∃ o, shAll D N ys xs (fun _ => none) = o := ⟨_, rfl⟩
  have HV := Lib.hid ho
  rw [ho]
  clear t1 t2 hx hy ho
  go_enter Tryz.func56, Tryz.ntmps56
  go_wp2_with fail
  refine (spaceOf_c D N (by omega) (by omega) _).mono ?_
  rintro e w2 ⟨aS, cS, rfl, hb2, hN2⟩
  obtain ⟨w4, hw4⟩ : ∃ w4, ((((w.alloc (.cells #[.int .i64 D, .int .i64 N, .slice a1 xs.length k1] 24)).alloc (.cells #[.int .i64 D, .int .i64 N, .slice a2 ys.length k2] 24)).alloc (.cells #[.func (.func 57) #[] #[]] 99)).alloc (.cells #[.int .i64 0, .int .i64 0, .slice none 0 0] 24)) = w4 := ⟨_, rfl⟩
  have hb2' : Below (w.heap.size + 1 + 1 + 1 + 1) w4 w2 := by rw [← hw4]; simpa using hb2
  have HW4 := Lib.hid (show Below w.heap.size w w4 by rw [← hw4]; exact below4 w _ _ _ _)
  have hz4 : w.heap.size + 1 + 1 + 1 + 1 ≤ w2.heap.size := by have h1 := hb2'.size; have h2 : w4.heap.size = w.heap.size + 1 + 1 + 1 + 1 := (by rw [← hw4]; simp); omega
  have HK := Lib.hid (show ∀ W, Below (w.heap.size + 1 + 1 + 1 + 1) w4 W → W.cell? ⟨w.heap.size, 1, none⟩ = some (.int .i64 N) ∧ W.cell? ⟨w.heap.size, 2, none⟩ = some (.slice a1 xs.length k1) ∧ W.cell? ⟨w.heap.size + 1, 2, none⟩ = some (.slice a2 ys.length k2) ∧ W.cell? ⟨w.heap.size + 1 + 1, 0, none⟩ = some (.func (.func 57) #[] #[]) from fun W hg =>
    ⟨(hg.cell (p := ⟨w.heap.size, 1, none⟩) (by show w.heap.size < _; omega)).trans (by subst hw4; go_simp), (hg.cell (p := ⟨w.heap.size, 2, none⟩) (by show w.heap.size < _; omega)).trans (by subst hw4; go_simp), (hg.cell (p := ⟨w.heap.size + 1, 2, none⟩) (by show w.heap.size + 1 < _; omega)).trans (by subst hw4; go_simp), (hg.cell (p := ⟨w.heap.size + 1 + 1, 0, none⟩) (by show w.heap.size + 1 + 1 < _; omega)).trans (by subst hw4; go_simp)⟩)
  have HZ := Lib.hid (show ∀ W, Below (w.heap.size + 1 + 1 + 1 + 1) w4 W → Z3 W (w.heap.size + 1 + 1 + 1) from fun W hg => by
    have h : Z3 w4 (w.heap.size + 1 + 1 + 1) := by rw [← hw4]; have h := Z3.new (((w.alloc (.cells #[.int .i64 D, .int .i64 N, .slice a1 xs.length k1] 24)).alloc (.cells #[.int .i64 D, .int .i64 N, .slice a2 ys.length k2] 24)).alloc (.cells #[.func (.func 57) #[] #[]] 99)) 24; simpa using h
    exact h.below hg (by omega))
  have HWk := Lib.hid (show ∀ W, Below w2.heap.size w2 W → Calls Tryz.prog 70 #[.pointer (some ⟨w.heap.size, 0, none⟩), .pointer (some ⟨w.heap.size + 1, 0, none⟩), .pointer (some ⟨w.heap.size + 1 + 1, 0, none⟩)] W (WorkPost o W) from fun W hW => by
    have hB := hb2'.trans (hW.mono (by omega))
    obtain ⟨x1, x2, y2, f0⟩ := HK.out W hB
    have hBw := HW4.out.trans (hB.mono (by omega))
    have hsz := hW.size
    have hk := sumWork_c D N hD.2 hN xs ys HX.out HY.out hlx hly a1 a2 k1 k2 w.heap.size (w.heap.size + 1) (w.heap.size + 1 + 1) W (by omega) (by omega) (by omega) x1 x2 y2 f0 (HT1.out.below hBw) (HT2.out.below hBw)
    rw [HV.out] at hk
    exact hk)
  have HB2 := Lib.hid hb2'
  have HNs := Lib.hid hN2.row
  clear hb2 hb2' hN2 hw4
  cases o with
  | none =>
    have HDoor := Lib.hid (door_no D N aS (allW D N).length cS 70 #[.pointer (some ⟨w.heap.size, 0, none⟩), .pointer (some ⟨w.heap.size + 1, 0, none⟩), .pointer (some ⟨w.heap.size + 1 + 1, 0, none⟩)] (fun _ => by kernel_rfl) w2 HWk.out)
    go_wp2_with fail
    refine HDoor.out.mono ?_
    rintro e w5 ⟨rfl, hb5⟩
    have HB5 := Lib.hid (HB2.out.trans (hb5.mono (by omega)))
    obtain ⟨ez, r0, r1, r2, z0, z1, z2⟩ := HZ.out w5 HB5.out
    have HW5 := Lib.hid (HW4.out.trans (HB5.out.mono (by omega)))
    clear hb5
    go_wp2
    refine bodyPost_ret (v := .tuple #[.agg #[.int .i64 0, .int .i64 0, .slice none 0 0], .int .i64 3]) (by simp [results, Tryz.results56, go_sem, r0, r1, r2]) rfl (SerPost.err 3 rfl ?_)
    have hW := HW5.out
    go_grown
  | some h =>
    have HDoor := Lib.hid (door_yes D N aS cS (allW D N) HWl.out HWs.out h 70 #[.pointer (some ⟨w.heap.size, 0, none⟩), .pointer (some ⟨w.heap.size + 1, 0, none⟩), .pointer (some ⟨w.heap.size + 1 + 1, 0, none⟩)] (fun _ => by kernel_rfl) w2 HWk.out HNs.out)
    go_wp2_with fail
    refine HDoor.out.mono ?_
    rintro e w5 ⟨a5, c5, rfl, hb5, hN5⟩
    have HB5 := Lib.hid (HB2.out.trans (hb5.mono (by omega)))
    obtain ⟨ez, r0, r1, r2, z0, z1, z2⟩ := HZ.out w5 HB5.out
    have HW5 := Lib.hid (HW4.out.trans (HB5.out.mono (by omega)))
    have HN5 := Lib.hid hN5
    clear hb5 hN5
    go_wp2
    refine bodyPost_ret (v := .tuple #[.agg #[.int .i64 D, .int .i64 N, .slice a5 (termsOf h (allW D N)).length c5], .int .i64 0]) (by simp [results, Tryz.results56, go_sem, r0, r1, r2]) rfl ⟨a5, c5, rfl, ?_, ?_⟩
    · have hW := HW5.out
      go_grown
    · exact (((HN5.out.far1s (n := w.heap.size + 1 + 1 + 1) (i := 0) (x := .int .i64 D) (by omega)).far1s (n := w.heap.size + 1 + 1 + 1) (i := 1) (x := .int .i64 N) (by omega)).far1s (n := w.heap.size + 1 + 1 + 1) (i := 2) (x := .slice a5 (termsOf h (allW D N)).length c5) (by omega)).mono (by omega) (by simp)
end Go.Proofs.YtdgkkcjjfpenpaaGreatDoor
