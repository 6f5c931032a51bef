/-
  Contracts of WithoutBeginning and WithoutEnd: the program's closures, the terms that are picked.
-/
import Derived.Test.YtlaaldpejjlbkaaDoorPickM
import Derived.Test.YtlaaldpejjlbkaaDoorPartOf
namespace Go.Proofs.YtlaaldpejjlbkaaDoor
open Go.RowKit

/-- a function value that changes words as `f` says, as long as memory up to the call's own stays -/
def ChangeAt (k : FuncId) (caps : Array Value) (f : ByteArray → Option ByteArray) (w : World) : Prop :=
  ∀ W, Below w.heap.size w W → ∀ s : ByteArray, s.size ≤ 5 → Calls Tryd.prog k (#[.string s] ++ caps) W fun e w' => e = .returned (.tuple #[.string ((f s).getD s), .bool (f s).isSome]) ∧ Below W.heap.size W w'

set_option maxRecDepth 100000 in
set_option maxHeartbeats 4000000 in
theorem withWords_c (L V : Int) (g : Nat) (ts : List Tm) (k : FuncId) (caps : Array Value) (f : ByteArray → Option ByteArray) (hsh : Shrinks f) (hk : ∀ (args : Array Value) (W : World), (callFunc k args).run Tryd.prog W = .ok (.enter k args) W)
    (hl : ts.length ≤ 1048576) (hs : ∀ t ∈ ts, t.s.size ≤ 5) (w : World) (hb : g < w.heap.size) (ht : TermsIn w g 0 ts) (hf : ChangeAt k caps f w) :
    Calls Tryd.prog 19 #[.agg #[.int .i64 L, .int .i64 V, .slice (some ⟨g, 0, none⟩) ts.length ts.length], .func (.func k) #[] caps] w (ToSer L V (pickL f ts) w) := by
  have HT := Lib.hid ht
  have HS := Lib.hid hs
  have HF := Lib.hid hf
  have HSh := Lib.hid hsh
  clear ht hs hf hsh
  go_enter Tryd.func19, Tryd.ntmps19
  go_wp2_with fail
  go_loopw [5, 13] (fun v vk wr => ∃ (k : Nat) (at_ : Option Addr) (l c : Nat), k ≤ ts.length ∧ vk = .int .i64 k ∧ v = .slice at_ l c ∧ l = (pickL f (ts.take k)).length ∧ OwnT wr (w.heap.size + 1 + 1) (.slice at_ l c) (pickL f (ts.take k)) ∧ Below (w.heap.size + 1 + 1) ((w.alloc (.cells #[.int .i64 L, .int .i64 V, .slice (some ⟨g, 0, none⟩) ts.length ts.length] 28)).alloc (.cells #[.int .i64 0, .int .i64 0, .slice none 0 0] 28)) wr) (fun _ vk _ => ts.length - (intOf vk).toNat)
  case atStart => exact ⟨0, none, 0, 0, Nat.zero_le _, rfl, rfl, rfl, OwnT.nil _ _, Below.refl _ _⟩
  case round =>
    obtain ⟨i, av, lv, cv, hi, rfl, rfl, hlv, hO, hB⟩ := hrel
    have HO := Lib.hid hO
    have HB := Lib.hid hB
    have HL := Lib.hid hlv
    have hz := hB.size
    simp only [World.size_alloc] at hz
    have hfew : lv ≤ 1048576 := by have h1 := pickL_length f (ts.take i); rw [List.length_take] at h1; omega
    have HW := Lib.hid ((below2 w (.cells #[.int .i64 L, .int .i64 V, .slice (some ⟨g, 0, none⟩) ts.length ts.length] 28) (.cells #[.int .i64 0, .int .i64 0, .slice none 0 0] 28)).trans (HB.out.mono (by omega)))
    clear hO hB hlv
    by_cases hlt : i < ts.length
    · obtain ⟨c0, c1, c2⟩ := HT.out.below HW.out hb i hlt
      have hsz := HS.out _ (List.getElem_mem hlt)
      have HPn := Lib.hid (fun h => pickL_none (f := f) hlt h)
      have HPs := Lib.hid (fun s' (h : f (ts[i]).s = some s') => pickL_some hlt h)
      obtain ⟨s, n, d, het⟩ : ∃ s n d, ts[i] = ⟨s, n, d⟩ := ⟨_, _, _, rfl⟩
      rw [het] at c0 c1 c2 hsz HPn HPs
      simp only [Nat.zero_add] at c0 c1 c2 hsz
      clear het
      go_wp2_with fail
      have hc := HF.out (wr.alloc (.cells #[.string s, .int .i64 n, .int .i64 d] 43)) (HW.out.trans ((below1 wr _).mono HW.out.size)) s hsz
      cases hfs : f s with
      | none =>
        rw [hfs] at hc
        have HT1 := Lib.hid (HPn.out hfs)
        clear hfs
        refine hc.mono ?_
        rintro e w1 ⟨rfl, hb1⟩
        have hbb := (below1 wr (.cells #[.string s, .int .i64 n, .int .i64 d] 43)).trans (hb1.mono (by simp))
        have HO1 := Lib.hid (HO.out.below hbb (fun g hg => (HO.out.lt g hg).2))
        have HB1 := Lib.hid (HB.out.trans (hbb.mono (by omega)))
        clear hb1 hbb hc c0 c1 c2
        go_wp2
        go_roundw
        case rel => exact ⟨i + 1, av, lv, cv, by omega, by go_num, rfl, by rw [HT1.out]; exact HL.out, by rw [HT1.out]; exact HO1.out, HB1.out⟩
        case measure => simp [intOf]; omega
      | some s' =>
        rw [hfs] at hc
        have HT1 := Lib.hid (HPs.out s' hfs)
        have hs5 := HSh.out s s' hfs
        clear hfs
        refine hc.mono ?_
        rintro e w1 ⟨rfl, hb1⟩
        have hbb := (below1 wr (.cells #[.string s, .int .i64 n, .int .i64 d] 43)).trans (hb1.mono (by simp))
        have hB := hb1
        simp only [World.size_alloc] at hB
        have bc := bcellB hB
        have q0 : w1.cell? ⟨wr.heap.size, 0, none⟩ = some (.string s) := (bc.1 _ _ (by omega)).trans (by go_simp)
        have q1 : w1.cell? ⟨wr.heap.size, 1, none⟩ = some (.int .i64 n) := (bc.1 _ _ (by omega)).trans (by go_simp)
        have q2 : w1.cell? ⟨wr.heap.size, 2, none⟩ = some (.int .i64 d) := (bc.1 _ _ (by omega)).trans (by go_simp)
        have HO1 := Lib.hid (HO.out.below hbb (fun g hg => (HO.out.lt g hg).2))
        have HB1 := Lib.hid (HB.out.trans (hbb.mono (by omega)))
        have hz1 := hbb.size
        have HTn := Lib.hid (terms_one w1 ⟨s', n, d⟩)
        clear hb1 hB hbb bc hc c0 c1 c2
        go_wp2_with (at_builtin; refine wpList_append_terms rfl _ _ rfl (w.heap.size + 1 + 1) (.slice av lv cv) lv (pickL f (ts.take i)) [⟨s', n, d⟩] rfl HL.out (HO1.out.alloc _) _ 1 1 rfl rfl (.inr ⟨w1.heap.size, 0, rfl, HTn.out⟩) (by omega) (by simp; omega) ?_)
        intro a3 c3 w3 hO3 hG3 _
        have HB3 := Lib.hid (HB1.out.trans (((below1 w1 _).mono (by omega)).trans (own_grown (HO1.out.alloc _) hG3 (by simp; omega))))
        have HO3 := Lib.hid hO3
        clear hO3 hG3
        go_wp2
        go_roundw
        case rel => exact ⟨i + 1, a3, _, c3, by omega, by go_num, rfl, by rw [HT1.out, List.length_append, HL.out]; rfl, by rw [HT1.out]; exact HO3.out, HB3.out⟩
        case measure => simp [intOf]; omega
    · obtain rfl : i = ts.length := by omega
      have bc := bcellB HB.out
      have s0 : wr.cell? ⟨w.heap.size, 0, none⟩ = some (.int .i64 L) := (bc.1 _ _ (by omega)).trans (by go_simp)
      have s1 : wr.cell? ⟨w.heap.size, 1, none⟩ = some (.int .i64 V) := (bc.1 _ _ (by omega)).trans (by go_simp)
      have hO := HO.out
      rw [List.take_length] at hO
      have hl2 := HL.out
      rw [List.take_length] at hl2
      subst hl2
      obtain ⟨a', c', he, hle, hNr⟩ := hO.newRow
      injection he with e1 e2 e3
      subst e1 e3
      have HNr := Lib.hid hNr.row
      clear bc hO hNr
      go_wp2_with fail
      refine (newSeries_c L V av cv (pickL f ts) (by omega) (fun i hi => by obtain ⟨u, hu, hfu, _, _⟩ := pickL_mem (List.getElem_mem hi); have h1 := HSh.out _ _ hfu; have h2 := HS.out u hu; omega) _ HNr.out).mono ?_
      clear s0 s1
      rintro e w5 ⟨g5, rfl, hb5, hg5, hM5, hT5⟩
      have hz5 := hb5.size
      have HB5 := Lib.hid (HB.out.trans (hb5.mono (by omega)))
      have HM5 := Lib.hid hM5
      have HT5 := Lib.hid hT5
      have bc := bcellB HB5.out
      have r0 : w5.cell? ⟨w.heap.size + 1, 0, none⟩ = some (.int .i64 0) := (bc.1 _ _ (by omega)).trans (by go_simp)
      have r1 : w5.cell? ⟨w.heap.size + 1, 1, none⟩ = some (.int .i64 0) := (bc.1 _ _ (by omega)).trans (by go_simp)
      have r2 : w5.cell? ⟨w.heap.size + 1, 2, none⟩ = some (.slice none 0 0) := (bc.1 _ _ (by omega)).trans (by go_simp)
      have z0 : w5.frozen? ⟨w.heap.size + 1, 0, none⟩ = false := (bc.2 _ _ (by omega)).trans (by go_simp)
      have z1 : w5.frozen? ⟨w.heap.size + 1, 1, none⟩ = false := (bc.2 _ _ (by omega)).trans (by go_simp)
      have z2 : w5.frozen? ⟨w.heap.size + 1, 2, none⟩ = false := (bc.2 _ _ (by omega)).trans (by go_simp)
      have HW5 := Lib.hid (HW.out.trans (hb5.mono (by omega)))
      have hg6 : w.heap.size + 1 < g5 := by omega
      clear bc hb5 hM5 hT5 hg5
      go_wp2
      refine bodyPost_ret (v := .agg #[.int .i64 L, .int .i64 V, .slice (some ⟨g5, 0, none⟩) (pickL f ts).length (pickL f ts).length]) (by simp [results, Tryd.results19, go_sem, r0, r1, r2]) rfl ⟨g5, rfl, ?_, by omega, ?_, ?_⟩
      · have hW := HW5.out
        go_grown
      · exact ((HM5.out.set _ _).set _ _).set _ _
      · exact ((HT5.out.setCell (by show w.heap.size + 1 ≠ g5; omega) _).setCell (by show w.heap.size + 1 ≠ g5; omega) _).setCell (by show w.heap.size + 1 ≠ g5; omega) _
end Go.Proofs.YtlaaldpejjlbkaaDoor
