/-
  addTerms of the program: two rows of terms are merged.
-/
import Derived.Test.YtbhbcjaaomdlaaaConc
import Derived.Test.YtbhbcjaaomdlaaaOps
import Derived.Test.YtbhbcjaaomdlaaaCode
import Derived.Test.YtbhbcjaaomdlaaaCutW
namespace Go.Proofs.Ytbhbcjaaomdlaaa
open Go.RowKit

def TermsPost (r : Option (List Tm)) (W : World) (e : Ending) (w' : World) : Prop :=
  match r with
  | none => e = .returned (.tuple #[.slice none 0 0, .int .i64 3]) ∧ Below W.heap.size W w'
  | some ts' => ∃ (a : Option Addr) (cap : Nat), e = .returned (.tuple #[.slice a ts'.length cap, .int .i64 0]) ∧ Below W.heap.size W w' ∧ NewRow W.heap.size w'.heap.size w' a ts'

/-- the rest of a row, as a slice -/
def RestS (hi : Nat) (w : World) (v : Value) (ts : List Tm) (i : Nat) : Prop :=
  ∃ (A : Option Addr) (n k : Nat), v = .slice A n k ∧ i ≤ ts.length ∧ n = ts.length - i ∧ n ≤ k ∧ RowB hi w A (ts.drop i)
theorem RestS.below {hi B : Nat} {w w' : World} {v : Value} {ts : List Tm} {i : Nat} (h : RestS hi w v ts i) (hb : Below B w w') (hh : hi ≤ B) : RestS hi w' v ts i := by
  obtain ⟨A, n, k, h1, h2, h3, h4, h5⟩ := h
  exact ⟨A, n, k, h1, h2, h3, h4, h5.below hb hh⟩
theorem RestS.next {hi : Nat} {w : World} {b o n k : Nat} {ts : List Tm} {i : Nat} (hi1 : i + 1 ≤ ts.length) (hn : n = ts.length - i) (hk : n ≤ k) (hb : b < hi) (ht : TermsIn w b o (ts.drop i)) (A' : Option Addr) (k' : Nat) (hA : ¬ k = 1 → A' = some ⟨b, o + 3, none⟩) (hk' : k' = k - 1) :
    RestS hi w (.slice A' (n - 1) k') ts (i + 1) := by
  refine ⟨A', n - 1, k', rfl, hi1, by omega, by omega, ?_⟩
  by_cases h1 : n = 1
  · exact .inl (List.drop_eq_nil_of_le (by omega))
  · refine .inr ⟨b, o + 3, hA (by omega), hb, ?_⟩
    have h := drop_in (k := 1) ht (by rw [List.length_drop]; omega)
    rwa [List.drop_drop, Nat.one_mul] at h
theorem RestS.head {hi : Nat} {w : World} {v : Value} {ts : List Tm} {i : Nat} (h : RestS hi w v ts i) (hlt : i < ts.length) :
    ∃ (b o n k : Nat) (s : ByteArray) (x d : Int), v = .slice (some ⟨b, o, none⟩) n k ∧ n = ts.length - i ∧ n ≤ k ∧ b < hi ∧ TermsIn w b o (ts.drop i) ∧ ts[i]? = some ⟨s, x, d⟩ ∧
      w.cell? ⟨b, o, none⟩ = some (.string s) ∧ w.cell? ⟨b, o + 1, none⟩ = some (.int .i64 x) ∧ w.cell? ⟨b, o + 2, none⟩ = some (.int .i64 d) := by
  obtain ⟨A, n, k, h1, h2, h3, h4, h5⟩ := h
  rcases h5 with h5 | ⟨b, o, rfl, hb, ht⟩
  · have := congrArg List.length h5; simp at this; omega
  · obtain ⟨s, x, d, het⟩ : ∃ s x d, ts[i] = ⟨s, x, d⟩ := ⟨_, _, _, rfl⟩
    have hc := ht 0 (by rw [List.length_drop]; omega)
    have hg : (ts.drop i)[0]'(by rw [List.length_drop]; omega) = ts[i] := by rw [List.getElem_drop]; simp
    rw [hg, het] at hc
    simp only [Nat.zero_mul, Nat.add_zero] at hc
    exact ⟨b, o, n, k, s, x, d, h1, h3, h4, hb, ht, by rw [List.getElem?_eq_getElem hlt, het], hc.1, hc.2.1, hc.2.2⟩
theorem RestS.end_ {hi : Nat} {w : World} {v : Value} {ts : List Tm} {i : Nat} (h : RestS hi w v ts i) (hlt : ¬ i < ts.length) : ∃ (A : Option Addr) (k : Nat), v = .slice A 0 k ∧ ts.drop i = [] := by
  obtain ⟨A, n, k, h1, h2, h3, h4, h5⟩ := h
  obtain rfl : n = 0 := by omega
  exact ⟨A, k, h1, List.drop_eq_nil_of_le (by omega)⟩

theorem RowB.mono {hi hi' : Nat} {w : World} {a : Option Addr} {ts : List Tm} (h : RowB hi w a ts) (hh : hi ≤ hi') : RowB hi' w a ts := by
  rcases h with h | ⟨b, off, h1, h2, h3⟩
  · exact .inl h
  · exact .inr ⟨b, off, h1, by omega, h3⟩
/-- where the loop stands: the rests of both rows, and what has been gathered -/
def AddRel (ts ys : List Tm) (w : World) (vx vy vt : Value) (wr : World) : Prop :=
  ∃ (i j : Nat) (acc : List Tm) (a : Option Addr) (l c : Nat), MergeAt ts ys acc i j ∧ RestS w.heap.size wr vx ts i ∧ RestS w.heap.size wr vy ys j ∧ vt = .slice a l c ∧ l = acc.length ∧ OwnT wr w.heap.size (.slice a l c) acc ∧ Below w.heap.size w wr
def addLeft (vx vy : Value) : Nat := (match vx with | .slice _ n _ => n | _ => 0) + (match vy with | .slice _ n _ => n | _ => 0)

theorem cmp_eq0 {a b : ByteArray} (h : cmpL a.data.toList b.data.toList = 0) : a = b := data_eq ((cmpL_zero _ _).1 h)
theorem term_isF {L V : Int} {ts : List Tm} (h : serB L V ts = true) : ∀ t ∈ ts, isF t.n t.d = true := fun t ht => by
  have h1 := ser_term h t ht
  simp only [termB, Bool.and_eq_true] at h1
  exact h1.2.1

theorem fOk_isF {n d : Int} (h : fOk n d = true) : isF (fN n d) (fD n d) = true := by
  rw [(low_yes h).1, (low_yes h).2.1]
  simp only [fOk, Bool.and_eq_true] at h
  exact h.2

/-- a step: the head of a row goes to what is gathered -/
theorem AddRel.put {ts ys : List Tm} {w wr w2 : World} {lv cv gg cg : Nat} {acc : List Tm} {av : Option Addr} {vx vy : Value} (t : Tm) {i' j' : Nat} (hM : MergeAt ts ys (acc ++ [t]) i' j')
    (hx : RestS w.heap.size wr vx ts i') (hy : RestS w.heap.size wr vy ys j') (hl : lv = acc.length) (hO : OwnT wr w.heap.size (.slice av lv cv) acc) (hB : Below w.heap.size w wr)
    (hown : w2.ownsRow w.heap.size 60 3 (.slice (some ⟨gg, 0, none⟩) (lv + 1) cg) (lv + 1) (cellsT acc ++ [.string t.s, .int .i64 t.n, .int .i64 t.d]))
    (hgrow : ((wr.alloc (.cells #[.string t.s, .int .i64 t.n, .int .i64 t.d] 60)).drew).grownBy w2 (Value.slice av lv cv).ownBlock) :
    AddRel ts ys w vx vy (.slice (some ⟨gg, 0, none⟩) (lv + 1) cg) w2 := by
  have h0 := hB.size
  have hb2 : Below w.heap.size w w2 := by
    have h1 : Below w.heap.size w (wr.alloc (.cells #[.string t.s, .int .i64 t.n, .int .i64 t.d] 60)).drew := by
      have h := hB.alloc h0 (.cells #[.string t.s, .int .i64 t.n, .int .i64 t.d] 60)
      exact ⟨h.os, h.tape, h.output, h.size, h.block⟩
    exact h1.trans (below_of_grown hgrow (fun g h => (hO.lt g h).1) (by simp; omega))
  have hb3 : Below w.heap.size wr w2 := by
    have h1 : Below w.heap.size wr (wr.alloc (.cells #[.string t.s, .int .i64 t.n, .int .i64 t.d] 60)).drew := by
      have h := (Below.refl w.heap.size wr).alloc h0 (.cells #[.string t.s, .int .i64 t.n, .int .i64 t.d] 60)
      exact ⟨h.os, h.tape, h.output, h.size, h.block⟩
    exact h1.trans (below_of_grown hgrow (fun g h => (hO.lt g h).1) (by simp; omega))
  refine ⟨i', j', acc ++ [t], _, _, _, hM, hx.below hb3 (Nat.le_refl _), hy.below hb3 (Nat.le_refl _), rfl, by rw [hl]; simp, ?_, hb2⟩
  unfold OwnT
  rw [List.length_append, ← hl, cellsT_append]
  exact hown

theorem AddRel.drewN {ts ys : List Tm} {w wr : World} {vx vy vt : Value} {n : Nat} (h : AddRel ts ys w vx vy vt wr) : AddRel ts ys w vx vy vt (wr.drewN n) := by
  obtain ⟨i, j, acc, a, l, c, h1, h2, h3, h4, h5, h6, h7⟩ := h
  exact ⟨i, j, acc, a, l, c, h1, h2, h3, h4, h5, h6, ⟨h7.os, h7.tape, h7.output, h7.size, h7.block⟩⟩

theorem TermsPost.ok {r : Option (List Tm)} {zs : List Tm} {W w1 : World} {a : Option Addr} {c n : Nat} (hr : r = some zs) (hn : n = zs.length) (hb : Below W.heap.size W w1) (hN : NewRow W.heap.size w1.heap.size w1 a zs) : TermsPost r W (.returned (.tuple #[.slice a n c, .int .i64 0])) w1 := by
  subst hr hn
  exact ⟨a, c, rfl, hb, hN⟩
theorem TermsPost.no {r : Option (List Tm)} {W w1 : World} (hr : r = none) (hb : Below W.heap.size W w1) : TermsPost r W (.returned (.tuple #[.slice none 0 0, .int .i64 3])) w1 := by
  subst hr
  exact ⟨rfl, hb⟩

/-- where the sum's variable stands, whatever the order -/
def SumCut (w1 : World) (N D C : Int) (v8 v9 : Value) (wy : World) : Prop :=
  ∃ g, v8 = .pointer (some ⟨g, 0, none⟩) ∧ v9 = .int .i64 C ∧ w1.heap.size ≤ g ∧ g < wy.heap.size ∧ Below w1.heap.size w1 wy ∧ wy.cell? ⟨g, 0, none⟩ = some (.int .i64 N) ∧ wy.cell? ⟨g, 1, none⟩ = some (.int .i64 D)

set_option maxRecDepth 100000 in
set_option maxHeartbeats 8000000 in
theorem addTerms_c (a1 a2 : Option Addr) (c1 c2 : Nat) (ts ys : List Tm) (hl1 : ts.length ≤ 1048576) (hl2 : ys.length ≤ 1048576) (hc1 : ts.length ≤ c1) (hc2 : ys.length ≤ c2) (f1 : ∀ t ∈ ts, isF t.n t.d = true) (f2 : ∀ t ∈ ys, isF t.n t.d = true) (w : World) (h1 : Row w a1 ts) (h2 : Row w a2 ys) :
    Calls Try.prog 24 #[.slice a1 ts.length c1, .slice a2 ys.length c2] w (TermsPost (mergeL ts ys) w) := by
  obtain ⟨i0, hi0, hi1, hi2, hi3⟩ := info_parts info_term
  have HR1 := Lib.hid h1
  have HR2 := Lib.hid h2
  have HF1 := Lib.hid f1
  have HF2 := Lib.hid f2
  clear h1 h2 f1 f2
  go_enter Try.func24, Try.ntmps24
  go_wp2_with fail
  go_loopw [0, 1, 6] (AddRel ts ys w) (fun vx vy _ _ => addLeft vx vy)
  case atStart =>
    exact ⟨0, 0, [], none, 0, 0, MergeAt.start _ _, ⟨a1, _, c1, rfl, Nat.zero_le _, by omega, hc1, RowB.of_row HR1.out⟩, ⟨a2, _, c2, rfl, Nat.zero_le _, by omega, hc2, RowB.of_row HR2.out⟩, rfl, rfl, OwnT.nil _ _, Below.refl _ _⟩
  case round =>
    obtain ⟨i, j, acc, av, lv, cv, hM, hx, hy, rfl, hlv, hO, hB⟩ := hrel
    have HM := Lib.hid hM
    have HX := Lib.hid hx
    have HY := Lib.hid hy
    have HL := Lib.hid hlv
    have HO := Lib.hid hO
    have HB := Lib.hid hB
    have hz := hB.size
    have hacc : lv ≤ 2097152 := by have := hM.2.2.2.1; have := hM.1; have := hM.2.1; omega
    clear hM hx hy hlv hO hB
    by_cases hi : i < ts.length
    · obtain ⟨b1, o1, n1, k1, s1, x1, d1, rfl, hn1, hk1, hb1, ht1, hg1, p0, p1, p2⟩ := HX.out.head hi
      have HT1 := Lib.hid ht1
      have HN1 := Lib.hid hn1
      have HG1 := Lib.hid hg1
      have hpos1 : 0 < n1 := by omega
      have hI1 : (0 : Int) < (n1 : Int) := by omega
      have hI1b : (1 : Int) ≤ (n1 : Int) := by omega
      clear ht1 hn1 hg1
      by_cases hj : j < ys.length
      · obtain ⟨b2, o2, n2, k2, s2, x2, d2, rfl, hn2, hk2, hb2, ht2, hg2, q0, q1, q2⟩ := HY.out.head hj
        have HT2 := Lib.hid ht2
        have HN2 := Lib.hid hn2
        have HG2 := Lib.hid hg2
        have hpos2 : 0 < n2 := by omega
        have hI2 : (0 : Int) < (n2 : Int) := by omega
        have hI2b : (1 : Int) ≤ (n2 : Int) := by omega
        clear ht2 hn2 hg2
        have hb1r : b1 < wr.heap.size := by omega
        have hb2r : b2 < wr.heap.size := by omega
        go_upto_region 3 with fail
        go_cut [7] (fun s wy => s = .int .i64 (cmpL s1.data.toList s2.data.toList) ∧ Below wr.heap.size wr wy)
        case first =>
          go_region_held3 (fun w' => w'.cell? ⟨b1, o1, none⟩ = some (.string s1) ∧ w'.cell? ⟨b2, o2, none⟩ = some (.string s2)) (first | exact ⟨(hb5.cell (p := ⟨b1, o1, none⟩) hb1r).trans p0, (hb5.cell (p := ⟨b2, o2, none⟩) hb2r).trans q0⟩ | go_keep)
            ((go_at_call 44; refine (compareWords_c s1 s2 _).mono ?_; rintro e w5 ⟨rfl, hb0⟩; have hb5 : Below wr.heap.size wr w5 := ⟨hb0.os, hb0.tape, hb0.output, hb0.size, hb0.block⟩))
          all_goals (go_wp2_with fail; go_meet)
          all_goals exact ⟨rfl, hb5⟩
        case rest =>
          obtain ⟨rfl, hby⟩ := hcut
          obtain ⟨wy, rfl⟩ : ∃ wy : World, wy = wc := ⟨_, rfl⟩
          have HBy := Lib.hid (HB.out.trans (hby.mono hz))
          have HOy := Lib.hid (HO.out.below hby (fun g h => (HO.out.lt g h).2))
          have HXy := Lib.hid (HX.out.below hby hz)
          have HYy := Lib.hid (HY.out.below hby hz)
          have HT1y := Lib.hid (HT1.out.below hby hb1r)
          have HT2y := Lib.hid (HT2.out.below hby hb2r)
          have y0 := (hby.cell (p := ⟨b1, o1, none⟩) hb1r).trans p0
          have y1 := (hby.cell (p := ⟨b1, o1 + 1, none⟩) hb1r).trans p1
          have y2 := (hby.cell (p := ⟨b1, o1 + 2, none⟩) hb1r).trans p2
          have z0 := (hby.cell (p := ⟨b2, o2, none⟩) hb2r).trans q0
          have z1 := (hby.cell (p := ⟨b2, o2 + 1, none⟩) hb2r).trans q1
          have z2 := (hby.cell (p := ⟨b2, o2 + 2, none⟩) hb2r).trans q2
          have hzy := hby.size
          clear hby p0 p1 p2 q0 q1 q2
          obtain ⟨c, hc⟩ : ∃ c, cmpL s1.data.toList s2.data.toList = c := ⟨_, rfl⟩
          have hcl := lessL_cmp s1.data.toList s2.data.toList
          have hce := fun h => cmp_eq0 (a := s1) (b := s2) h
          have hcz : s1 = s2 → cmpL s1.data.toList s2.data.toList = 0 := fun h => by subst h; exact (cmpL_zero _ _).2 rfl
          rw [hc] at hcl hce hcz ⊢
          have HCl := Lib.hid hcl
          have HCe := Lib.hid hce
          have HCz := Lib.hid hcz
          clear hc hcl hce hcz
          by_cases h1 : c < 0
          · have HLt := Lib.hid (HM.out.lt (x := ⟨s1, x1, d1⟩) (y := ⟨s2, x2, d2⟩) HG1.out HG2.out (HCl.out.1 h1) (isF_abs (HF1.out _ (List.mem_of_getElem? HG1.out)) |>.imp_right (·.1)))
            have hI0 : (1 : Int) ≤ (k1 : Int) := by omega
            go_upto_region 5 with fail
            go_region_law
              ((refine step_append_lies _ (by rfl) _ _ _ (by rfl) w.heap.size 60 i0 _ 3 32 Try.underlying26 hi0 hi1 hi2 hi3 rfl (by omega) (.slice av lv cv) lv (cellsT acc) (by rfl) (by have h := HOy.out; unfold OwnT at h; rw [← HL.out] at h; exact (h.alloc _).drew)
                  ⟨wy.heap.size, 0, none⟩ 1 1 [.string s1, .int .i64 x1, .int .i64 d1] (by rfl) (by rfl) (World.news_of_block (cs := #[.string s1, .int .i64 x1, .int .i64 d1]) (t := 60) (fr := (0, 0)) (heap_alloc_new wy _)) (by simp [Value.oneCell'])
                  (by omega) (by unfold maxLen; omega) (by omega) (by simp; omega) (wy.heap.size + 1) (by simp) ?_; intro gg cg w2 hown1 hgrow hat hlt2))
            all_goals
              have hOs := Lib.hid (fun (A' : Option Addr) (k' : Nat) (hA' : ¬ k1 = 1 → A' = some ⟨b1, o1 + 3, none⟩) (hk' : k' = k1 - 1) => AddRel.put (ts := ts) (ys := ys) (w := w) ⟨s1, x1, d1⟩ HLt.out (RestS.next (b := b1) (o := o1) (n := n1) (k := k1) (by omega) HN1.out hk1 hb1 HT1y.out A' k' hA' hk') HYy.out HL.out HOy.out HBy.out hown1 hgrow)
              clear hown1 hgrow hat
              go_wp2
            all_goals
              refine ⟨⟨_, _, _, _, _, hOs.out _ _ ?_ ?_, rfl, rfl, rfl, rfl, rfl⟩, by simp only [addLeft]; omega⟩
              all_goals first | exact fun _ => rfl | exact fun h => absurd (by omega) h | omega
          · by_cases h2 : 0 < c
            · have HGt := Lib.hid (HM.out.gt (x := ⟨s1, x1, d1⟩) (y := ⟨s2, x2, d2⟩) HG1.out HG2.out (by cases hl : lessL s1.data.toList s2.data.toList with
                | false => exact hl
                | true => exact absurd (HCl.out.2 hl) h1) (fun e => by have := HCz.out e; omega) (isF_abs (HF2.out _ (List.mem_of_getElem? HG2.out)) |>.imp_right (·.1)))
              have hI0 : (1 : Int) ≤ (k2 : Int) := by omega
              go_upto_region 7 with fail
              go_region_law
                ((refine step_append_lies _ (by rfl) _ _ _ (by rfl) w.heap.size 60 i0 _ 3 32 Try.underlying26 hi0 hi1 hi2 hi3 rfl (by omega) (.slice av lv cv) lv (cellsT acc) (by rfl) (by have h := HOy.out; unfold OwnT at h; rw [← HL.out] at h; exact (h.alloc _).drew)
                    ⟨wy.heap.size, 0, none⟩ 1 1 [.string s2, .int .i64 x2, .int .i64 d2] (by rfl) (by rfl) (World.news_of_block (cs := #[.string s2, .int .i64 x2, .int .i64 d2]) (t := 60) (fr := (0, 0)) (heap_alloc_new wy _)) (by simp [Value.oneCell'])
                    (by omega) (by unfold maxLen; omega) (by omega) (by simp; omega) (wy.heap.size + 1) (by simp) ?_; intro gg cg w2 hown1 hgrow hat hlt2))
              all_goals
                have hOs := Lib.hid (fun (A' : Option Addr) (k' : Nat) (hA' : ¬ k2 = 1 → A' = some ⟨b2, o2 + 3, none⟩) (hk' : k' = k2 - 1) => AddRel.put (ts := ts) (ys := ys) (w := w) ⟨s2, x2, d2⟩ HGt.out HXy.out (RestS.next (b := b2) (o := o2) (n := n2) (k := k2) (by omega) HN2.out hk2 hb2 HT2y.out A' k' hA' hk') HL.out HOy.out HBy.out hown1 hgrow)
                clear hown1 hgrow hat
                go_wp2
              all_goals
                refine ⟨⟨_, _, _, _, _, hOs.out _ _ ?_ ?_, rfl, rfl, rfl, rfl, rfl⟩, by simp only [addLeft]; omega⟩
                all_goals first | exact fun _ => rfl | exact fun h => absurd (by omega) h | omega
            · obtain rfl : c = 0 := by omega
              obtain rfl := HCe.out rfl
              have HLs := Lib.hid (show lessT ⟨s1, x1, d1⟩ ⟨s1, x2, d2⟩ = false from by cases hl : lessL s1.data.toList s1.data.toList with
                | false => exact hl
                | true => exact absurd (HCl.out.2 hl) h1)
              have HQ1 := Lib.hid (HF1.out _ (List.mem_of_getElem? HG1.out))
              have HQ2 := Lib.hid (HF2.out _ (List.mem_of_getElem? HG2.out))
              have hq1 := isF_abs HQ1.out
              have hq2 := isF_abs HQ2.out
              simp only at hq1 hq2
              have hb1y : b1 < wy.heap.size := by omega
              have hb2y : b2 < wy.heap.size := by omega
              obtain ⟨N, hN⟩ : ∃ N, fN (x1 * d2 + x2 * d1) (d1 * d2) = N := ⟨_, rfl⟩
              obtain ⟨D, hD⟩ : ∃ D, fD (x1 * d2 + x2 * d1) (d1 * d2) = D := ⟨_, rfl⟩
              obtain ⟨C, hC⟩ : ∃ C, fC (x1 * d2 + x2 * d1) (d1 * d2) = C := ⟨_, rfl⟩
              have HAr := Lib.hid (show addR x1 d1 x2 d2 = (N, D, C) from by rw [addR_y HQ1.out HQ2.out]; simp only [q3, hN, hD, hC])
              have HN := Lib.hid hN
              have HD := Lib.hid hD
              have HC := Lib.hid hC
              clear h1 h2 hN hD hC
              go_upto_region 8 with fail
              go_cut [8, 9] (SumCut wy N D C)
              case first =>
                go_region_held3 (fun w' => w'.cell? ⟨b1, o1 + 1, none⟩ = some (.int .i64 x1) ∧ w'.cell? ⟨b1, o1 + 2, none⟩ = some (.int .i64 d1) ∧ w'.cell? ⟨b2, o2 + 1, none⟩ = some (.int .i64 x2) ∧ w'.cell? ⟨b2, o2 + 2, none⟩ = some (.int .i64 d2))
                  (first | exact ⟨f0, f1, f2, f3⟩ | (rw [far_pair hb1y, far_pair hb1y, far_pair hb2y, far_pair hb2y]; exact ⟨f0, f1, f2, f3⟩) | go_keep)
                  (first
                    | (go_at_call 45; ((with_reducible refine (iAdd_c x1 d1 x2 d2 wy.drew).mono ?_)); rw [HAr.out]; rintro e w2 ⟨rfl, hb0⟩; have hb2 : Below wy.heap.size wy w2 := below_drew hb0; have f0 := (hb2.cell (p := ⟨b1, o1 + 1, none⟩) hb1y).trans y1; have f1 := (hb2.cell (p := ⟨b1, o1 + 2, none⟩) hb1y).trans y2; have f2 := (hb2.cell (p := ⟨b2, o2 + 1, none⟩) hb2y).trans z1; have f3 := (hb2.cell (p := ⟨b2, o2 + 2, none⟩) hb2y).trans z2)
                    | (go_at_call 45; ((with_reducible refine (iAdd_c x1 d1 x2 d2 (wy.alloc (.cells #[.int .i64 0, .int .i64 0] 38)).drew).mono ?_)); rw [HAr.out]; rintro e w2 ⟨rfl, hb0⟩; have hb2 : Below wy.heap.size wy w2 := (below1 wy (.cells #[.int .i64 0, .int .i64 0] 38)).trans ((below_drew hb0).mono (by simp)); have g0 : w2.cell? ⟨wy.heap.size, 0, none⟩ = some (.int .i64 0) := (hb0.cell (p := ⟨wy.heap.size, 0, none⟩) (by simp)).trans (by go_simp); have g1 : w2.cell? ⟨wy.heap.size, 1, none⟩ = some (.int .i64 0) := (hb0.cell (p := ⟨wy.heap.size, 1, none⟩) (by simp)).trans (by go_simp); have z8 : w2.frozen? ⟨wy.heap.size, 0, none⟩ = false := (hb0.frozen (p := ⟨wy.heap.size, 0, none⟩) (by simp)).trans (by go_simp); have z9 : w2.frozen? ⟨wy.heap.size, 1, none⟩ = false := (hb0.frozen (p := ⟨wy.heap.size, 1, none⟩) (by simp)).trans (by go_simp); have f0 := (hb2.cell (p := ⟨b1, o1 + 1, none⟩) hb1y).trans y1; have f1 := (hb2.cell (p := ⟨b1, o1 + 2, none⟩) hb1y).trans y2; have f2 := (hb2.cell (p := ⟨b2, o2 + 1, none⟩) hb2y).trans z1; have f3 := (hb2.cell (p := ⟨b2, o2 + 2, none⟩) hb2y).trans z2))
                all_goals (go_wp2_with fail; go_meet)
                · exact ⟨w2.heap.size, rfl, rfl, hb2.size, by simp, hb2.alloc hb2.size _, by go_simp, by go_simp⟩
                · have hp := pair_stored (x := .int .i64 N) (y := .int .i64 D) g0 g1
                  have hz2 : wy.heap.size < w2.heap.size := by have := hb0.size; simp at this; omega
                  exact ⟨wy.heap.size, rfl, rfl, Nat.le_refl _, by simpa using hz2, (hb2.setCell (p := ⟨wy.heap.size, 0, none⟩) (Nat.le_refl _) _).setCell (p := ⟨wy.heap.size, 1, none⟩) (Nat.le_refl _) _, hp.1, hp.2⟩
              case rest =>
                obtain ⟨g, rfl, rfl, hg1, hg2, hbc, g0, g1⟩ := hcut
                obtain ⟨w3, rfl⟩ : ∃ w3 : World, w3 = wc := ⟨_, rfl⟩
                have hz3 := hbc.size
                have HB3 := Lib.hid (HBy.out.trans (hbc.mono (by omega)))
                have HO3 := Lib.hid (HOy.out.below hbc (fun g h => (HOy.out.lt g h).2))
                have HY3 := Lib.hid (HYy.out.below hbc (by omega))
                have HX3 := Lib.hid (HXy.out.below hbc (by omega))
                have HT13 := Lib.hid (HT1y.out.below hbc hb1y)
                have HT23 := Lib.hid (HT2y.out.below hbc hb2y)
                have v0 := (hbc.cell (p := ⟨b1, o1, none⟩) hb1y).trans y0
                clear hbc y0 y1 y2 z0 z1 z2
                cases hok : fOk (x1 * d2 + x2 * d1) (d1 * d2) with
                | false =>
                  have HBad := Lib.hid (HM.out.bad HG1.out HG2.out HLs.out rfl hok)
                  obtain rfl : C = 3 := by rw [← HC.out]; exact (low_no hok).2.2
                  clear hok g0 g1 v0
                  go_wp2
                  go_ret2
                  exact TermsPost.no HBad.out HB3.out
                | true =>
                  have HEq := HM.out.eq HG1.out HG2.out HLs.out rfl hok
                  have HFs := fOk_isF hok
                  simp only [sumT, sumN, sumD, HN.out, HD.out] at HEq
                  rw [HN.out, HD.out] at HFs
                  obtain rfl : C = 0 := by rw [← HC.out]; exact (low_yes hok).2.2
                  have HEq := Lib.hid HEq
                  have HFs := Lib.hid HFs
                  clear hok
                  have hI1c : (1 : Int) ≤ (k1 : Int) := by omega
                  have hI2c : (1 : Int) ≤ (k2 : Int) := by omega
                  cases hz0 : (N == 0 && D == 1) with
                  | true =>
                    have HE2 := Lib.hid (show MergeAt ts ys acc (i + 1) (j + 1) from by have h := HEq.out; rw [if_pos (by have := zero_yes hz0; simpa using this)] at h; simpa using h)
                    have HZ0 := Lib.hid hz0
                    clear hz0
                    go_wp2_with fail
                    refine (isZero_c N D _).mono ?_
                    rw [HZ0.out]
                    rintro e w4 ⟨rfl, hb4⟩
                    have hz4 := hb4.size
                    have HB4 := Lib.hid (HB3.out.trans (hb4.mono (by omega)))
                    have HO4 := Lib.hid (HO3.out.below hb4 (fun g h => (HO3.out.lt g h).2))
                    have HT14 := Lib.hid (HT13.out.below hb4 (by omega))
                    have HT24 := Lib.hid (HT23.out.below hb4 (by omega))
                    clear hb4 g0 g1 v0
                    go_wp2_with fail
                    go_quiet (fail)
                    go_wp2
                    refine ⟨AddRel.drewN ⟨i + 1, j + 1, acc, av, lv, cv, HE2.out, RestS.next (b := b1) (o := o1) (n := n1) (k := k1) (by omega) HN1.out hk1 hb1 HT14.out _ _ (fun h => if_neg h) rfl, RestS.next (b := b2) (o := o2) (n := n2) (k := k2) (by omega) HN2.out hk2 hb2 HT24.out _ _ (fun h => if_neg h) rfl, rfl, HL.out, HO4.out, HB4.out⟩, by simp only [addLeft]; omega⟩
                  | false =>
                    have HE2 := Lib.hid (show MergeAt ts ys (acc ++ [⟨s1, N, D⟩]) (i + 1) (j + 1) from by have h := HEq.out; rw [if_neg (by have := zero_no HFs.out hz0; simpa using this)] at h; exact h)
                    have HZ0 := Lib.hid hz0
                    clear hz0
                    go_wp2_with fail
                    refine (isZero_c N D _).mono ?_
                    rw [HZ0.out]
                    rintro e w4 ⟨rfl, hb4⟩
                    have hz4 := hb4.size
                    have HB4 := Lib.hid (HB3.out.trans (hb4.mono (by omega)))
                    have HO4 := Lib.hid (HO3.out.below hb4 (fun g h => (HO3.out.lt g h).2))
                    have HT14 := Lib.hid (HT13.out.below hb4 (by omega))
                    have HT24 := Lib.hid (HT23.out.below hb4 (by omega))
                    have t0 := (hb4.cell (p := ⟨b1, o1, none⟩) (by show b1 < _; omega)).trans v0
                    have t1 := (hb4.cell (p := ⟨g, 0, none⟩) hg2).trans g0
                    have t2 := (hb4.cell (p := ⟨g, 1, none⟩) hg2).trans g1
                    clear hb4 g0 g1 v0
                    go_upto_region 12 with fail
                    go_region_law
                      ((refine step_append_lies _ (by rfl) _ _ _ (by rfl) w.heap.size 60 i0 _ 3 32 Try.underlying26 hi0 hi1 hi2 hi3 rfl (by omega) (.slice av lv cv) lv (cellsT acc) (by rfl) (by have h := HO4.out; unfold OwnT at h; rw [← HL.out] at h; exact (h.alloc _).drew)
                          ⟨w4.heap.size, 0, none⟩ 1 1 [.string s1, .int .i64 N, .int .i64 D] (by rfl) (by rfl) (World.news_of_block (cs := #[.string s1, .int .i64 N, .int .i64 D]) (t := 60) (fr := (0, 0)) (heap_alloc_new w4 _)) (by simp [Value.oneCell'])
                          (by omega) (by unfold maxLen; omega) (by omega) (by simp; omega) (w4.heap.size + 1) (by simp) ?_; intro gg cg w5 hown1 hgrow hat hlt2))
                    all_goals
                      have hOs := Lib.hid (fun (A1 A2 : Option Addr) (hA1 : ¬ k1 = 1 → A1 = some ⟨b1, o1 + 3, none⟩) (hA2 : ¬ k2 = 1 → A2 = some ⟨b2, o2 + 3, none⟩) => AddRel.put (ts := ts) (ys := ys) (w := w) ⟨s1, N, D⟩ HE2.out (RestS.next (b := b1) (o := o1) (n := n1) (k := k1) (by omega) HN1.out hk1 hb1 HT14.out A1 _ hA1 rfl) (RestS.next (b := b2) (o := o2) (n := n2) (k := k2) (by omega) HN2.out hk2 hb2 HT24.out A2 _ hA2 rfl) HL.out HO4.out HB4.out hown1 hgrow)
                      clear hown1 hgrow hat t0 t1 t2
                      go_wp2_with fail
                      go_quiet (fail)
                      go_wp2
                      exact ⟨AddRel.drewN (hOs.out _ _ (fun h => if_neg h) (fun h => if_neg h)), by simp only [addLeft]; omega⟩
      · obtain ⟨A2, k2, rfl, hd2⟩ := HY.out.end_ hj
        have HD := Lib.hid (HM.out.done (.inr (by omega)))
        have HDr := Lib.hid hd2
        have HN2 := Lib.hid (show RowB wr.heap.size wr A2 [] from .inl rfl)
        have HR1b := Lib.hid (show RowB wr.heap.size wr (some ⟨b1, o1, none⟩) (ts.drop i) from .inr ⟨b1, o1, rfl, by omega, HT1.out⟩)
        have hl1x : n1 = (ts.drop i).length := by rw [List.length_drop]; exact HN1.out
        have hN1n := HN1.out
        obtain ⟨aw, cw, hev, hcl, hNw⟩ := HO.out.newRow
        injection hev with e1 e2 e3
        have HNw := Lib.hid (show NewRow w.heap.size wr.heap.size wr av acc from by rw [e1]; exact hNw)
        have HL1x := Lib.hid hl1x
        clear hd2 hl1x hN1n e1 e2 e3 hNw p0 p1 p2
        go_wp2_with fail
        refine (concat3_c acc (ts.drop i) [] av (some ⟨b1, o1, none⟩) A2 lv n1 0 cv k1 k2 wr.heap.size _ HL.out HL1x.out rfl (by have := HN1.out; omega) (by simp) (by go_simp) (by go_simp) (by go_simp) ((HNw.out.rowB.below (below1 wr _) (Nat.le_refl _)).mono (by simp)) ((HR1b.out.below (below1 wr _) (Nat.le_refl _)).mono (by simp)) ((HN2.out.below (below1 wr _) (Nat.le_refl _)).mono (by simp))).mono ?_
        rintro e w9 ⟨a9, c9, rfl, hb9, hN9⟩
        have HB9 := Lib.hid (HB.out.trans ((below1 wr _).mono hz |>.trans (hb9.mono (by simp; omega))))
        have HN9 := Lib.hid (hN9.mono (show w.heap.size ≤ _ by simp; omega) (Nat.le_refl _))
        clear hb9 hN9
        go_wp2
        go_ret2
        exact TermsPost.ok (r := mergeL ts ys) (by rw [HD.out, HDr.out]) (by simp) HB9.out HN9.out
    · obtain ⟨A1, k1, rfl, hd1⟩ := HX.out.end_ hi
      obtain ⟨A2, n2, k2, hv2, hj2, hn2, hk2, hr2⟩ := HY.out
      subst hv2
      have HD := Lib.hid (HM.out.done (.inl (by omega)))
      have HDr := Lib.hid hd1
      have HR1b := Lib.hid (show RowB wr.heap.size wr A1 [] from .inl rfl)
      have HR2b := Lib.hid (hr2.mono hz)
      have HL2x := Lib.hid (show n2 = (ys.drop j).length from by rw [List.length_drop]; exact hn2)
      obtain ⟨aw, cw, hev, hcl, hNw⟩ := HO.out.newRow
      injection hev with e1 e2 e3
      have HNw := Lib.hid (show NewRow w.heap.size wr.heap.size wr av acc from by rw [e1]; exact hNw)
      have hn2b : n2 ≤ 1048576 := by omega
      clear hd1 hr2 hn2 e1 e2 e3 hNw
      go_wp2_with fail
      refine (concat3_c acc [] (ys.drop j) av A1 A2 lv 0 n2 cv k1 k2 wr.heap.size _ HL.out rfl HL2x.out (by omega) (by simp) (by go_simp) (by go_simp) (by go_simp) ((HNw.out.rowB.below (below1 wr _) (Nat.le_refl _)).mono (by simp)) ((HR1b.out.below (below1 wr _) (Nat.le_refl _)).mono (by simp)) ((HR2b.out.below (below1 wr _) (Nat.le_refl _)).mono (by simp))).mono ?_
      rintro e w9 ⟨a9, c9, rfl, hb9, hN9⟩
      have HB9 := Lib.hid (HB.out.trans ((below1 wr _).mono hz |>.trans (hb9.mono (by simp; omega))))
      have HN9 := Lib.hid (hN9.mono (show w.heap.size ≤ _ by simp; omega) (Nat.le_refl _))
      clear hb9 hN9
      go_wp2
      go_ret2
      exact TermsPost.ok (r := mergeL ts ys) (by rw [HD.out, HDr.out]) (by simp) HB9.out HN9.out
end Go.Proofs.Ytbhbcjaaomdlaaa
