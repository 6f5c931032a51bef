/-
  The part of a length, of the model: the terms that are kept one by one.
-/
import Derived.Test.YtdnojljhcpcheaaTol
import Derived.Test.YtdnojljhcpcheaaNew
import Derived.Test.YtdnojljhcpcheaaOwn
import Derived.WalkSpells
import Derived.StillTactics
import Derived.StillTailTactics
import Derived.OwnWalk
import Derived.Laws.Pointers
namespace Go.Proofs.Ytdnojljhcpcheaa
open Go.RowKit

def Blk (w : World) (g : Nat) (t : TypeId) (cs : Array Value) : Prop := w.heap[g]? = some (.cells cs t (0, 0))
section
variable {w w' : World} {g : Nat} {t : TypeId} {cs : Array Value}
theorem Blk.lt (h : Blk w g t cs) : g < w.heap.size := by
  rcases Nat.lt_or_ge g w.heap.size with hlt | hge
  · exact hlt
  · unfold Blk at h; rw [Array.getElem?_eq_none hge] at h; cases h
theorem Blk.cell (h : Blk w g t cs) (i : Nat) : w.cell? ⟨g, i, none⟩ = cs[i]? := cell_of_row w g i cs t (0, 0) h
theorem Blk.frozen (h : Blk w g t cs) (i : Nat) : w.frozen? ⟨g, i, none⟩ = false := by
  unfold Blk at h
  simp [World.frozen?, h]
theorem Blk.new (w : World) (t : TypeId) (cs : Array Value) : Blk (w.alloc (.cells cs t)) w.heap.size t cs := heap_alloc_new w _
theorem Blk.alloc (h : Blk w g t cs) (o : Obj) : Blk (w.alloc o) g t cs := (Below.heap_alloc w o g h.lt).trans h
theorem Blk.set_ (h : Blk w g t cs) (i : Nat) (u : Value) : Blk (w.setCell ⟨g, i, none⟩ u) g t (cs.setIfInBounds i u) := by
  unfold Blk at h ⊢
  simp [World.setCell, Array.getElem?_modify, h]
theorem Blk.far (h : Blk w g t cs) {p : Addr} (hp : g ≠ p.block) (u : Value) : Blk (w.setCell p u) g t cs := (Below.heap_setCell w p u g hp).trans h
theorem Blk.below {B : Nat} (h : Blk w g t cs) (hb : Below B w w') (hg : g < B) : Blk w' g t cs := (hb.block g hg).trans h
theorem Blk.grown {row : Option Nat} (h : Blk w g t cs) (hb : w.grownBy w' row) (hg : some g ≠ row) : Blk w' g t cs := (hb.block g h.lt hg).trans h
end

theorem OwnT.emptyRow {w : World} {base g : Nat} (h : Blk w g 66 #[]) (hb : base ≤ g) : OwnT w base (.slice (some ⟨g, 0, none⟩) 0 0) [] :=
  ⟨rfl, .inr ⟨g, 0, #[], rfl, hb, h, Nat.le_refl _, Nat.zero_le _, rfl, rfl⟩⟩

theorem OwnT.mono {w : World} {base base' : Nat} {v : Value} {ts : List Tm} (h : OwnT w base v ts) (hb : base' ≤ base) : OwnT w base' v ts := by
  rcases h with ⟨hl, h | ⟨g, cap, cur, rfl, hbg, rest⟩⟩
  · exact ⟨hl, .inl h⟩
  · exact ⟨hl, .inr ⟨g, cap, cur, rfl, Nat.le_trans hb hbg, rest⟩⟩

def EmptyPost (L V : Int) (W : World) (e : Ending) (w' : World) : Prop :=
  ∃ g, e = .returned (.agg #[.int .i64 L, .int .i64 V, .slice (some ⟨g, 0, none⟩) 0 0]) ∧ OwnT w' W.heap.size (.slice (some ⟨g, 0, none⟩) 0 0) [] ∧ Below W.heap.size W w'
theorem l01Empty_c (L V : Int) (v : Value) (hv : v.oneCell' = true) (w : World) :
    Calls Try.prog 50 #[.agg #[.int .i64 L, .int .i64 V, v]] w (EmptyPost L V w) := by
  go_enter Try.func50, Try.ntmps50
  go_wp2
  refine bodyPost_ret (v := .agg #[.int .i64 L, .int .i64 V, .slice (some ⟨w.heap.size + 1 + 1, 0, none⟩) 0 0]) (by simp [results, Try.results50, go_sem]) rfl ⟨_, rfl, ?_, ?_⟩
  · exact OwnT.emptyRow (by have h := Blk.new ((w.alloc (.cells #[.int .i64 L, .int .i64 V, v] 28)).alloc (.cells #[.int .i64 L, .int .i64 V, .slice (some ⟨w.heap.size + 1 + 1, 0, none⟩) 0 0] 28)) 66 #[]; simpa using h) (by omega)
  · exact below3 _ _ _ _

/-- what a function that returns a series alone comes to -/
def SerOnly (L V : Int) (ts : List Tm) (W : World) (e : Ending) (w' : World) : Prop :=
  ∃ (a : Option Addr) (cap : Nat), e = .returned (.agg #[.int .i64 L, .int .i64 V, .slice a ts.length cap]) ∧ Below W.heap.size W w' ∧ NewRow W.heap.size w'.heap.size w' a ts

theorem filter_snoc {p : Tm → Bool} {ts : List Tm} {k : Nat} (hk : k < ts.length) : (ts.take (k + 1)).filter p = (ts.take k).filter p ++ (if p ts[k] then [ts[k]] else []) := by
  rw [List.take_succ_eq_append_getElem hk, List.filter_append]
  congr 1
  by_cases h : p ts[k] = true <;> simp [h]
theorem filter_le {p : Tm → Bool} {ts : List Tm} {k : Nat} : ((ts.take k).filter p).length ≤ ts.length :=
  Nat.le_trans (List.length_filter_le _ _) (by rw [List.length_take]; omega)

theorem own_far {w : World} {base n : Nat} {v : Value} {ts : List Tm} (h : OwnT w base v ts) (hn : n < base) : v.ownBlock ≠ some n := fun e => by
  have := (h.lt n e).1
  omega

theorem frozen_alloc_lt {w : World} (o : Obj) {n i : Nat} (h : n < w.heap.size) : (w.alloc o).drew.frozen? ⟨n, i, none⟩ = w.frozen? ⟨n, i, none⟩ := (below1 w o).frozen (p := ⟨n, i, none⟩) h

/-- where such a loop stands: so many rounds are done, and what they have kept is owned by the value in the variable's third cell -/
def AccRel (F : Nat → List Tm) (m B n : Nat) (x y : Value) (W : World) (vi : Value) (wr : World) : Prop :=
  ∃ (k : Nat) (a : Option Addr) (l c : Nat), k ≤ m ∧ vi = .int .i64 k ∧ l = (F k).length ∧ OwnT wr B (.slice a l c) (F k) ∧ (Value.slice a l c).ownBlock ≠ some n ∧ Blk wr n 28 #[x, y, .slice a l c] ∧ Below B W wr
theorem AccRel.step {F : Nat → List Tm} {m B n : Nat} {x y : Value} {W wr w2 : World} {k lv cv gg cg : Nat} {av : Option Addr} (t : Tm) (hk : k + 1 ≤ m) (hF : F (k + 1) = F k ++ [t])
    (hl : lv = (F k).length) (hO : OwnT wr B (.slice av lv cv) (F k)) (hn : (Value.slice av lv cv).ownBlock ≠ some n) (hBl : Blk wr n 28 #[x, y, .slice av lv cv]) (hB : Below B W wr) (hnB : B ≤ n) (hBw : B ≤ wr.heap.size)
    (hown : w2.ownsRow B 66 3 (.slice (some ⟨gg, 0, none⟩) (lv + 1) cg) (lv + 1) (cellsT (F k) ++ [.string t.s, .int .i64 t.n, .int .i64 t.d]))
    (hgrow : ((wr.alloc (.cells #[.string t.s, .int .i64 t.n, .int .i64 t.d] 66)).drew).grownBy w2 (Value.slice av lv cv).ownBlock) (hat : (Value.slice av lv cv).ownBlock = some gg ∨ gg = wr.heap.size + 1) :
    AccRel F m B n x y W (.int .i64 ((k : Int) + 1)) (w2.setCell ⟨n, 2, none⟩ (.slice (some ⟨gg, 0, none⟩) (lv + 1) cg)) := by
  have hlt := hBl.lt
  have hne : gg ≠ n := by
    rcases hat with h | h
    · intro e; rw [h, e] at hn; exact hn rfl
    · omega
  have hl2 : lv + 1 = (F (k + 1)).length := by rw [hF, hl]; simp
  refine ⟨k + 1, some ⟨gg, 0, none⟩, lv + 1, cg, hk, by go_num, hl2, ?_, ?_, ?_, ?_⟩
  · refine OwnT.far ?_ (fun e => hne (by simpa [Value.ownBlock] using e)) _
    unfold OwnT
    rw [← hl2, hF, cellsT_append]
    exact hown
  · intro e; exact hne (by simpa [Value.ownBlock] using e)
  · have h1 : Blk (wr.alloc (.cells #[.string t.s, .int .i64 t.n, .int .i64 t.d] 66)).drew n 28 #[x, y, .slice av lv cv] := hBl.alloc _
    exact (h1.grown hgrow (Ne.symm hn)).set_ 2 _
  · have h1 : Below B W (wr.alloc (.cells #[.string t.s, .int .i64 t.n, .int .i64 t.d] 66)).drew := by
      have h := hB.alloc hBw (.cells #[.string t.s, .int .i64 t.n, .int .i64 t.d] 66)
      exact ⟨h.os, h.tape, h.output, h.size, h.block⟩
    exact (h1.trans (below_of_grown hgrow (fun g h => (hO.lt g h).1) (by simp; omega))).setCell (p := ⟨n, 2, none⟩) hnB _
theorem AccRel.skip {F : Nat → List Tm} {m B n : Nat} {x y : Value} {W wr : World} {k lv cv : Nat} {av : Option Addr} (hk : k + 1 ≤ m) (hF : F (k + 1) = F k)
    (hl : lv = (F k).length) (hO : OwnT wr B (.slice av lv cv) (F k)) (hn : (Value.slice av lv cv).ownBlock ≠ some n) (hBl : Blk wr n 28 #[x, y, .slice av lv cv]) (hB : Below B W wr) :
    AccRel F m B n x y W (.int .i64 ((k : Int) + 1)) wr :=
  ⟨k + 1, av, lv, cv, hk, by go_num, by rw [hF]; exact hl, by rw [hF]; exact hO, hn, hBl, hB⟩

set_option maxRecDepth 100000 in
set_option maxHeartbeats 4000000 in
theorem l01Part_c (L V m : Int) (b off cap : Nat) (ts : List Tm) (hl : ts.length ≤ 1048576) (hs : ∀ i (h : i < ts.length), (ts[i]).s.size ≤ maxLen) (w : World) (hb : b < w.heap.size) (ht : TermsIn w b off ts) :
    Calls Try.prog 46 #[.agg #[.int .i64 L, .int .i64 V, .slice (some ⟨b, off, none⟩) ts.length cap], .int .i64 m] w (SerOnly L V (partL m ts) w) := by
  obtain ⟨i0, hi0, hi1, hi2, hi3⟩ := info_parts info_term
  have HT := Lib.hid ht
  have HS := Lib.hid hs
  clear ht hs
  go_enter Try.func46, Try.ntmps46
  go_wp2_with fail
  refine (l01Empty_c L V _ rfl _).mono ?_
  rintro e w1 ⟨g1, rfl, hO, hb1⟩
  have hz1 : w.heap.size + 1 < w1.heap.size := by have := hb1.size; simp at this; omega
  have HO := Lib.hid (show OwnT w1 (w.heap.size + 1 + 1) (.slice (some ⟨g1, 0, none⟩) 0 0) [] from by simpa using hO)
  have HB := Lib.hid (show Below (w.heap.size + 1 + 1) _ w1 from by simpa using hb1)
  clear hb1 hO
  go_wp2_with fail
  go_loopw [6] (AccRel (fun k => (ts.take k).filter fun t => decide ((t.s.size : Int) = m)) ts.length (w.heap.size + 1 + 1) w1.heap.size (.int .i64 L) (.int .i64 V) ((w.alloc (.cells #[.int .i64 L, .int .i64 V, .slice (some ⟨b, off, none⟩) ts.length cap] 28)).alloc (.cells #[.int .i64 0, .int .i64 0, .slice none 0 0] 28))) (fun vi _ => ts.length - (intOf vi).toNat)
  case atStart =>
    exact ⟨0, _, 0, 0, Nat.zero_le _, rfl, rfl, by simpa using HO.out.alloc _, fun e => by have := (HO.out.lt _ e).2; omega, Blk.new _ _ _, HB.out.alloc (by omega) _⟩
  case round =>
    obtain ⟨k, av, lv, cv, hk, rfl, hlv, hOk, hnv, hBl, hB⟩ := hrel
    have HLv := Lib.hid hlv
    clear hlv
    have HOk := Lib.hid hOk
    have HBl := Lib.hid hBl
    have HBk := Lib.hid hB
    have HNv := Lib.hid hnv
    have hzn := hBl.lt
    have hzr := hB.size
    simp only [World.size_alloc] at hzr
    have hz0 : w.heap.size < wr.heap.size := by omega
    have bc := bcellB hB
    have x2 : wr.cell? ⟨w.heap.size, 2, none⟩ = some (.slice (some ⟨b, off, none⟩) ts.length cap) := (bc.1 _ _ (by omega)).trans (by go_simp)
    clear hOk hBl hB hnv bc
    by_cases hlt : k < ts.length
    · have HFS := Lib.hid (filter_snoc (p := fun t => decide ((t.s.size : Int) = m)) hlt)
      have HFL := Lib.hid (filter_le (p := fun t => decide ((t.s.size : Int) = m)) (ts := ts) (k := k))
      obtain ⟨c0, c1, c2⟩ := HT.out.below ((below2 w _ _).trans (HBk.out.mono (by omega))) hb k hlt
      have hsz := HS.out k hlt
      obtain ⟨s, n, d, het⟩ : ∃ s n d, ts[k] = ⟨s, n, d⟩ := ⟨_, _, _, rfl⟩
      rw [het] at c0 c1 c2 hsz HFS
      simp only at c0 c1 c2 hsz HFS
      clear het
      unfold maxLen at hsz
      by_cases hq : (s.size : Int) = m
      · have hq1 : decide ((s.size : Int) = m) = true := by simpa using hq
        have hq2 : ((s.size : Int) == m) = true := by simpa using hq
        rw [hq1, if_pos rfl] at HFS
        clear hq hq1
        go_wp2_with fail
        have n2 : wr.cell? ⟨w1.heap.size, 2, none⟩ = some (.slice av lv cv) := HBl.out.cell 2
        have nf : wr.frozen? ⟨w1.heap.size, 2, none⟩ = false := HBl.out.frozen 2
        have e0 := Ne.symm (own_far HOk.out (n := w.heap.size) (by omega))
        have e1 := Ne.symm (own_far HOk.out (n := b) (by omega))
        have e2 := Ne.symm HNv.out
        have nf2 : (wr.alloc (.cells #[.string s, .int .i64 n, .int .i64 d] 66)).drew.frozen? ⟨w1.heap.size, 2, none⟩ = false := (frozen_alloc_lt _ hzn).trans nf
        have nc2 : (wr.alloc (.cells #[.string s, .int .i64 n, .int .i64 d] 66)).drew.cell? ⟨w1.heap.size, 2, none⟩ = some (.slice av lv cv) := ((below1 wr _).cell (p := ⟨w1.heap.size, 2, none⟩) hzn).trans n2
        have hkI : (0 : Int) ≤ (k : Int) := by omega
        have hkL : (k : Int) < (ts.length : Int) := by omega
        go_region_law
          ((refine step_append_lies _ (by rfl) _ _ _ (by rfl) (w.heap.size + 1 + 1) 66 i0 _ 3 32 Try.underlying26 hi0 hi1 hi2 hi3 rfl (by omega) (.slice av lv cv) lv (cellsT ((ts.take k).filter fun t => decide ((t.s.size : Int) = m))) (by rfl) (by have h := HOk.out; unfold OwnT at h; rw [← HLv.out] at h; exact (h.alloc _).drew)
              ⟨wr.heap.size, 0, none⟩ 1 1 [.string s, .int .i64 n, .int .i64 d] (by rfl) (by rfl) (World.news_of_block (cs := #[.string s, .int .i64 n, .int .i64 d]) (t := 66) (fr := (0, 0)) (heap_alloc_new wr _)) (by simp [Value.oneCell'])
              (by omega) (by have := HFL.out; rw [← HLv.out] at this; unfold maxLen; omega) (by have := HFL.out; rw [← HLv.out] at this; omega) (by simp; omega) (wr.heap.size + 1) (by simp) ?_; intro gg cg w2 hown1 hgrow hat hlt2; have q0 := (hgrow.cell_far ⟨w1.heap.size, 2, none⟩ (by simp; omega) e2).trans nc2; have q1 := (hgrow.frozen_far ⟨w1.heap.size, 2, none⟩ (by simp; omega) e2).trans nf2))
        all_goals
          have hOs := Lib.hid (AccRel.step (F := fun k => (ts.take k).filter fun t => decide ((t.s.size : Int) = m)) (m := ts.length) (x := .int .i64 L) (y := .int .i64 V) ⟨s, n, d⟩ (by omega) HFS.out HLv.out HOk.out HNv.out HBl.out HBk.out (by omega) (by omega) hown1 hgrow hat)
          clear hown1 hgrow hat
          go_wp2
          go_roundw
          case rel => exact hOs.out
          case measure => simp [intOf]; omega
      · have hq1 : decide ((s.size : Int) = m) = false := by simpa using hq
        have hq2 : ((s.size : Int) == m) = false := by simpa using hq
        rw [hq1] at HFS
        have HFS2 := Lib.hid (show (fun k => (ts.take k).filter fun t => decide ((t.s.size : Int) = m)) (k + 1) = (ts.take k).filter fun t => decide ((t.s.size : Int) = m) from by have h := HFS.out; simpa using h)
        clear hq hq1
        go_wp2
        go_roundw
        case rel => exact AccRel.skip (F := fun k => (ts.take k).filter fun t => decide ((t.s.size : Int) = m)) (by omega) HFS2.out HLv.out HOk.out HNv.out HBl.out HBk.out
        case measure => simp [intOf]; omega
    · obtain rfl : k = ts.length := by omega
      have n0 : wr.cell? ⟨w1.heap.size, 0, none⟩ = some (.int .i64 L) := HBl.out.cell 0
      have n1 : wr.cell? ⟨w1.heap.size, 1, none⟩ = some (.int .i64 V) := HBl.out.cell 1
      have n2 : wr.cell? ⟨w1.heap.size, 2, none⟩ = some (.slice av lv cv) := HBl.out.cell 2
      have bc := bcellB HBk.out
      have r0 : wr.cell? ⟨w.heap.size + 1, 0, none⟩ = some (.int .i64 0) := (bc.1 _ _ (by omega)).trans (by go_simp)
      have r1 : wr.cell? ⟨w.heap.size + 1, 1, none⟩ = some (.int .i64 0) := (bc.1 _ _ (by omega)).trans (by go_simp)
      have r2 : wr.cell? ⟨w.heap.size + 1, 2, none⟩ = some (.slice none 0 0) := (bc.1 _ _ (by omega)).trans (by go_simp)
      have z0 : wr.frozen? ⟨w.heap.size + 1, 0, none⟩ = false := (bc.2 _ _ (by omega)).trans (by go_simp)
      have z1 : wr.frozen? ⟨w.heap.size + 1, 1, none⟩ = false := (bc.2 _ _ (by omega)).trans (by go_simp)
      have z2 : wr.frozen? ⟨w.heap.size + 1, 2, none⟩ = false := (bc.2 _ _ (by omega)).trans (by go_simp)
      have hE : (ts.take ts.length).filter (fun t => decide ((t.s.size : Int) = m)) = partL m ts := by rw [List.take_length]; rfl
      have HO2 := Lib.hid (show OwnT wr (w.heap.size + 1 + 1) (.slice av lv cv) (partL m ts) from by rw [← hE]; exact HOk.out)
      have HL2 := Lib.hid (show lv = (partL m ts).length from by rw [← hE]; exact HLv.out)
      have HW := Lib.hid ((below2 w _ _).trans (HBk.out.mono (by omega)))
      clear bc hE
      go_wp2
      have hO3 := ((HO2.out.far (p := ⟨w.heap.size + 1, 0, none⟩) (own_far HO2.out (n := w.heap.size + 1) (by omega)) (.int .i64 L)).far (p := ⟨w.heap.size + 1, 1, none⟩) (own_far HO2.out (n := w.heap.size + 1) (by omega)) (.int .i64 V)).far (p := ⟨w.heap.size + 1, 2, none⟩) (own_far HO2.out (n := w.heap.size + 1) (by omega)) (.slice av lv cv)
      obtain ⟨a', c', he, hle, hN⟩ := hO3.newRow
      injection he with e1 e2 e3
      subst e1 e3
      refine bodyPost_ret (v := .agg #[.int .i64 L, .int .i64 V, .slice av (partL m ts).length cv]) (by rw [← HL2.out]; simp [results, Try.results46, go_sem, r0, r1, r2]) rfl ⟨av, cv, rfl, ?_, hN.mono (by omega) (Nat.le_refl _)⟩
      have := HW.out
      go_grown
end Go.Proofs.Ytdnojljhcpcheaa
