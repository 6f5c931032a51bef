/-
  The model's l08Value: the value of a series at tables.
-/
import Derived.Test.YtknigggjnjkhbaaFmV
import Derived.Test.YtknigggjnjkhbaaFrQ
namespace Go.Proofs.Ytknigggjnjkhbaa
open Go.RowKit
set_option linter.unusedVariables false
set_option linter.unusedSimpArgs false

def hdsG (n : Nat) (G C : Nat → Nat) (i : Nat) : List Hd := (List.range i).map fun k => ⟨some ⟨G k, 0, none⟩, n, C k⟩
theorem hdsG_length (n : Nat) (G C : Nat → Nat) (i : Nat) : (hdsG n G C i).length = i := by simp [hdsG]
/-- a row that has the fraction 0 everywhere -/
def ZeroR (w : World) (g n : Nat) : Prop := Made w g (n * 2) ∧ FrsInq w g 0 (List.replicate n (0, 1))
/-- rows of noughts so far, the headers owned, each row apart -/
def OwnFP (w : World) (B : Nat) (v : Value) (n i : Nat) (G C : Nat → Nat) : Prop :=
  OwnHF w B v (hdsG n G C i) ∧ (∀ k, k < i → B ≤ G k ∧ G k < w.heap.size ∧ v.ownBlock ≠ some (G k) ∧ ZeroR w (G k) n) ∧ ∀ k k', k < k' → k' < i → G k ≠ G k'
theorem ZeroR.below {w w' : World} {B g n : Nat} (h : ZeroR w g n) (hb : Below B w w') (hg : g < B) : ZeroR w' g n := ⟨h.1.below hb hg, h.2.below hb hg⟩
theorem ZeroR.grown {w w' : World} {g n : Nat} {r : Option Nat} (h : ZeroR w g n) (hg : w.grownBy w' r) (hne : r ≠ some g) : ZeroR w' g n :=
  ⟨h.1.grown hg (fun e => hne e.symm), fun i hi => ⟨(World.cell?_of_block (a := ⟨g, _, none⟩) (hg.block g h.1.1 (fun e => hne e.symm))).trans (h.2 i hi).1, (World.cell?_of_block (a := ⟨g, _, none⟩) (hg.block g h.1.1 (fun e => hne e.symm))).trans (h.2 i hi).2⟩⟩
theorem OwnFP.snoc {w0 w1 w9 : World} {B n i g c : Nat} {v v9 : Value} {G C : Nat → Nat} (T : OwnFP w0 B v n i G C) (hB : B ≤ w0.heap.size) (hb : Below w0.heap.size w0 w1) (h1 : w0.heap.size ≤ g) (h2 : g < w1.heap.size) (hz : ZeroR w1 g n) (o : Obj)
    (hO : OwnHF w9 B v9 (hdsG n G C i ++ [⟨some ⟨g, 0, none⟩, n, c⟩])) (hg : (w1.alloc o).grownBy w9 v.ownBlock) (hv : v9.ownBlock = v.ownBlock ∨ v9.ownBlock = some (w1.alloc o).heap.size) :
    ∃ G' C', OwnFP w9 B v9 n (i + 1) G' C' := by
  obtain ⟨t1, t2, t3⟩ := T
  have hown := t1.lt
  have hz01 := hb.size
  have hvz : ∀ q, q < w1.heap.size → v.ownBlock ≠ some q → v9.ownBlock ≠ some q := fun q hq hn e => by
    rcases hv with h | h
    · rw [h] at e; exact hn e
    · rw [h] at e; injection e with e; simp at e; omega
  have hsz : w1.heap.size ≤ w9.heap.size := by have := hg.size; simp at this; omega
  have hvg : v.ownBlock ≠ some g := fun e => by have := (hown g e).2; omega
  refine ⟨fun k => if k = i then g else G k, fun k => if k = i then c else C k, ?_, fun k hk => ?_, fun k k' hk hk' => ?_⟩
  · have e : hdsG n (fun k => if k = i then g else G k) (fun k => if k = i then c else C k) (i + 1) = hdsG n G C i ++ [⟨some ⟨g, 0, none⟩, n, c⟩] := by
      unfold hdsG
      rw [List.range_succ, List.map_append]
      congr 1
      · refine List.map_congr_left fun k hk => ?_
        have := List.mem_range.1 hk
        simp only [if_neg (show ¬ k = i by omega)]
      · simp
    rw [e]
    exact hO
  · by_cases e : k = i
    · subst e
      simp only [if_true]
      exact ⟨by omega, by omega, hvz g h2 hvg, (hz.below (below1 w1 o) h2).grown hg hvg⟩
    · simp only [if_neg e]
      obtain ⟨q1, q2, q3, q4⟩ := t2 k (by omega)
      exact ⟨q1, by omega, hvz _ (by omega) q3, ((q4.below hb q2).below (below1 w1 o) (by omega)).grown hg q3⟩
  · by_cases e' : k' = i
    · subst e'
      simp only [if_true, if_neg (show ¬ k = k' by omega)]
      have := (t2 k (by omega)).2.1
      omega
    · simp only [if_neg e', if_neg (show ¬ k = i by omega)]
      exact t3 k k' hk (by omega)
theorem OwnFP.fm {w : World} {B n c : Nat} {a : Option Addr} {G C : Nat → Nat} (hn : 1 ≤ n) (T : OwnFP w B (.slice a n c) n n G C) : ∃ Y : Lay, a = some ⟨Y.h, 0, none⟩ ∧ FM w B w.heap.size n Y zeroQ := by
  obtain ⟨t1, t2, t3⟩ := T
  obtain ⟨e1, hN⟩ := t1.at_
  rcases hN with h0 | ⟨h, rfl, hh1, hh2, hMh, hIn⟩
  · have := hdsG_length n G C n
    rw [h0] at this
    simp at this
    omega
  · refine ⟨⟨h, G, fun _ => 0, C⟩, rfl, hh1, hh2, Nat.le_refl _, ⟨fun i hi e => ?_, fun i j p q hi hj hp hq hne e e' f he hf hh => ?_⟩, fun i hi => ⟨(t2 i hi).1, (t2 i hi).2.1, ?_⟩, fun i j hi hj => ?_⟩
    · exact (t2 i hi).2.2.1 (by show some h = some (G i); rw [show G i = h from e])
    · have ep : p = i := by
        rcases Nat.lt_trichotomy p i with h | h | h
        · exact absurd e (t3 p i h hi)
        · exact h
        · exact absurd e.symm (t3 i p h hp)
      subst ep
      have : q = j := by simp only at hh; omega
      exact hne ⟨rfl, this⟩
    · have hq := hIn i (by rw [hdsG_length]; exact hi)
      rw [Nat.zero_add] at hq
      simpa [hdsG] using hq
    · obtain ⟨_, _, _, hM, hF⟩ := t2 i hi
      obtain ⟨c0, c1⟩ := hF j (by simpa using hj)
      simp only [List.getElem_replicate] at c0 c1
      exact ⟨c0, c1, (hM.2 (0 + j * 2) (by omega)).2, (hM.2 (0 + j * 2 + 1) (by omega)).2⟩
theorem frac_bd (p q : Int) : (fN p q).natAbs ≤ 1000000000 ∧ (fD p q).natAbs ≤ 1000000000 := by
  cases h : fOk p q with
  | true => have h1 := isF_abs (fOk_isFp h); exact ⟨h1.1, h1.2.1⟩
  | false => have h1 := low_no h; rw [h1.1, h1.2.1]; decide
/-- what the model's value of a series comes to -/
def SValPost (n : Nat) (o : Option QF) (W : World) (e : Ending) (w' : World) : Prop :=
  match o with
  | none => e = .returned (.tuple #[.slice none 0 0, .bool false]) ∧ Below W.heap.size W w'
  | some F => ∃ (Y : Lay) (c : Nat), e = .returned (.tuple #[.slice (some ⟨Y.h, 0, none⟩) n c, .bool true]) ∧ Below W.heap.size W w' ∧ FM w' W.heap.size w'.heap.size n Y F

set_option maxRecDepth 100000 in
set_option maxHeartbeats 16000000 in
theorem l08Value_c (lo0 hi0 : Nat) (L V : Int) (aT : Option Addr) (cT : Nat) (ts : Tabs) (a : Option Addr) (cX : Nat) (xs : List Tm) (hlx : xs.length ≤ 1048576) (w : World) (hr : TRow lo0 hi0 w aT ts) (hh : hi0 ≤ w.heap.size) (hx : Row w a xs) (h1 : serB L V xs = true) (hT : tabsB L ts = true) :
    Calls Try.prog 25 #[.agg #[.int .i64 L, .int .i64 V, .slice a xs.length cX], .slice aT ts.length cT] w (SValPost (wid ts) (valQ (wid ts) ts xs xs.length) w) := by
  have hq := tabs_sq hT
  obtain ⟨t1, t2, _, _⟩ := tabsB_true hT
  have hb := inB_true t1
  have hl3 : ts.length ≤ 3 := by omega
  have hpos : 0 < ts.length := by omega
  obtain ⟨bT, offT, a', c', ea, hc0, hI0⟩ := hr.get (Below.refl hi0 w) (Nat.le_refl _) hpos
  have hw0 : (ts[0]).length = wid ts := by unfold wid; rw [getD_at hpos]
  rw [hw0, Nat.add_zero] at hc0
  have hn := hq.1
  have hbw : bT < w.heap.size := addr_lt hc0
  have HX := Lib.hid hx
  have HWd := Lib.hid (fun i (h : i < xs.length) => (show wordB L (xs[i]).s.data.toList = true ∧ (xs[i]).s.size ≤ 5 from ⟨(ser_wordV h1 _ (List.getElem_mem h)).1, ser_small h1 _ (List.getElem_mem h)⟩))
  have HFr := Lib.hid (fun i (h : i < xs.length) => (ser_wordV h1 _ (List.getElem_mem h)).2)
  have HPr := Lib.hid (fun (s : ByteArray) (hw : wordB L s.data.toList = true) (hz : s.size ≤ 5) W (hW : Below w.heap.size w W) => l08Product_c L lo0 hi0 aT cT ts hT s hw hz W (hr.below hW hh) (Nat.le_trans hh hW.size))
  have HAl := Lib.hid (fun s P (h : alongK (wid ts) ts s s.size = some P) => alongK_bd h)
  have HZ := Lib.hid (show valQ (wid ts) ts xs 0 = some zeroQ from rfl)
  have HNx := Lib.hid (fun k F (hk : k < xs.length) (h : valQ (wid ts) ts xs k = some F) => valQ_next hk h)
  have HDd := Lib.hid (fun k (hk : k < xs.length) (h : valQ (wid ts) ts xs (k + 1) = none) => valQ_dead h hk)
  have HGd := Lib.hid (fun k F (h : valQ (wid ts) ts xs k = some F) => GoodQ.val h)
  clear hq hI0 hw0 hx hr h1 hT t1 t2
  subst ea
  generalize wid ts = n at *
  obtain ⟨o, ho⟩ : ∃ o, valQ n ts xs xs.length = o := ⟨_, rfl⟩
  rw [ho]
  have HOut := Lib.hid ho
  clear ho
  have hn6 : (n : Int) ≤ 6 := by omega
  have c1 : (w.alloc (.cells #[.int .i64 L, .int .i64 V, .slice a xs.length cX] 33)).cell? ⟨bT, offT, none⟩ = some (.slice a' n c') := ((below1 w (.cells #[.int .i64 L, .int .i64 V, .slice a xs.length cX] 33)).cell (p := ⟨bT, offT, none⟩) hbw).trans hc0
  have HB0 := Lib.hid (below1 w (.cells #[.int .i64 L, .int .i64 V, .slice a xs.length cX] 33))
  have HSb := Lib.hid (show ∀ wq, Below (w.heap.size + 1) (w.alloc (.cells #[.int .i64 L, .int .i64 V, .slice a xs.length cX] 33)) wq → w.heap.size < wq.heap.size ∧ wq.cell? ⟨w.heap.size, 2, none⟩ = some (.slice a xs.length cX) from fun wq hg => ⟨by have := hg.size; simp at this; omega, (hg.cell (p := ⟨w.heap.size, 2, none⟩) (Nat.lt_succ_self _)).trans (by go_simp)⟩)
  go_enter Try.func25, Try.ntmps25
  go_wp2_with fail
  obtain ⟨wA, hwA⟩ : ∃ wA, w.alloc (.cells #[.int .i64 L, .int .i64 V, .slice a xs.length cX] 33) = wA := ⟨_, rfl⟩
  have hzA : wA.heap.size = w.heap.size + 1 := by rw [← hwA]; simp
  have HHe := Lib.hid (heap_alloc_new wA (.cells #[] 65))
  go_loopw [7, 8] (fun v7 v8 wr => ∃ (i : Nat) (ah : Option Addr) (l c : Nat) (G C : Nat → Nat), i ≤ n ∧ v8 = .int .i64 i ∧ v7 = .slice ah l c ∧ Hid (l = i) ∧ OwnFP wr (w.heap.size + 1) (.slice ah l c) n i G C ∧ Below (w.heap.size + 1) wA wr) (fun _ v8 _ => n - (intOf v8).toNat)
  case atStart =>
    refine ⟨0, _, 0, 0, fun _ => 0, fun _ => 0, Nat.zero_le _, rfl, rfl, Lib.hid rfl, ⟨?_, fun k hk => absurd hk (Nat.not_lt_zero _), fun _ _ _ hk => absurd hk (Nat.not_lt_zero _)⟩, ?_⟩
    · rw [hwA]
      have h := OwnHF.emptyRow (base := w.heap.size + 1) HHe.out (by omega)
      rw [hzA] at h
      simpa [hdsG] using h
    · rw [hwA]
      exact (below1 wA _).mono (by omega)
  case round =>
    rw [hwA] at HB0 HSb
    have HZA := Lib.hid hzA
    clear hwA hzA c1 HHe
    obtain ⟨i, ah, l, c, G, C, hi, rfl, rfl, hl, hO, hB⟩ := hrel
    obtain ⟨wo, rfl⟩ : ∃ wo : World, wo = wr := ⟨_, rfl⟩
    have HO := Lib.hid hO
    have HB := Lib.hid hB
    have hzo := hB.size
    have hzo2 : w.heap.size + 1 ≤ wo.heap.size := by have := HZA.out; omega
    clear hO hB
    by_cases hlt : i < n
    · have hiI : (i : Int) < (n : Int) := by omega
      have hl6 : l ≤ 6 := by have := hl.out; omega
      have HEr := Lib.hid (heap_alloc_new wo (.cells #[] 43))
      go_wp2_with fail
      go_loopw [9, 10] (fun v9 v10 wq => ∃ (j : Nat) (ar : Option Addr) (lr cr : Nat), j ≤ n ∧ v10 = .int .i64 j ∧ v9 = .slice ar lr cr ∧ Hid (lr = j) ∧ OwnRq wq wo.heap.size (.slice ar lr cr) (List.replicate j (0, 1)) ∧ Below wo.heap.size wo wq) (fun _ v10 _ => n - (intOf v10).toNat)
      case atStart => exact ⟨0, _, 0, 0, Nat.zero_le _, rfl, rfl, Lib.hid rfl, OwnRq.emptyRow HEr.out (Nat.le_refl _), below1 _ _⟩
      case round =>
        obtain ⟨j, ar, lr, cr, hj, rfl, rfl, hlr, hOr, hBr⟩ := hrel
        obtain ⟨wq, rfl⟩ : ∃ wq : World, wq = wr := ⟨_, rfl⟩
        have HOr := Lib.hid hOr
        have HBr := Lib.hid hBr
        have hzr := hBr.size
        clear hOr hBr
        by_cases hltj : j < n
        · have hjI : (j : Int) < (n : Int) := by omega
          have hlr6 : lr ≤ 6 := by have := hlr.out; omega
          have HRs := Lib.hid (show List.replicate (j + 1) ((0 : Int), (1 : Int)) = List.replicate j (0, 1) ++ [(0, 1)] from List.replicate_succ')
          go_wp2_with fail
          refine (l02One_c 0 _).mono ?_
          rintro e w5 ⟨rfl, hb5⟩
          have HO5 := Lib.hid (HOr.out.below hb5 (fun g hg => (HOr.out.lt g hg).2))
          have HB5 := Lib.hid (HBr.out.trans (hb5.mono hzr))
          have hz5 := HB5.out.size
          clear hb5
          go_wp2_with (at_builtin; refine wpList_append_frsq rfl _ _ rfl wo.heap.size (.slice ar lr cr) lr (List.replicate j (0, 1)) [(0, 1)] rfl (by rw [List.length_replicate]; exact hlr.out) (HO5.out.alloc _) (some ⟨w5.heap.size, 0, none⟩) 1 1 rfl rfl (.inr ⟨w5.heap.size, 0, rfl, frs_oneq w5 0 1⟩) (by omega) (by simp; omega) ?_)
          intro a3 c3 w3 hO3 hG3 _
          have HB3 := Lib.hid (HB5.out.trans (((below1 w5 (.cells #[.int .i64 0, .int .i64 1] 43)).mono hz5).trans (own_grownRq (HO5.out.alloc _) hG3 (by simp; omega))))
          have HO3 := Lib.hid (show OwnRq w3 wo.heap.size (.slice a3 (lr + 1) c3) (List.replicate (j + 1) (0, 1)) from by rw [HRs.out]; exact hO3)
          clear hO3 hG3
          go_wp2
          go_roundw
          case rel => exact ⟨j + 1, a3, lr + 1, c3, by omega, by go_num, rfl, Lib.hid (by rw [hlr.out]), HO3.out, HB3.out⟩
          case measure => simp [intOf]; omega
        · obtain rfl : j = n := by omega
          obtain ⟨g, cg, hv, hg1, hg2, hMg, hFg⟩ := HOr.out.made (by intro h; have := congrArg List.length h; simp at this; omega)
          rw [List.length_replicate] at hv hMg
          injection hv with e1 e2 e3
          subst e1 e2 e3
          have HZr := Lib.hid (show ZeroR wq g lr from ⟨hMg, hFg⟩)
          have HOh := Lib.hid (HO.out.1.below HBr.out (fun q hq => (HO.out.1.lt q hq).2))
          clear hMg hFg
          go_wp2_with (at_builtin; refine wpList_append_hdsF rfl _ _ rfl (w.heap.size + 1) (.slice ah l c) l (hdsG lr G C i) [⟨some ⟨g, 0, none⟩, lr, cr⟩] rfl (by rw [hdsG_length]; exact hl.out) (HOh.out.alloc _) (some ⟨wq.heap.size, 0, none⟩) 1 1 rfl rfl (.inr ⟨wq.heap.size, 0, rfl, hds_oneF wq ⟨some ⟨g, 0, none⟩, lr, cr⟩⟩) (by omega) (by simp; omega) ?_)
          intro a9 c9 w9 hO9 hG9 hv9
          have HN9 := Lib.hid (OwnFP.snoc HO.out hzo2 HBr.out hg1 hg2 HZr.out _ hO9 hG9 (by simpa using hv9))
          have HB9 := Lib.hid ((HB.out.trans (HBr.out.mono hzo2)).trans (((below1 wq (.cells #[.slice (some ⟨g, 0, none⟩) lr cr] 65)).mono (by omega)).trans (own_grownHF (HOh.out.alloc _) hG9 (by simp; omega))))
          clear hO9 hG9 hv9
          go_wp2
          go_roundw
          case rel =>
            obtain ⟨G', C', hN⟩ := HN9.out
            exact ⟨i + 1, a9, l + 1, c9, G', C', by omega, by go_num, rfl, Lib.hid (by rw [hl.out]), hN, HB9.out⟩
          case measure => simp [intOf]; omega
    · obtain rfl : i = n := by omega
      have hl0 := hl.out
      subst hl0
      obtain ⟨Y, rfl, hFM0⟩ := OwnFP.fm hn.1 HO.out
      obtain ⟨hi, hhi⟩ : ∃ hi, wo.heap.size = hi := ⟨_, rfl⟩
      have HF0 := Lib.hid (show FM wo (w.heap.size + 1) hi l Y zeroQ from hhi ▸ hFM0)
      have HBo := Lib.hid HB.out
      have HHi := Lib.hid hhi
      clear hFM0 hhi HO HB
      go_wp2_with fail
      go_loopw [11] (fun v11 wr => ∃ (k : Nat) (F : QF), k ≤ xs.length ∧ v11 = .int .i64 k ∧ valQ l ts xs k = some F ∧ FM wr (w.heap.size + 1) hi l Y F ∧ Below (w.heap.size + 1) wA wr) (fun v11 _ => xs.length - (intOf v11).toNat)
      case atStart => exact ⟨0, zeroQ, Nat.zero_le _, rfl, HZ.out, HF0.out, HBo.out⟩
      case round =>
        obtain ⟨k, F, hk, rfl, hval, hFM, hBr⟩ := hrel
        have HVal := Lib.hid hval
        have HFM := Lib.hid hFM
        have HBr := Lib.hid hBr
        have HBw := Lib.hid ((HB0.out.mono (Nat.le_refl _)).trans (hBr.mono (Nat.le_succ _)))
        have hzr := HBw.out.size
        have hzq := hFM.2.2.1
        obtain ⟨hwz, x2⟩ := HSb.out wr hBr
        clear hval hFM hBr
        by_cases hlt2 : k < xs.length
        · obtain ⟨hwd, hz5⟩ := HWd.out k hlt2
          have hfr := HFr.out k hlt2
          have c0 : ∃ b off, a = some ⟨b, off, none⟩ ∧ b < w.heap.size ∧ w.cell? ⟨b, off + k * 3, none⟩ = some (.string (xs[k]).s) ∧ w.cell? ⟨b, off + k * 3 + 1, none⟩ = some (.int .i64 (xs[k]).n) ∧ w.cell? ⟨b, off + k * 3 + 2, none⟩ = some (.int .i64 (xs[k]).d) := by
            rcases HX.out with h | ⟨b, off, h1, h2, h3⟩
            · rw [h] at hlt2; simp at hlt2
            · exact ⟨b, off, h1, h2, h3 k hlt2⟩
          obtain ⟨bx, ox, rfl, hbx, q0, q1, q2⟩ := c0
          have HTc := Lib.hid (show ∀ wq, Below w.heap.size w wq → bx < wq.heap.size ∧ wq.cell? ⟨bx, ox + k * 3, none⟩ = some (.string (xs[k]).s) ∧ wq.cell? ⟨bx, ox + k * 3 + 1, none⟩ = some (.int .i64 (xs[k]).n) ∧ wq.cell? ⟨bx, ox + k * 3 + 2, none⟩ = some (.int .i64 (xs[k]).d) from fun wq hg => ⟨Nat.lt_of_lt_of_le hbx hg.size, (hg.cell (p := ⟨bx, ox + k * 3, none⟩) hbx).trans q0, (hg.cell (p := ⟨bx, ox + k * 3 + 1, none⟩) hbx).trans q1, (hg.cell (p := ⟨bx, ox + k * 3 + 2, none⟩) hbx).trans q2⟩)
          have HNk := Lib.hid (HNx.out k F hlt2 HVal.out)
          have HDk := Lib.hid (fun h => HOut.out.symm.trans (HDd.out k hlt2 h))
          have HPk := Lib.hid (fun W hW => HPr.out (xs[k]).s hwd hz5 W hW)
          have HAk := Lib.hid (HAl.out (xs[k]).s)
          have HKd := Lib.hid (HGd.out k F HVal.out)
          obtain ⟨t, ht⟩ : ∃ t, xs[k] = t := ⟨_, rfl⟩
          rw [ht] at hfr HTc HNk HPk HAk
          obtain ⟨s, nn, d⟩ := t
          simp only at hfr HTc HNk HPk HAk
          obtain ⟨hbxr, p0, _, _⟩ := HTc.out wr HBw.out
          have HFrk := Lib.hid hfr
          have hkI : (k : Int) < (xs.length : Int) := by omega
          clear ht hwd hz5 q0 q1 q2 hfr
          go_wp2_with fail
          refine (HPk.out _ HBw.out).mono ?_
          cases hal : alongK l ts s s.size with
          | none =>
            have HN := Lib.hid (HDk.out (by rw [HNk.out, hal]; rfl))
            rintro e w3 ⟨rfl, hb3⟩
            have HB3 := Lib.hid (HBw.out.trans (hb3.mono (by omega)))
            clear hb3 p0 x2 hal
            go_wp2
            go_ret2
            rw [HN.out]
            exact ⟨rfl, HB3.out⟩
          | some P =>
            rintro e wP ⟨aP, cP, rfl, hb3, hRw⟩
            have HPd := Lib.hid (HAk.out P hal)
            have hzP := hb3.size
            have HBP := Lib.hid (HBr.out.trans (hb3.mono (by have := HZA.out; omega)))
            have HFP := Lib.hid (HFM.out.next hb3)
            obtain ⟨b, off, A, rfl, hA⟩ := RowsAt.of hn.1 hRw
            have HA := Lib.hid hA
            rw [hal, Option.bind_some] at HNk
            obtain ⟨om, hom⟩ : ∃ om, matQ l P (nn, d) l F = om := ⟨_, rfl⟩
            rw [hom] at HNk
            have HOm := Lib.hid hom
            clear hb3 hRw hA p0 x2 hal hom
            have HBWP := Lib.hid (HB0.out.trans (HBP.out.mono (Nat.le_succ _)))
            go_wp2_with fail
            go_loopw [14] (fun v14 wr => ∃ (i : Nat) (G : QF), i ≤ l ∧ v14 = .int .i64 i ∧ matQ l P (nn, d) i F = some G ∧ FM wr (w.heap.size + 1) hi l Y G ∧ Outside (w.heap.size + 1) hi wP wr) (fun v14 _ => l - (intOf v14).toNat)
            case atStart => exact ⟨0, F, Nat.zero_le _, rfl, rfl, HFP.out, Outside.refl _ _ _⟩
            case round =>
              obtain ⟨i, G2, hi', rfl, hmat, hFM2, hOut2⟩ := hrel
              obtain ⟨wi, rfl⟩ : ∃ wi : World, wi = wr := ⟨_, rfl⟩
              have HMat := Lib.hid hmat
              have HFi := Lib.hid hFM2
              have HOi := Lib.hid hOut2
              have hzi := hOut2.size
              clear hmat hFM2 hOut2
              by_cases hlti : i < l
              · have hiI : (i : Int) < (l : Int) := by omega
                obtain ⟨r1, r2, r3⟩ := HA.out
                obtain ⟨q1, q2, q3, q4⟩ := r3 i hlti
                have HHd := Lib.hid (show ∀ wq, Outside (w.heap.size + 1) hi wP wq → b < wq.heap.size ∧ (A i).1 < wq.heap.size ∧ wq.cell? ⟨b, off + i, none⟩ = some (.slice (some ⟨(A i).1, (A i).2.1, none⟩) l (A i).2.2) ∧ ∀ j, j < l → wq.cell? ⟨(A i).1, (A i).2.1 + j, none⟩ = some (.int .i64 (P i j)) from fun wq hg => by
                  have hs := hg.size
                  have h4 := HA.out.outside hg hzq (Nat.le_refl _)
                  exact ⟨by omega, by omega, (h4.2.2 i hlti).2.2.1, (h4.2.2 i hlti).2.2.2⟩)
                have HGi := Lib.hid (fun j K (h : rowQ P (nn, d) i j G2 = some K) => (HKd.out.mat HMat.out).row h)
                have HFail := Lib.hid (fun j K (hj : j < l) (h : rowQ P (nn, d) i j G2 = some K) (h3 : addE (K i j) (nn, d) (P i j) = none) => (show o = none from HDk.out (by rw [HNk.out, ← HOm.out]; exact matQ_fail hlti hj HMat.out h h3)))
                have HNxi := Lib.hid (matQ_next HMat.out)
                have HPi := Lib.hid (fun j (hj : j < l) => HPd.out i j hlti hj)
                have y0 := (HFi.out.2.2.2.2.1 i hlti).2.2
                have hyw : Y.h < wi.heap.size := by have := HFi.out.2.1; have := HFi.out.2.2.1; omega
                generalize hAi : A i = ai at *
                obtain ⟨bi, oi, ci⟩ := ai
                simp only at q1 q2 q3 q4 HHd
                clear r1 r2 r3 q1 q2 q3 q4 hAi
                go_wp2_with fail
                go_loopw [16] (fun v16 wq => ∃ (j : Nat) (K : QF), j ≤ l ∧ v16 = .int .i64 j ∧ rowQ P (nn, d) i j G2 = some K ∧ FM wq (w.heap.size + 1) hi l Y K ∧ Outside (w.heap.size + 1) hi wP wq) (fun v16 _ => l - (intOf v16).toNat)
                case atStart => exact ⟨0, G2, Nat.zero_le _, rfl, rfl, HFi.out, HOi.out⟩
                case round =>
                  obtain ⟨j, K, hj', rfl, hrow, hFq, hOq⟩ := hrel
                  obtain ⟨wq, rfl⟩ : ∃ wq : World, wq = wr := ⟨_, rfl⟩
                  have HRow := Lib.hid hrow
                  have HFq := Lib.hid hFq
                  have HOq := Lib.hid hOq
                  have hzw := hOq.size
                  clear hrow hFq hOq y0
                  by_cases hltj : j < l
                  · have hjI : (j : Int) < (l : Int) := by omega
                    obtain ⟨hbz, hbiz, s3, hz4⟩ := HHd.out wq HOq.out
                    have s4 := hz4 j hltj
                    have HBq := Lib.hid (HBP.out.trans (HOq.out.below (B := w.heap.size + 1) (Nat.le_refl _) (by omega)))
                    have HBqw := Lib.hid (HB0.out.trans (HBq.out.mono (Nat.le_succ _)))
                    obtain ⟨hwz, s0⟩ := HSb.out wq HBq.out
                    obtain ⟨hbxz, _, s1, s2⟩ := HTc.out wq HBqw.out
                    have HPz := Lib.hid (HPi.out j hltj)
                    have HKg := Lib.hid (HGi.out j K HRow.out i j)
                    have HFl := Lib.hid (HFail.out j K hltj HRow.out)
                    have HRn := Lib.hid (rowQ_next HRow.out)
                    obtain ⟨z, hz⟩ : ∃ z, P i j = z := ⟨_, rfl⟩
                    rw [hz] at s4 HPz HFl HRn
                    obtain ⟨x, y, hxy⟩ : ∃ x y, K i j = (x, y) := ⟨_, _, rfl⟩
                    rw [hxy] at HKg HFl HRn
                    simp only at HKg
                    have HFxy := Lib.hid (show ∀ wz (M : FM wz (w.heap.size + 1) hi l Y K), wz.cell? ⟨Y.b i, Y.o i + j * 2, none⟩ = some (.int .i64 x) ∧ wz.cell? ⟨Y.b i, Y.o i + j * 2 + 1, none⟩ = some (.int .i64 y) ∧ wz.frozen? ⟨Y.b i, Y.o i + j * 2, none⟩ = false ∧ wz.frozen? ⟨Y.b i, Y.o i + j * 2 + 1, none⟩ = false ∧ Y.b i < wz.heap.size from fun wz M => by
                      obtain ⟨m1, m2, m3, m4⟩ := M.2.2.2.2.2 i j hlti hltj
                      rw [hxy] at m1 m2
                      exact ⟨m1, m2, m3, m4, Nat.lt_of_lt_of_le (M.2.2.2.2.1 i hlti).2.1 M.2.2.1⟩)
                    clear hz hxy hz4
                    have ha1 := isF_abs HFrk.out
                    have ha2 := isF_abs HKg.out
                    have ha3 : z.natAbs ≤ 1000000000 := by have := HPz.out; omega
                    obtain ⟨X, hX⟩ : ∃ X, fN (nn * z) (d * 1) = X := ⟨_, rfl⟩
                    obtain ⟨Z, hZ⟩ : ∃ Z, fD (nn * z) (d * 1) = Z := ⟨_, rfl⟩
                    obtain ⟨ok, hok⟩ : ∃ ok, fOk (nn * z) (d * 1) = ok := ⟨_, rfl⟩
                    have ha4 : X.natAbs ≤ 1000000000 ∧ Z.natAbs ≤ 1000000000 := by rw [← hX, ← hZ]; exact frac_bd _ _
                    obtain ⟨X2, hX2⟩ : ∃ X2, fN (x * Z + X * y) (y * Z) = X2 := ⟨_, rfl⟩
                    obtain ⟨Z2, hZ2⟩ : ∃ Z2, fD (x * Z + X * y) (y * Z) = Z2 := ⟨_, rfl⟩
                    obtain ⟨ok2, hok2⟩ : ∃ ok2, fOk (x * Z + X * y) (y * Z) = ok2 := ⟨_, rfl⟩
                    have HE := Lib.hid (show addE (x, y) (nn, d) z = if ok = true then (if ok2 = true then some (X2, Z2) else none) else none from by
                      unfold addE
                      simp only [hX, hZ, hok, hX2, hZ2, hok2])
                    have HWh := Lib.hid (fun W (hW : Below wq.heap.size wq W) => l02One_c z W)
                    have HTm := Lib.hid (fun W (hW : Below wq.heap.size wq W) => (show Calls Try.prog 54 #[.agg #[.int .i64 nn, .int .i64 d], .agg #[.int .i64 z, .int .i64 1]] W (fun e w' => e = .returned (.tuple #[.agg #[.int .i64 X, .int .i64 Z], .bool ok]) ∧ Below W.heap.size W w') from by
                      have h := l01TimesFrac_c nn d z 1 (by omega) (by omega) (by omega) (by decide) W
                      rw [hX, hZ, hok] at h
                      exact h))
                    have HPl0 := Lib.hid (fun W => (show Calls Try.prog 55 #[.agg #[.int .i64 x, .int .i64 y], .agg #[.int .i64 X, .int .i64 Z]] W (fun e w' => e = .returned (.tuple #[.agg #[.int .i64 X2, .int .i64 Z2], .bool ok2]) ∧ Below W.heap.size W w') from by
                      have h := l01Plus_c x y X Z (by omega) (by omega) (by omega) (by omega) W
                      rw [hX2, hZ2, hok2] at h
                      exact h))
                    have KS := Lib.hid (show ∀ w', Below wq.heap.size wq w' → (w'.cell? ⟨w.heap.size, 2, none⟩ = some (.slice (some ⟨bx, ox, none⟩) xs.length cX) ∧ w'.cell? ⟨bx, ox + k * 3 + 1, none⟩ = some (.int .i64 nn) ∧ w'.cell? ⟨bx, ox + k * 3 + 2, none⟩ = some (.int .i64 d) ∧ w'.cell? ⟨b, off + i, none⟩ = some (.slice (some ⟨bi, oi, none⟩) l ci) ∧ w'.cell? ⟨bi, oi + j, none⟩ = some (.int .i64 z)) from fun w' hb => ⟨(hb.cell (p := ⟨w.heap.size, 2, none⟩) hwz).trans s0, (hb.cell (p := ⟨bx, ox + k * 3 + 1, none⟩) hbxz).trans s1, (hb.cell (p := ⟨bx, ox + k * 3 + 2, none⟩) hbxz).trans s2, (hb.cell (p := ⟨b, off + i, none⟩) hbz).trans s3, (hb.cell (p := ⟨bi, oi + j, none⟩) hbiz).trans s4⟩)
                    clear hX hZ hok hX2 hZ2 hok2 ha1 ha2 ha3 ha4
                    go_upto_region 24 with fail
                    go_cut [17, 18] (FrCutB wq X Z ok)
                    case first =>
                      go_region_held3 (fun w' => w'.cell? ⟨w.heap.size, 2, none⟩ = some (.slice (some ⟨bx, ox, none⟩) xs.length cX) ∧ w'.cell? ⟨bx, ox + k * 3 + 1, none⟩ = some (.int .i64 nn) ∧ w'.cell? ⟨bx, ox + k * 3 + 2, none⟩ = some (.int .i64 d) ∧ w'.cell? ⟨b, off + i, none⟩ = some (.slice (some ⟨bi, oi, none⟩) l ci) ∧ w'.cell? ⟨bi, oi + j, none⟩ = some (.int .i64 z))
                        ((refine KS.out _ ?_; repeat' (first | with_reducible assumption | with_reducible exact Below.refl _ _ | (with_reducible refine Below.drew ?_) | (with_reducible refine Below.setCell ?_ (by (try dsimp only); omega) _) | (with_reducible refine Below.alloc ?_ (by (try simp only [World.size_setCell]); (try simp only [World.size_drew]); (try simp only [World.size_alloc]); (try simp only [World.size_setCell]); (try simp only [World.size_alloc]); omega) _))))
                        (first
                          | (go_at_call 52; (with_reducible refine (HWh.out _ ?_).mono ?_); (focus repeat' (first | with_reducible assumption | with_reducible exact Below.refl _ _ | (with_reducible refine Below.drew ?_) | (with_reducible refine Below.setCell ?_ (by (try dsimp only); omega) _) | (with_reducible refine Below.alloc ?_ (by (try simp only [World.size_setCell]); (try simp only [World.size_drew]); (try simp only [World.size_alloc]); (try simp only [World.size_setCell]); (try simp only [World.size_alloc]); omega) _))); rintro e w5 ⟨rfl, hb0⟩; have hbw5 : Below wq.heap.size wq w5 := below_step (by repeat' (first | with_reducible assumption | with_reducible exact Below.refl _ _ | (with_reducible refine Below.drew ?_) | (with_reducible refine Below.setCell ?_ (by (try dsimp only); omega) _) | (with_reducible refine Below.alloc ?_ (by (try simp only [World.size_setCell]); (try simp only [World.size_drew]); (try simp only [World.size_alloc]); (try simp only [World.size_setCell]); (try simp only [World.size_alloc]); omega) _))) hb0 (Nat.le_refl _); have hzw5 := hbw5.size; (try have B0 : Box2 w5 wq.heap.size 0 0 := Box2.next (by exact (Box2.new wq 0 0 _).drew) hb0))
                          | (go_at_call 54; (with_reducible refine (HTm.out _ ?_).mono ?_); (focus repeat' (first | with_reducible assumption | with_reducible exact Below.refl _ _ | (with_reducible refine Below.drew ?_) | (with_reducible refine Below.setCell ?_ (by (try dsimp only); omega) _) | (with_reducible refine Below.alloc ?_ (by (try simp only [World.size_setCell]); (try simp only [World.size_drew]); (try simp only [World.size_alloc]); (try simp only [World.size_setCell]); (try simp only [World.size_alloc]); omega) _))); rintro e w6 ⟨rfl, hb0⟩; have hbw6 : Below wq.heap.size wq w6 := below_step (by repeat' (first | with_reducible assumption | with_reducible exact Below.refl _ _ | (with_reducible refine Below.drew ?_) | (with_reducible refine Below.setCell ?_ (by (try dsimp only); omega) _) | (with_reducible refine Below.alloc ?_ (by (try simp only [World.size_setCell]); (try simp only [World.size_drew]); (try simp only [World.size_alloc]); (try simp only [World.size_setCell]); (try simp only [World.size_alloc]); omega) _))) hb0 (Nat.le_refl _); have hzw6 := hbw6.size; have hbw5w6 : Below w5.heap.size w5 w6 := below_step (by repeat' (first | with_reducible assumption | with_reducible exact Below.refl _ _ | (with_reducible refine Below.drew ?_) | (with_reducible refine Below.setCell ?_ (by (try dsimp only); omega) _) | (with_reducible refine Below.alloc ?_ (by (try simp only [World.size_setCell]); (try simp only [World.size_drew]); (try simp only [World.size_alloc]); (try simp only [World.size_setCell]); (try simp only [World.size_alloc]); omega) _))) hb0 (Nat.le_refl _); have hzw5w6 := hbw5w6.size; (try have B0 := B0.next hbw5w6); (try have B1 : Box2 w6 w5.heap.size 0 0 := Box2.next (by exact Box2.new w5 0 0 _) hb0); (try obtain ⟨Bz0, b00, b01, b02, b03⟩ := id B0); (try obtain ⟨Bz1, b10, b11, b12, b13⟩ := id B1))
                          | fail)
                      all_goals (go_wp2_with fail; go_meet)
                      all_goals (refine ⟨_, rfl, rfl, ?_, ?_, ?_⟩)
                      all_goals (first | (with_reducible assumption) | (with_reducible exact Nat.le_refl _) | ((repeat' (first | with_reducible assumption | with_reducible exact Below.refl _ _ | (with_reducible refine Below.drew ?_) | (with_reducible refine Below.setCell ?_ (by (try dsimp only); omega) _) | (with_reducible refine Below.alloc ?_ (by (try simp only [World.size_setCell]); (try simp only [World.size_drew]); (try simp only [World.size_alloc]); (try simp only [World.size_setCell]); (try simp only [World.size_alloc]); omega) _))); done) | ((repeat' (first | with_reducible assumption | (with_reducible refine Box2.newAt ?_; first | with_reducible rfl | (simp only [World.size_alloc]; done)) | (with_reducible refine Box2.fill ?_) | (with_reducible refine Box2.alloc ?_ _))); done) | omega)
                    case rest =>
                      obtain ⟨g, rfl, rfl, hg1, hbc, hBox⟩ := hcut
                      obtain ⟨w3, rfl⟩ : ∃ w3 : World, w3 = wc := ⟨_, rfl⟩
                      have HF3 := Lib.hid (HFq.out.next hbc)
                      have HO3 := Lib.hid (HOq.out.trans (Outside.of_below hbc))
                      have hz3 := hbc.size
                      obtain ⟨hgz, t2, t3, _, _⟩ := hBox
                      obtain ⟨t0, t1, _, _, hyb3⟩ := HFxy.out w3 HF3.out
                      have HPl := Lib.hid (fun W (hW : Below w3.heap.size w3 W) => HPl0.out W)
                      have KS3 := Lib.hid (show ∀ w', Below w3.heap.size w3 w' → (w'.cell? ⟨Y.b i, Y.o i + j * 2, none⟩ = some (.int .i64 x) ∧ w'.cell? ⟨Y.b i, Y.o i + j * 2 + 1, none⟩ = some (.int .i64 y) ∧ w'.cell? ⟨g, 0, none⟩ = some (.int .i64 X) ∧ w'.cell? ⟨g, 1, none⟩ = some (.int .i64 Z)) from fun w' hb => ⟨(hb.cell (p := ⟨Y.b i, Y.o i + j * 2, none⟩) hyb3).trans t0, (hb.cell (p := ⟨Y.b i, Y.o i + j * 2 + 1, none⟩) hyb3).trans t1, (hb.cell (p := ⟨g, 0, none⟩) hgz).trans t2, (hb.cell (p := ⟨g, 1, none⟩) hgz).trans t3⟩)
                      clear hbc s0 s1 s2 s3 s4
                      go_upto_region 25 with fail
                      go_cut [19, 20] (FrCutB w3 X2 Z2 ok2)
                      case first =>
                        go_region_held3 (fun w' => w'.cell? ⟨Y.b i, Y.o i + j * 2, none⟩ = some (.int .i64 x) ∧ w'.cell? ⟨Y.b i, Y.o i + j * 2 + 1, none⟩ = some (.int .i64 y) ∧ w'.cell? ⟨g, 0, none⟩ = some (.int .i64 X) ∧ w'.cell? ⟨g, 1, none⟩ = some (.int .i64 Z))
                          ((refine KS3.out _ ?_; repeat' (first | with_reducible assumption | with_reducible exact Below.refl _ _ | (with_reducible refine Below.drew ?_) | (with_reducible refine Below.setCell ?_ (by (try dsimp only); omega) _) | (with_reducible refine Below.alloc ?_ (by (try simp only [World.size_setCell]); (try simp only [World.size_drew]); (try simp only [World.size_alloc]); (try simp only [World.size_setCell]); (try simp only [World.size_alloc]); omega) _))))
                          (first
                            | (go_at_call 55; (with_reducible refine (HPl.out _ ?_).mono ?_); (focus repeat' (first | with_reducible assumption | with_reducible exact Below.refl _ _ | (with_reducible refine Below.drew ?_) | (with_reducible refine Below.setCell ?_ (by (try dsimp only); omega) _) | (with_reducible refine Below.alloc ?_ (by (try simp only [World.size_setCell]); (try simp only [World.size_drew]); (try simp only [World.size_alloc]); (try simp only [World.size_setCell]); (try simp only [World.size_alloc]); omega) _))); rintro e w7 ⟨rfl, hb0⟩; have hbw7 : Below w3.heap.size w3 w7 := below_step (by repeat' (first | with_reducible assumption | with_reducible exact Below.refl _ _ | (with_reducible refine Below.drew ?_) | (with_reducible refine Below.setCell ?_ (by (try dsimp only); omega) _) | (with_reducible refine Below.alloc ?_ (by (try simp only [World.size_setCell]); (try simp only [World.size_drew]); (try simp only [World.size_alloc]); (try simp only [World.size_setCell]); (try simp only [World.size_alloc]); omega) _))) hb0 (Nat.le_refl _); have hzw7 := hbw7.size; (try have B0 : Box2 w7 w3.heap.size 0 0 := Box2.next (by exact (Box2.new w3 0 0 _).drew) hb0); (try obtain ⟨Bz0, b00, b01, b02, b03⟩ := id B0))
                            | fail)
                        all_goals (go_wp2_with fail; go_meet)
                        all_goals (refine ⟨_, rfl, rfl, ?_, ?_, ?_⟩)
                        all_goals (first | (with_reducible assumption) | (with_reducible exact Nat.le_refl _) | ((repeat' (first | with_reducible assumption | with_reducible exact Below.refl _ _ | (with_reducible refine Below.drew ?_) | (with_reducible refine Below.setCell ?_ (by (try dsimp only); omega) _) | (with_reducible refine Below.alloc ?_ (by (try simp only [World.size_setCell]); (try simp only [World.size_drew]); (try simp only [World.size_alloc]); (try simp only [World.size_setCell]); (try simp only [World.size_alloc]); omega) _))); done) | ((repeat' (first | with_reducible assumption | (with_reducible refine Box2.newAt ?_; first | with_reducible rfl | (simp only [World.size_alloc]; done)) | (with_reducible refine Box2.fill ?_) | (with_reducible refine Box2.alloc ?_ _))); done) | omega)
                      case rest =>
                        obtain ⟨g2, rfl, rfl, hg3, hbc2, hBox2⟩ := hcut
                        obtain ⟨w5, rfl⟩ : ∃ w5 : World, w5 = wc := ⟨_, rfl⟩
                        have HF5 := Lib.hid (HF3.out.next hbc2)
                        have HO5 := Lib.hid (HO3.out.trans (Outside.of_below hbc2))
                        have hz5 := hbc2.size
                        obtain ⟨hgz2, v2, v3, _, _⟩ := hBox2
                        obtain ⟨m0, m1, m2, m3, hyb5⟩ := HFxy.out w5 HF5.out
                        have hgb : g2 ≠ Y.b i := by omega
                        have HB5 := Lib.hid (HB0.out.trans ((HBP.out.trans (HO5.out.below (B := w.heap.size + 1) (Nat.le_refl _) (by omega))).mono (Nat.le_succ _)))
                        clear hbc2 t0 t1 t2 t3
                        cases ok with
                        | false =>
                          have HN := Lib.hid (HFl.out (by rw [HE.out]; rfl))
                          go_wp2
                          go_ret2
                          rw [HN.out]
                          exact ⟨rfl, HB5.out⟩
                        | true =>
                          cases ok2 with
                          | false =>
                            have HN := Lib.hid (HFl.out (by rw [HE.out]; rfl))
                            go_wp2
                            go_ret2
                            rw [HN.out]
                            exact ⟨rfl, HB5.out⟩
                          | true =>
                            have HRn2 := Lib.hid (show rowQ P (nn, d) i (j + 1) G2 = some (setQ K i j (X2, Z2)) from by rw [HRn.out, HE.out]; rfl)
                            have HFn := Lib.hid (HF5.out.set hlti hltj X2 Z2)
                            have HOn := Lib.hid (HO5.out.trans ((HF5.out.outside hlti (Y.o i + j * 2) (.int .i64 X2)).trans (FM.outside (HF5.out.set1 hlti hltj X2) hlti (Y.o i + j * 2 + 1) (.int .i64 Z2))))
                            go_wp2
                            go_roundw
                            case rel => exact ⟨j + 1, _, by omega, by go_num, HRn2.out, HFn.out, HOn.out⟩
                            case measure => simp [intOf]; omega
                  · obtain rfl : j = l := by omega
                    have HMn := Lib.hid (HNxi.out.trans HRow.out)
                    go_wp2
                    go_roundw
                    case rel => exact ⟨i + 1, K, by omega, by go_num, HMn.out, HFq.out, HOq.out⟩
                    case measure => simp [intOf]; omega
              · obtain rfl : i = l := by omega
                have HVn := Lib.hid (HNk.out.trans (HOm.out.symm.trans HMat.out))
                have HBn := Lib.hid (HBP.out.trans (HOi.out.below (Nat.le_refl _) (by omega)))
                go_wp2
                go_roundw
                case rel => exact ⟨k + 1, G2, by omega, by go_num, HVn.out, HFi.out, HBn.out⟩
                case measure => simp [intOf]; omega
        · obtain rfl : k = xs.length := by omega
          have HN := Lib.hid (HOut.out.symm.trans HVal.out)
          go_wp2
          go_ret2
          rw [HN.out]
          exact ⟨Y, c, rfl, HBw.out, HFM.out.mono (by omega) hzq (Nat.le_refl _)⟩
end Go.Proofs.Ytknigggjnjkhbaa
