/-
  TablesOfWord of the program: the tables of a word.
-/
import Derived.Test.YtknigggjnjkhbaaHdT
import Derived.Test.YtknigggjnjkhbaaAlong
namespace Go.Proofs.Ytknigggjnjkhbaa
open Go.RowKit

/-- the table of the letter q for a word -/
def wtF (s : ByteArray) (q : Nat) : MF := fun i j => if j = i + 1 ∧ i < s.size ∧ letN s i = q then 1 else 0
def wordT (d : Nat) (s : ByteArray) : Tabs := (List.range d).map fun q => tabF (s.size + 1) (wtF s q)
theorem wordT_length (d : Nat) (s : ByteArray) : (wordT d s).length = d := by simp [wordT]
def hdsT (n : Nat) (H C : Nat → Nat) (k : Nat) : List Hd := (List.range k).map fun r => ⟨some ⟨H r, 0, none⟩, n, C r⟩
theorem hdsT_length (n : Nat) (H C : Nat → Nat) (k : Nat) : (hdsT n H C k).length = k := by simp [hdsT]
theorem hdsT_succ (n : Nat) (H C : Nat → Nat) (k h c : Nat) : hdsT n (fun r => if r = k then h else H r) (fun r => if r = k then c else C r) (k + 1) = hdsT n H C k ++ [⟨some ⟨h, 0, none⟩, n, c⟩] := by
  unfold hdsT
  rw [List.range_succ, List.map_append]
  congr 1
  · refine List.map_congr_left fun r hr => ?_
    have hne : ¬ r = k := by have := List.mem_range.1 hr; omega
    show (⟨some ⟨if r = k then h else H r, 0, none⟩, n, if r = k then c else C r⟩ : Hd) = _
    rw [if_neg hne, if_neg hne]
  · simp
/-- grids, each within bounds of its own, and the row of their headers, which lies in none of these bounds -/
def TabsG (n k lo : Nat) (w : World) (v : Value) (H G C L U : Nat → Nat) (f : Nat → MF) : Prop :=
  OwnHT w lo v (hdsT n H C k) ∧ (∀ r, r < k → lo ≤ L r ∧ L r ≤ H r ∧ H r < U r ∧ L r ≤ G r ∧ G r < U r ∧ U r ≤ w.heap.size ∧ GridF n (H r) (G r) w (f r) ∧ ∀ g, v.ownBlock = some g → g < L r ∨ U r ≤ g) ∧ ∀ r r', r < r' → r' < k → U r ≤ L r'
theorem GridF.outside {lo hi n h g : Nat} {w w' : World} {f : MF} (k : GridF n h g w f) (hg : Outside lo hi w w') (h1 : h < lo ∨ hi ≤ h) (h2 : g < lo ∨ hi ≤ g) : GridF n h g w' f :=
  ⟨k.1, hg.made k.2.1 h1, hg.made k.2.2.1 h2, fun i hi' => by obtain ⟨c, q⟩ := k.2.2.2.1 i hi'; exact ⟨c, (hg.cell k.2.1.1 h1).trans q⟩, fun i j hi' hj => (hg.cell k.2.2.1.1 h2).trans (k.2.2.2.2 i j hi' hj)⟩
theorem TabsG.snoc {n k lo : Nat} {w w1 w9 : World} {v v9 : Value} {H G C L U : Nat → Nat} {f : Nat → MF} (T : TabsG n k lo w v H G C L U f) (hlo : lo ≤ w.heap.size) (hb : Below w.heap.size w w1) {h g c : Nat} {F : MF} (h1 : w.heap.size ≤ h) (h2 : h < w1.heap.size) (h3 : w.heap.size ≤ g) (h4 : g < w1.heap.size) (hG : GridF n h g w1 F) (o : Obj)
    (hO : OwnHT w9 lo v9 (hdsT n H C k ++ [⟨some ⟨h, 0, none⟩, n, c⟩])) (hg : (w1.alloc o).grownBy w9 v.ownBlock) (hv : v9.ownBlock = v.ownBlock ∨ v9.ownBlock = some (w1.heap.size + 1)) :
    ∃ H' G' C' L' U' f', TabsG n (k + 1) lo w9 v9 H' G' C' L' U' f' ∧ f' k = F ∧ ∀ r, r < k → f' r = f r := by
  obtain ⟨t1, t2, t3⟩ := T
  have hown := t1.lt
  have hs1 := hb.size
  have hs9 : w1.heap.size + 1 ≤ w9.heap.size := by have := hg.size; simpa using this
  have hb1 : Below w1.heap.size w1 (w1.alloc o) := below1 w1 o
  have hOut : ∀ (lo' hi' : Nat), (∀ x, v.ownBlock = some x → lo' ≤ x ∧ x < hi') → Outside lo' hi' (w1.alloc o) w9 := fun lo' hi' q => Outside.of_grown hg q
  -- a grid that lies below stays
  have keep : ∀ (h g : Nat) (F : MF), GridF n h g w1 F → (∀ x, v.ownBlock = some x → x ≠ h ∧ x ≠ g) → h < w1.heap.size → g < w1.heap.size → GridF n h g w9 F := fun h g F q hx hh hg2 => by
    have q2 := q.below hb1 hh hg2
    cases hob : v.ownBlock with
    | none => exact q2.outside (hOut 0 0 (fun x e => by rw [hob] at e; cases e)) (.inr (Nat.zero_le _)) (.inr (Nat.zero_le _))
    | some x => exact q2.outside (hOut x (x + 1) (fun y e => by rw [hob] at e; injection e with e; omega)) (by have := (hx x hob).1; omega) (by have := (hx x hob).2; omega)
  have hv9 : ∀ x, v9.ownBlock = some x → (v.ownBlock = some x) ∨ x = w1.heap.size + 1 := fun x e => by
    rcases hv with q | q
    · exact .inl (q.symm.trans e)
    · refine .inr ?_
      rw [q] at e
      injection e with e
      exact e.symm
  refine ⟨fun r => if r = k then h else H r, fun r => if r = k then g else G r, fun r => if r = k then c else C r, fun r => if r = k then w.heap.size else L r, fun r => if r = k then w1.heap.size else U r, fun r => if r = k then F else f r, ⟨by rw [hdsT_succ]; exact hO, fun r hr => ?_, fun r r' hrr hr' => ?_⟩, by simp, fun r hr => by simp; omega⟩
  · by_cases e : r = k
    · subst e
      simp only [if_pos]
      refine ⟨hlo, h1, h2, h3, h4, by omega, keep h g F hG (fun x hx => by have := (hown x hx).2; omega) h2 h4, fun x hx => ?_⟩
      rcases hv9 x hx with q | q
      · have := (hown x q).2; omega
      · omega
    · simp only [if_neg e]
      obtain ⟨a1, a2, a3, a4, a5, a6, a7, a8⟩ := t2 r (by omega)
      refine ⟨a1, a2, a3, a4, a5, by omega, keep _ _ _ (a7.below hb (by omega) (by omega)) (fun x hx => by have := a8 x hx; omega) (by omega) (by omega), fun x hx => ?_⟩
      rcases hv9 x hx with q | q
      · exact a8 x q
      · omega
  · by_cases e : r' = k
    · subst e
      simp only [if_neg (show ¬ r = r' by omega), if_pos]
      exact (t2 r (by omega)).2.2.2.2.2.1
    · simp only [if_neg e, if_neg (show ¬ r = k by omega)]
      exact t3 r r' hrr (by omega)
/-- a number stored in one of the grids -/
theorem TabsG.set {n k lo : Nat} {w : World} {v : Value} {H G C L U : Nat → Nat} {f : Nat → MF} (T : TabsG n k lo w v H G C L U f) {q i j : Nat} (hq : q < k) (hi : i < n) (hj : j < n) (x : Int) :
    TabsG n k lo (w.setCell ⟨G q, i * n + j, none⟩ (.int .i64 x)) v H G C L U (fun r => if r = q then (fun a b => if a = i ∧ b = j then x else f q a b) else f r) := by
  obtain ⟨t1, t2, t3⟩ := T
  obtain ⟨b1, b2, b3, b4, b5, b6, b7, b8⟩ := t2 q hq
  refine ⟨t1.far (fun e => by have := b8 (G q) e; omega) _, fun r hr => ?_, t3⟩
  obtain ⟨a1, a2, a3, a4, a5, a6, a7, a8⟩ := t2 r hr
  refine ⟨a1, a2, a3, a4, a5, by rw [World.size_setCell]; exact a6, ?_, a8⟩
  by_cases e : r = q
  · subst e
    simp only [if_pos]
    exact a7.set hi hj x
  · simp only [if_neg e]
    have hs : U r ≤ L q ∨ U q ≤ L r := by
      rcases Nat.lt_or_ge r q with h | h
      · exact .inl (t3 r q h hq)
      · exact .inr (t3 q r (by omega) hr)
    exact a7.outside (Outside.set1 w (G q) (i * n + j) (.int .i64 x)) (by omega) (by omega)
theorem TabsG.new {n k lo : Nat} {w : World} {a : Option Addr} {l c : Nat} {H G C L U : Nat → Nat} {f : Nat → MF} (T : TabsG n k lo w (.slice a l c) H G C L U f) (hk : 0 < k) : l = k ∧ NewT lo w.heap.size w a ((List.range k).map fun r => tabF n (f r)) := by
  obtain ⟨t1, t2, t3⟩ := T
  obtain ⟨e, hN⟩ := t1.at_
  rw [hdsT_length] at e
  refine ⟨e, ?_⟩
  rcases hN with h0 | ⟨hb, rfl, hh1, hh2, hM, hI⟩
  · have := hdsT_length n H C k
    rw [h0] at this
    simp at this
    omega
  · have hl : ((List.range k).map fun r => tabF n (f r)).length = k := by simp
    have hnb : ∀ r, r < k → hb < L r ∨ U r ≤ hb := fun r hr => by
      have hob : (Value.slice (some ⟨hb, 0, none⟩) l c).ownBlock = some hb := rfl
      exact (t2 r hr).2.2.2.2.2.2.2 hb hob
    refine .inr ⟨hb, fun r => some ⟨H r, 0, none⟩, C, L, U, rfl, hh1, hh2, by rw [hl]; rw [hdsT_length] at hM; exact hM, fun i hi => ?_, fun i j hij hj => t3 i j hij (by rw [hl] at hj; exact hj)⟩
    rw [hl] at hi
    obtain ⟨a1, a2, a3, a4, a5, a6, a7, a8⟩ := t2 i hi
    have hq := hI i (by rw [hdsT_length]; exact hi)
    rw [Nat.zero_add] at hq
    have hq2 : w.cell? ⟨hb, i, none⟩ = some (.slice (some ⟨H i, 0, none⟩) n (C i)) := by simpa [hdsT] using hq
    have hg2 : ((List.range k).map fun r => tabF n (f r))[i]'(by rw [hl]; exact hi) = tabF n (f i) := by simp
    refine ⟨?_, ?_, a1, by omega, a6, hnb i hi⟩
    · rw [hg2, tabF_length]; exact hq2
    · rw [hg2]; exact .inr ⟨n, a7.p a2 a3 a4 a5⟩

theorem checkSpelled_c (L : Int) (s : ByteArray) (hs : s.size ≤ maxLen) (c : Int) (hc : (if inB L 1 3 = true then (if wordB L s.data.toList = true then (if s.size ≤ 5 then (0 : Int) else 2) else 1) else 2) = c) (w : World) :
    Calls Try.prog 75 #[.int .i64 L, .string s, .int .i64 5] w fun e w' => e = .returned (.int .i64 c) ∧ w = w' := by
  have HL := Lib.hid (areLetters_c L s hs w)
  unfold maxLen at hs
  cases h1 : inB L 1 3 with
  | false =>
    rw [h1, if_neg (by simp)] at hc
    subst hc
    go_enter Try.func75, Try.ntmps75
    go_wp2_with (first | (go_at_call 63; refine (isBetween_c _ _ _ _).mono ?_; rw [h1]; rintro e w' ⟨rfl, rfl⟩) | fail)
    go_ret
    exact ⟨rfl, rfl⟩
  | true =>
    rw [h1, if_pos rfl] at hc
    cases h2 : wordB L s.data.toList with
    | false =>
      rw [h2, if_neg (by simp)] at hc
      rw [h2] at HL
      subst hc
      clear h2
      go_enter Try.func75, Try.ntmps75
      go_wp2_with (first | (go_at_call 63; refine (isBetween_c _ _ _ _).mono ?_; rw [h1]; rintro e w' ⟨rfl, rfl⟩) | (go_at_call 43; refine HL.out.mono ?_; rintro e w' ⟨rfl, rfl⟩) | fail)
      go_ret
      exact ⟨rfl, rfl⟩
    | true =>
      rw [h2, if_pos rfl] at hc
      rw [h2] at HL
      clear h2
      by_cases h3 : s.size ≤ 5
      · rw [if_pos h3] at hc
        subst hc
        have h3' : (s.size : Int) ≤ 5 := by omega
        go_enter Try.func75, Try.ntmps75
        go_wp2_with (first | (go_at_call 63; refine (isBetween_c _ _ _ _).mono ?_; rw [h1]; rintro e w' ⟨rfl, rfl⟩) | (go_at_call 43; refine HL.out.mono ?_; rintro e w' ⟨rfl, rfl⟩) | fail)
        go_ret
        exact ⟨rfl, rfl⟩
      · rw [if_neg h3] at hc
        subst hc
        have h3' : (5 : Int) < (s.size : Int) := by omega
        go_enter Try.func75, Try.ntmps75
        go_wp2_with (first | (go_at_call 63; refine (isBetween_c _ _ _ _).mono ?_; rw [h1]; rintro e w' ⟨rfl, rfl⟩) | (go_at_call 43; refine HL.out.mono ?_; rintro e w' ⟨rfl, rfl⟩) | fail)
        go_ret
        exact ⟨rfl, rfl⟩
theorem tableAt_v (b off len cap : Nat) (x : UInt8) (q : Nat) (hx : x.toNat = 48 + q) (hq : q < len) (hl : len ≤ 3) (v : Value) (w : World) (c0 : w.cell? ⟨b, off + q, none⟩ = some v) :
    Calls Try.prog 68 #[.slice (some ⟨b, off, none⟩) len cap, .int .u8 x.toNat] w fun e w' => e = .returned v ∧ w = w' := by
  rw [hx]
  clear hx
  have e0 : ((48 + q : Nat) : Int) - 48 = (q : Int) := by omega
  have e1 : (q : Int) < (len : Int) := by omega
  go_enter Try.func68, Try.ntmps68
  go_wp2
  go_ret
  exact ⟨rfl, rfl⟩
def TblsPost (ts : Tabs) (c : Int) (W : World) (e : Ending) (w' : World) : Prop :=
  ∃ (a : Option Addr) (cap : Nat), e = .returned (.tuple #[.slice a ts.length cap, .int .i64 c]) ∧ Below W.heap.size W w' ∧ NewT W.heap.size w'.heap.size w' a ts

theorem iTw_1 (L : Int) (s : ByteArray) (hs : s.size ≤ maxLen) (c : Int) (hc : (if inB L 1 3 = true then (if wordB L s.data.toList = true then (if s.size ≤ 5 then (0 : Int) else 2) else 1) else 2) = c) (hn : c ≠ 0) (w : World) :
    Calls Try.prog 44 #[.int .i64 L, .string s] w (TblsPost [] c w) := by
  have HC := Lib.hid (checkSpelled_c L s hs c hc w)
  have hnb : (c != 0) = true := by simpa using hn
  clear hc hn
  go_enter Try.func44, Try.ntmps44
  go_wp2_with fail
  refine HC.out.mono ?_
  rintro e w' ⟨rfl, rfl⟩
  go_wp2
  go_ret2
  exact ⟨none, 0, rfl, Below.refl _ _, .inl rfl⟩
set_option maxRecDepth 100000 in
set_option maxHeartbeats 1600000 in
theorem iTw_2 (d : Nat) (hd : 1 ≤ d ∧ d ≤ 3) (s : ByteArray) (hw : wordB (d : Int) s.data.toList = true) (h5 : s.size ≤ 5) (w : World) :
    Calls Try.prog 44 #[.int .i64 d, .string s] w (TblsPost (wordT d s) 0 w) := by
  have hc : (if inB (d : Int) 1 3 = true then (if wordB (d : Int) s.data.toList = true then (if s.size ≤ 5 then (0 : Int) else 2) else 1) else 2) = 0 := by
    rw [if_pos (inB_yes (by omega)), if_pos hw, if_pos h5]
  have HC := Lib.hid (checkSpelled_c (d : Int) s (by unfold maxLen; omega) 0 hc w)
  have HLet := Lib.hid (fun k (hk : k < s.size) => letN_lt (ts := List.replicate d []) hw (by simp) hk)
  obtain ⟨n, hn⟩ : ∃ n, s.size + 1 = n := ⟨_, rfl⟩
  have HN := Lib.hid hn
  have hn6 : 1 ≤ n ∧ n ≤ 6 := by omega
  have hs1 : (s.size : Int) + 1 = (n : Int) := by omega
  have hSq := fun W => squareOf_c n hn6 0 W
  simp only [← hs1] at hSq
  have HSq := Lib.hid hSq
  clear hSq
  have HLn := Lib.hid (show (sqL n 0).length = n from sqL_length n 0)
  have hd3 : (d : Int) ≤ 3 := by omega
  clear hc hw hs1 hn
  go_enter Try.func44, Try.ntmps44
  go_wp2_with fail
  refine HC.out.mono ?_
  rintro e w' ⟨rfl, rfl⟩
  go_wp2_with fail
  go_loopw [7, 16] (fun v7 v16 wr => ∃ (k : Nat) (a : Option Addr) (l c : Nat) (H G C L U : Nat → Nat) (f : Nat → MF), k ≤ d ∧ v16 = .int .i64 k ∧ v7 = .slice a l c ∧ Hid (l = k) ∧ TabsG n k w.heap.size wr (.slice a l c) H G C L U f ∧ (∀ r, r < k → f r = fun _ _ => 0) ∧ Below w.heap.size w wr) (fun _ v16 _ => d - (intOf v16).toNat)
  case atStart => exact ⟨0, none, 0, 0, fun _ => 0, fun _ => 0, fun _ => 0, fun _ => 0, fun _ => 0, fun _ _ _ => 0, Nat.zero_le _, rfl, rfl, Lib.hid rfl, ⟨OwnHT.nil _ _, fun r hr => absurd hr (Nat.not_lt_zero _), fun r r' _ hr => absurd hr (Nat.not_lt_zero _)⟩, fun r hr => absurd hr (Nat.not_lt_zero _), Below.refl _ _⟩
  case round =>
    obtain ⟨k, a, l, c, H, G, C, L, U, f, hk, rfl, rfl, hl, hT, hf, hB⟩ := hrel
    have HT := Lib.hid hT
    have HF := Lib.hid hf
    have HB := Lib.hid hB
    have hzw := hB.size
    clear hT hf hB
    by_cases hlt : k < d
    · go_wp2_with fail
      refine (HSq.out _).mono ?_
      rintro e w1 ⟨a1, c1, rfl, hb1, hG1⟩
      rw [sqL_tab] at hG1
      obtain ⟨h, g, rfl, h1, h2, h3, h4, hG⟩ := hG1.f
      have HGf := Lib.hid hG
      have HB1 := Lib.hid hb1
      have hz1 := hb1.size
      have hl3 : l ≤ 3 := by have := hl.out; omega
      clear hb1 hG1 hG
      rw [HLn.out]
      go_wp2_with (at_builtin; refine wpList_append_tabs rfl _ _ rfl w.heap.size (.slice a l c) l (hdsT n H C k) [⟨some ⟨h, 0, none⟩, n, c1⟩] rfl (by rw [hdsT_length]; exact hl.out) ((HT.out.1.below HB1.out (fun g hg => (HT.out.1.lt g hg).2)).alloc _) (some ⟨w1.heap.size, 0, none⟩) 1 1 rfl rfl (.inr ⟨_, 0, rfl, tabs_one _ ⟨some ⟨h, 0, none⟩, n, c1⟩⟩) (by omega) (by simp; omega) ?_)
      intro a9 q9 w9 hO9 hG9 hv9
      obtain ⟨H', G', C', L', U', f', hT9, hf9, hf9'⟩ := HT.out.snoc hzw HB1.out h1 h2 h3 h4 HGf.out _ hO9 hG9 hv9
      have HT9 := Lib.hid hT9
      have HF9 := Lib.hid (And.intro hf9 hf9')
      have HB9 := Lib.hid (HB.out.trans ((HB1.out.mono hzw).trans ((below1 w1 (.cells #[.slice (some ⟨h, 0, none⟩) n c1] 50)).mono (by omega) |>.trans (below_of_grown hG9 (fun g hg => (HT.out.1.lt g hg).1) (by simp; omega)))))
      clear hO9 hG9 hv9 hT9 hf9 hf9'
      go_wp2
      go_roundw
      case rel =>
        refine ⟨k + 1, a9, l + 1, q9, H', G', C', L', U', f', hlt, by go_num, rfl, Lib.hid (by rw [hl.out]), HT9.out, fun r hr => ?_, HB9.out⟩
        by_cases e : r = k
        · subst e; exact HF9.out.1
        · rw [HF9.out.2 r (by omega)]; exact HF.out r (by omega)
      case measure => simp [intOf]; omega
    · obtain rfl : k = d := by omega
      have hk0 : 0 < k := hd.1
      have hlk := hl.out
      obtain ⟨hb, rfl, hhb, hI⟩ : ∃ hb, a = some ⟨hb, 0, none⟩ ∧ hb < wr.heap.size ∧ HdsIn wr hb 0 (hdsT n H C k) := by
        rcases HT.out.1.at_.2 with h0 | ⟨hb, e, _, h2, _, h4⟩
        · have := hdsT_length n H C k
          rw [h0] at this
          simp at this
          omega
        · exact ⟨hb, e, h2, h4⟩
      have HI := Lib.hid hI
      have hl3 : l ≤ 3 := by omega
      clear hI hlk
      go_wp2
      go_loopw [28] (fun v28 w2 => ∃ (i : Nat) (f : Nat → MF), i ≤ s.size ∧ v28 = .int .i64 i ∧ TabsG n k w.heap.size w2 (.slice (some ⟨hb, 0, none⟩) l c) H G C L U f ∧ (∀ r x y, r < k → x < n → y < n → f r x y = if y = x + 1 ∧ x < i ∧ letN s x = r then 1 else 0) ∧ Below w.heap.size w w2 ∧ HdsIn w2 hb 0 (hdsT n H C k)) (fun v28 _ => s.size - (intOf v28).toNat)
      case atStart => exact ⟨0, f, Nat.zero_le _, rfl, HT.out, fun r x y hr hx hy => by rw [HF.out r hr, if_neg (by omega)], HB.out, HI.out⟩
      case round =>
        obtain ⟨i, f2, hi, rfl, hT2, hf2, hB2, hI2⟩ := hrel
        obtain ⟨wz, rfl⟩ : ∃ wz : World, wz = wr := ⟨_, rfl⟩
        have HT2 := Lib.hid hT2
        have HF2 := Lib.hid hf2
        have HB2 := Lib.hid hB2
        have HI2 := Lib.hid hI2
        clear hT2 hf2 hB2 hI2
        by_cases hlti : i < s.size
        · have hlet := HLet.out i hlti
          have hqk : letN s i < k := by simpa using hlet.1
          obtain ⟨q, hqe⟩ : ∃ q, letN s i = q := ⟨_, rfl⟩
          have HQ := Lib.hid hqe
          have hx := hlet.2
          rw [hqe] at hqk hx
          have c0 := HI2.out q (by rw [hdsT_length]; exact hqk)
          have c0' : wz.cell? ⟨hb, 0 + q, none⟩ = some (.slice (some ⟨H q, 0, none⟩) n (C q)) := by simpa [hdsT] using c0
          have HTa := Lib.hid (tableAt_v hb 0 l c s[i] q hx (by have := hl.out; omega) hl3 (.slice (some ⟨H q, 0, none⟩) n (C q)) wz c0')
          obtain ⟨b1, b2, b3, b4, b5, b6, b7, b8⟩ := HT2.out.2.1 q hqk
          have hin : i < n := by have := HN.out; omega
          have hjn : i + 1 < n := by have := HN.out; omega
          obtain ⟨ci, hc0⟩ := b7.2.2.2.1 i hin
          have hfit := row_fits (n := n) hin
          obtain ⟨⟨u, hu⟩, hz⟩ := b7.2.2.1.2 (i * n + (i + 1)) (by omega)
          have hgs := b7.2.2.1.1
          have HSt := Lib.hid (HT2.out.set hqk hin hjn 1)
          have hgb : G q ≠ hb := fun e => by have := b8 hb rfl; omega
          have HIs := Lib.hid (show ∀ u, HdsIn (wz.setCell ⟨G q, i * n + (i + 1), none⟩ u) hb 0 (hdsT n H C k) from fun u => HI2.out.setCell hgb u)
          have hlo : w.heap.size ≤ G q := by omega
          obtain ⟨o, ho⟩ : ∃ o, i * n = o := ⟨_, rfl⟩
          rw [ho] at hc0 hu hz HSt HIs
          clear ho hfit b7 b8 hlet c0 c0' hqe hx
          have hi1 : ((i : Int) + 1) < (n : Int) := by omega
          have hio : (i : Int) < (n : Int) := by omega
          go_wp2_with (go_at_call 68; refine HTa.out.mono ?_; rintro e w' ⟨rfl, rfl⟩)
          go_roundw
          case rel =>
            refine ⟨i + 1, _, hlti, by go_num, HSt.out, fun r x y hr hx hy => ?_, HB2.out.setCell (p := ⟨G q, o + (i + 1), none⟩) (by show w.heap.size ≤ G q; omega) _, HIs.out _⟩
            by_cases er : r = q
            · subst er
              simp only [if_pos]
              by_cases e : x = i ∧ y = i + 1
              · rw [if_pos e, if_pos ⟨by omega, by omega, by rw [e.1]; exact HQ.out⟩]
              · rw [if_neg e, HF2.out r x y hr hx hy]
                by_cases e2 : y = x + 1 ∧ x < i ∧ letN s x = r
                · rw [if_pos e2, if_pos ⟨e2.1, by omega, e2.2.2⟩]
                · rw [if_neg e2, if_neg (fun q => e2 ⟨q.1, by omega, q.2.2⟩)]
            · simp only [if_neg er]
              rw [HF2.out r x y hr hx hy]
              by_cases e2 : y = x + 1 ∧ x < i ∧ letN s x = r
              · rw [if_pos e2, if_pos ⟨e2.1, by omega, e2.2.2⟩]
              · refine (if_neg e2).trans (if_neg fun q2 => e2 ⟨q2.1, ?_, q2.2.2⟩).symm
                have : x ≠ i := fun e => er (by rw [← q2.2.2, e]; exact HQ.out)
                omega
          case measure => simp [intOf]; omega
        · obtain rfl : i = s.size := by omega
          have hNT := HT2.out.new hk0
          have HE := Lib.hid (show ((List.range k).map fun r => tabF n (f2 r)) = wordT k s from by
            unfold wordT
            rw [HN.out]
            refine List.map_congr_left fun r hr => tabF_congr fun x y hx hy => ?_
            rw [HF2.out r x y (List.mem_range.1 hr) hx hy]
            rfl)
          have HNT := Lib.hid hNT
          have HLw := Lib.hid (wordT_length k s)
          clear hNT
          go_wp2
          go_ret2
          exact ⟨_, c, by rw [HLw.out, ← HNT.out.1]; rfl, HB2.out, by rw [← HE.out]; exact HNT.out.2⟩
end Go.Proofs.Ytknigggjnjkhbaa
