/-
  'FnExactPathCoordinates' returns true at every input: the program's PathCoordinates and its model's return the same terms and code, in memory of its own, and the path reads as before. No condition.
  'FnExactPathCoordinates' returns true at every input for which the two functions' contracts stand: the program's PathCoordinates and its model's return the same terms and code, in memory of its own, and the argument reads as before.
  Contracts of PathCoordinates, of the program and of its model, out of LogSignature's.
  Contracts of LogSignature, of the program and of its model, out of those of SignatureOf: both return the same series and code.
  Plain mathematics: the terms of values at words make a series; the value of an exponential and of a path's signature at the empty word is 1.
  A slice of slices of int64, handed in: opened to its rows of numbers.
  What stands behind the marking of a path: rows of terms and known cells outside of its bounds.
-/
import Derived.Test.YtgcjpenlcokgjaaGreatDoorRes
import Derived.Test.YtgcjpenlcokgjaaGreatDoorPaths
import Derived.Test.YtgcjpenlcokgjaaGreatDoorEndOf
import Derived.Test.YtgcjpenlcokgjaaGreatDoorOpenR
import Derived.Test.YtgcjpenlcokgjaaGreatDoorSigS
import Derived.Test.YtgcjpenlcokgjaaGreatDoorSerU
import Derived.Test.YtgcjpenlcokgjaaGreatDoorLogSer
import Derived.Test.YtgcjpenlcokgjaaGreatDoorLieJ
import Derived.Test.YtgcjpenlcokgjaaGreatDoorConst
import Derived.Test.YtgcjpenlcokgjaaGreatDoorTmR
import Derived.Test.YtgcjpenlcokgjaaGreatDoorDoor
import Derived.Deep.Matrix
namespace Go.Proofs.YtgcjpenlcokgjaaGreatDoor
open Go.RowKit

theorem Cs.outside {lo hi : Nat} {w w' : World} {l : List (Nat × Nat × Value)} (h : Cs w l) (hg : Outside lo hi w w') (hr : ∀ p ∈ l, p.1 < lo ∨ hi ≤ p.1) : Cs w' l := fun p hp =>
  ⟨Nat.lt_of_lt_of_le (h p hp).1 hg.size, (hg.cell (h p hp).1 (hr p hp)).trans (h p hp).2⟩
theorem TermsIn.outside {lo hi : Nat} {w w' : World} {b off : Nat} {ts : List Tm} (h : TermsIn w b off ts) (hg : Outside lo hi w w') (hlt : b < w.heap.size) (ho : b < lo ∨ hi ≤ b) : TermsIn w' b off ts := fun i hi' =>
  ⟨(hg.cell hlt ho).trans (h i hi').1, (hg.cell hlt ho).trans (h i hi').2.1, (hg.cell hlt ho).trans (h i hi').2.2⟩
theorem RowB.outside {hi l h' : Nat} {w w' : World} {a : Option Addr} {ts : List Tm} (h : RowB hi w a ts) (hg : Outside l h' w w') (hh : hi ≤ w.heap.size) (ho : hi ≤ l) : RowB hi w' a ts := by
  rcases h with h | ⟨b, off, h1, h2, h3⟩
  · exact .inl h
  · exact .inr ⟨b, off, h1, h2, h3.outside hg (by omega) (.inl (by omega))⟩
theorem NewRow.outside {lo hi l h' : Nat} {w w' : World} {a : Option Addr} {ts : List Tm} (h : NewRow lo hi w a ts) (hg : Outside l h' w w') (ho : hi ≤ l ∨ h' ≤ lo) : NewRow lo hi w' a ts := by
  rcases h with h | ⟨g, h1, h2, h3, h4, h5⟩
  · exact .inl h
  · exact .inr ⟨g, h1, h2, h3, hg.made h4 (by omega), h5.outside hg h4.1 (by omega)⟩
end Go.Proofs.YtgcjpenlcokgjaaGreatDoor

namespace Go.Proofs.YtgcjpenlcokgjaaGreatDoor
open Go.ChangeShapes Go.WideShapes Go.ChangeAt Go.RowKit

section
variable {H : Type} {enc : TypeId × Value → H} {w : World} {base : Nat} {held : Bool}
theorem row_cells : Tryz.prog.cellsOf 86 = 1 := by kernel_rfl
theorem int64_cells1 : Tryz.prog.cellsOf 2 = 1 := by kernel_rfl
set_option maxRecDepth 100000 in
theorem open_path {r0 : Reach} {b0 : Nat} {v : Value} {d : DataW H} {p : List MemPlace} (hv : Value.okWide Tryz.prog w r0 b0 42 v) (h : DataW.Trod enc Tryz.prog w base (fun _ => true) held 42 v d p) :
    ∃ (a : Option Addr) (cap : Nat) (ps : List (List Int)), v = .slice a ps.length cap ∧ ps.length ≤ maxLen ∧ (∀ i (hi : i < ps.length), (ps[i]).length ≤ maxLen) ∧ PRow 0 w.heap.size w a ps := by
  obtain ⟨a0, len1, cap1, rfl⟩ := okWide_slice Tryz.underlying42 hv
  obtain ⟨fuel, h⟩ := h
  rcases Deep.open_int_rows Tryz.underlying42 Tryz.underlying86 Tryz.underlying2 row_cells int64_cells1 h with ⟨e, _⟩ | ⟨a, len, cap, A, L, C, Z, e, hb, hl, hm, _, hr⟩
  · simp [Value.cells] at e
    obtain ⟨rfl, rfl, rfl⟩ := e
    exact ⟨none, 0, [], rfl, by simp, fun i hi => absurd hi (Nat.not_lt_zero _), .inl rfl⟩
  · simp [Value.cells] at e
    obtain ⟨rfl, rfl, rfl⟩ := e
    refine ⟨some a, cap1, (List.range len1).map fun r => (Z r).take (L r), by simp, by simp; omega, fun i hi => ?_, ?_⟩
    · have hi' : i < len1 := by simpa using hi
      obtain ⟨_, h1, h2, h3, _⟩ := hr i (by omega)
      simp only [List.getElem_map, List.getElem_range, List.length_take]
      omega
    · by_cases h0 : len1 = 0
      · subst h0; exact .inl (by simp)
      · obtain ⟨hsp, hab⟩ := addr_of (hr 0 (by omega)).1
        have hbase : (a.add 0) = a := by simp [Addr.add]
        rw [hbase] at hsp hab
        obtain ⟨b, off, sp⟩ := a
        simp only at hsp hab
        subst hsp
        refine .inr ⟨b, off, rfl, Nat.zero_le _, hab, fun i hi => ?_⟩
        have hi' : i < len1 := by simpa using hi
        obtain ⟨hc, h1, h2, h3, _, h4, h5⟩ := hr i (by omega)
        have hlen : ((Z i).take (L i)).length = L i := by rw [List.length_take]; omega
        refine ⟨A i, C i, ?_, ?_⟩
        · simp only [List.getElem_map, List.getElem_range, hlen]
          rw [add_form] at hc
          exact hc
        · simp only [List.getElem_map, List.getElem_range]
          by_cases hz : L i = 0
          · exact .inl (by rw [hz, List.take_zero])
          · have hAn : A i ≠ none := fun e => by have := h4 e; omega
            obtain ⟨a', ha'⟩ := Option.ne_none_iff_exists'.1 hAn
            obtain ⟨_, hcc⟩ := h5 a' ha'
            obtain ⟨hsp', hab'⟩ := addr_of (hcc 0 (by omega))
            have hbase' : (a'.add 0) = a' := by simp [Addr.add]
            rw [hbase'] at hsp' hab'
            obtain ⟨b', off', sp'⟩ := a'
            simp only at hsp' hab'
            subst hsp'
            refine .inr ⟨b', off', ha', Nat.zero_le _, hab', fun j hj => ?_⟩
            rw [hlen] at hj
            have hq := hcc j (by omega)
            rw [add_form] at hq
            rw [hq, List.getElem_take, List.getD_eq_getElem?_getD, List.getElem?_eq_getElem (by omega)]
            rfl
end
end Go.Proofs.YtgcjpenlcokgjaaGreatDoor

namespace Go.Proofs.YtgcjpenlcokgjaaGreatDoor

-- the value at the empty word
theorem unit_at : unitF ByteArray.empty = some (1, 1) := by unfold unitF setF; rw [if_pos rfl]
theorem empty_cut (k : Nat) : (ByteArray.empty).extract 0 k = ByteArray.empty ∧ (ByteArray.empty).extract k (ByteArray.empty).size = ByteArray.empty := by
  constructor <;> exact data_eq (by simp)
theorem prod_at {f g h : VF} {ws : List ByteArray} (hp : prodV f g ws = some h) : h ByteArray.empty = if inL ByteArray.empty ws = true then (prodAt f g ByteArray.empty).bind nzF else none := by
  unfold prodV at hp
  split at hp
  · injection hp with hp
    rw [← hp]
    rfl
  · cases hp
theorem prodAt_empty (f g : VF) : prodAt f g ByteArray.empty = cutStep f g ByteArray.empty 0 (0, 1) := by
  show cutsUp f g ByteArray.empty 1 = _
  rfl
theorem prod_one {f g h : VF} {D N : Nat} (hp : prodV f g (allW D N) = some h) (hf : f ByteArray.empty = some (1, 1)) (hg : g ByteArray.empty = some (1, 1)) : h ByteArray.empty = some (1, 1) := by
  obtain ⟨r, er, _⟩ := allW_head D N
  rw [prod_at hp, if_pos (inL_iff.2 (by rw [er]; simp)), prodAt_empty]
  unfold cutStep
  rw [(empty_cut 0).1, (empty_cut 0).2, hf]
  simp only [hg]
  decide
theorem prod_none {f g h : VF} {ws : List ByteArray} (hp : prodV f g ws = some h) (hg : g ByteArray.empty = none) : h ByteArray.empty = none := by
  rw [prod_at hp, prodAt_empty]
  unfold cutStep
  rw [(empty_cut 0).1, (empty_cut 0).2]
  split
  · cases f ByteArray.empty with
    | none => rfl
    | some x => simp only [hg]; rfl
  · rfl
theorem addStep_off {g f h : VF} {a b : Int} {s t : ByteArray} (e : addStep g a b f s = some h) (ht : t ≠ s) : h t = f t := by
  cases hs : g s with
  | none => rw [addStep_none hs] at e; injection e with e; rw [e]
  | some v =>
    rw [addStep_some hs] at e
    obtain ⟨r, _, rfl⟩ := Option.map_eq_some_iff.1 e
    unfold setF
    rw [if_neg ht]
theorem addK_off {g : VF} {a b : Int} {t : ByteArray} : ∀ {ws : List ByteArray} {f h : VF}, t ∉ ws → addK g a b ws f = some h → h t = f t
  | [], f, h, _, e => by unfold addK at e; injection e with e; rw [e]
  | s :: ws, f, h, ht, e => by
    unfold addK at e
    obtain ⟨f', h1, h2⟩ := Option.bind_eq_some_iff.1 e
    simp only [List.mem_cons, not_or] at ht
    rw [addK_off ht.2 h2, addStep_off h1 ht.1]
theorem addK_none {g f h : VF} {a b : Int} {D N : Nat} (e : addK g a b (allW D N) f = some h) (hg : g ByteArray.empty = none) : h ByteArray.empty = f ByteArray.empty := by
  obtain ⟨r, er, hr⟩ := allW_head D N
  rw [er] at e
  unfold addK at e
  obtain ⟨f', h1, h2⟩ := Option.bind_eq_some_iff.1 e
  rw [addStep_none hg] at h1
  injection h1 with h1
  rw [addK_off (fun m => hr _ m rfl) h2, h1]
theorem addK_first {h : VF} {D N : Nat} (e : addK unitF 1 1 (allW D N) noneF = some h) : h ByteArray.empty = some (1, 1) := by
  obtain ⟨r, er, hr⟩ := allW_head D N
  rw [er] at e
  unfold addK at e
  obtain ⟨f', h1, h2⟩ := Option.bind_eq_some_iff.1 e
  rw [addK_off (fun m => hr _ m rfl) h2]
  rw [addStep_some unit_at, valF_none (show noneF _ = none from rfl)] at h1
  have e2 : apS 0 1 1 1 1 1 = some (1, 1) := by decide
  rw [e2, Option.map_some] at h1
  injection h1 with h1
  rw [← h1]
  unfold setF
  rw [if_pos rfl]
  rfl
theorem pow_none {x p : VF} {ws : List ByteArray} (hx : x ByteArray.empty = none) : ∀ {k : Nat}, powV x ws (k + 1) = some p → p ByteArray.empty = none := fun {k} h => by
  rw [powV] at h
  obtain ⟨q, _, h2⟩ := Option.bind_eq_some_iff.1 h
  exact prod_none h2 hx
theorem exp_one {x : VF} {D N : Nat} (hx : x ByteArray.empty = none) : ∀ {k : Nat} {h : VF}, sumK x (allW D N) expF (k + 1) = some h → h ByteArray.empty = some (1, 1)
  | 0, h, e => by
    rw [sumK] at e
    obtain ⟨s, h1, h2⟩ := Option.bind_eq_some_iff.1 e
    rw [sumK] at h1
    injection h1 with h1
    obtain ⟨p, h3, h4⟩ := Option.bind_eq_some_iff.1 h2
    rw [powV] at h3
    injection h3 with h3
    rw [← h1, ← h3] at h4
    exact addK_first h4
  | k + 1, h, e => by
    rw [sumK] at e
    obtain ⟨s, h1, h2⟩ := Option.bind_eq_some_iff.1 e
    obtain ⟨p, h3, h4⟩ := Option.bind_eq_some_iff.1 h2
    rw [addK_none h4 (pow_none hx h3)]
    exact exp_one hx h1
theorem sig_one {ps : List (List Int)} {D N : Nat} : ∀ {k : Nat} {h : VF}, sigV ps (allW D N) N k = some h → h ByteArray.empty = some (1, 1)
  | 0, h, e => by
    rw [sigV] at e
    injection e with e
    rw [← e]
    exact unit_at
  | k + 1, h, e => by
    rw [sigV] at e
    obtain ⟨s, h1, h2⟩ := Option.bind_eq_some_iff.1 e
    obtain ⟨x, h3, h4⟩ := Option.bind_eq_some_iff.1 h2
    exact prod_one h4 (sig_one h1) (exp_one (by unfold stepV; exact stepF_empty _ _ _) h3)
/-- the constant of a signature -/
theorem sig_const {ps : List (List Int)} {D N : Nat} (hs : shapeB (D : Int) (N : Int) = true) {k : Nat} {h : VF} (e : sigV ps (allW D N) N k = some h) : valL [] (termsOf h (allW D N)) = (1, 1) := by
  have hD := shape_out hs
  have e2 := valL_termsOf (allW_asc (D := D) (by omega) N) (sigV_good e) ByteArray.empty
  rw [valF_some (sig_one e)] at e2
  exact e2
end Go.Proofs.YtgcjpenlcokgjaaGreatDoor

namespace Go.Proofs.YtgcjpenlcokgjaaGreatDoor
open Go.RowKit

set_option maxRecDepth 100000 in
set_option maxHeartbeats 4000000 in
theorem sLogS_err (L V : Int) (a : Option Addr) (cap n : Nat) (c : Int) (hn : c ≠ 0) (w : World) (hSg : ∀ W, Below w.heap.size w W → Calls Tryz.prog 97 #[.int .i64 L, .int .i64 V, .slice a n cap] W (SerPost 0 0 [] c W)) :
    Calls Tryz.prog 53 #[.int .i64 L, .int .i64 V, .slice a n cap] w (SerPost 0 0 [] c w) := by
  have HS := Lib.hid hSg
  have hnb : (c != 0) = true := by simpa using hn
  clear hSg hn
  go_enter Tryz.func53, Tryz.ntmps53
  go_wp2_with fail
  refine (HS.out _ (below1 w _)).mono ?_
  rintro e w1 ⟨a1, c1, rfl, hb, hN⟩
  have hT := (T3.new w 0 0 none 0 0 26).next hb
  have HW1 := Lib.hid ((below1 w (.cells #[.int .i64 0, .int .i64 0, .slice none 0 0] 26)).trans (hb.mono (by simp)))
  obtain ⟨hz1, r0, r1, r2, z0, z1, z2⟩ := id hT
  clear hb hT hN
  go_wp2
  refine bodyPost_ret (v := .tuple #[.agg #[.int .i64 0, .int .i64 0, .slice none 0 0], .int .i64 c]) (by simp [results, Tryz.results53, go_sem, r0, r1, r2, hz1]) rfl (SerPost.err c rfl ?_)
  have hW := HW1.out
  go_grown
set_option maxRecDepth 100000 in
set_option maxHeartbeats 4000000 in
theorem iLogS_err (L V : Int) (a : Option Addr) (cap n : Nat) (c : Int) (hn : c ≠ 0) (w : World) (hSg : ∀ W, Below w.heap.size w W → Calls Tryz.prog 99 #[.int .i64 L, .int .i64 V, .slice a n cap] W (SerPost 0 0 [] c W)) :
    Calls Tryz.prog 55 #[.int .i64 L, .int .i64 V, .slice a n cap] w (SerPost 0 0 [] c w) := by
  have HS := Lib.hid hSg
  have hnb : (c != 0) = true := by simpa using hn
  clear hSg hn
  go_enter Tryz.func55, Tryz.ntmps55
  go_wp2_with fail
  refine (HS.out _ (below1 w _)).mono ?_
  rintro e w1 ⟨a1, c1, rfl, hb, hN⟩
  have hT := (T3.new w 0 0 none 0 0 26).next hb
  have HW1 := Lib.hid ((below1 w (.cells #[.int .i64 0, .int .i64 0, .slice none 0 0] 26)).trans (hb.mono (by simp)))
  obtain ⟨hz1, r0, r1, r2, z0, z1, z2⟩ := id hT
  clear hb hT hN
  go_wp2
  refine bodyPost_ret (v := .tuple #[.agg #[.int .i64 0, .int .i64 0, .slice none 0 0], .int .i64 c]) (by simp [results, Tryz.results55, go_sem, r0, r1, r2, hz1]) rfl (SerPost.err c rfl ?_)
  have hW := HW1.out
  go_grown
set_option maxRecDepth 100000 in
set_option maxHeartbeats 4000000 in
theorem sLogS_no (D N : Nat) (hs : shapeB (D : Int) (N : Int) = true) (a : Option Addr) (cap n : Nat) (g : VF) (hg : GoodV (allW D N) g) (hg1 : valL [] (termsOf g (allW D N)) = (1, 1)) (hv : logV g (allW D N) N = none) (w : World) (hSg : ∀ W, Below w.heap.size w W → Calls Tryz.prog 97 #[.int .i64 D, .int .i64 N, .slice a n cap] W (SerPost D N (termsOf g (allW D N)) 0 W)) :
    Calls Tryz.prog 53 #[.int .i64 D, .int .i64 N, .slice a n cap] w (SerPost 0 0 [] 3 w) := by
  have HS := Lib.hid hSg
  have hDN := shape_out hs
  have hfew := allW_few (D := D) (by omega) (n := N) (by omega)
  have hlt := termsOf_len g (allW D N)
  have HL := Lib.hid (show (termsOf g (allW D N)).length ≤ 1048576 by omega)
  have HM := Lib.hid (fun a1 c1 W r => l02Log_c D N (by omega) (by omega) a1 c1 g hg (termsOf g (allW D N)) rfl W r)
  rw [hv] at HM
  have HNe := Lib.hid (show termsOf g (allW D N) ≠ [] from fun e => by rw [e] at hg1; cases hg1)
  clear hSg hs hg hg1 hv hfew hlt
  generalize termsOf g (allW D N) = xs at *
  go_enter Tryz.func53, Tryz.ntmps53
  go_wp2_with fail
  refine (HS.out _ (below1 w _)).mono ?_
  rintro e w1 ⟨a1, c1, rfl, hb, hN⟩
  have hT := (T3.new w 0 0 none 0 0 26).next hb
  have HW1 := Lib.hid ((below1 w (.cells #[.int .i64 0, .int .i64 0, .slice none 0 0] 26)).trans (hb.mono (by simp)))
  have HT := Lib.hid hT
  have hz1 := hT.1
  have HNr := Lib.hid hN.row
  have HMc := Lib.hid (HM.out a1 c1 (w1.alloc (.cells #[.int .i64 D, .int .i64 N, .slice a1 xs.length c1] 26)) (HNr.out.below (below1 w1 _)))
  clear hb hT hN
  go_wp2_with fail
  refine HMc.out.mono ?_
  rintro e w2 ⟨rfl, hb2⟩
  have hT2 := (HT.out.alloc (.cells #[.int .i64 D, .int .i64 N, .slice a1 xs.length c1] 26)).next hb2
  have HW2 := Lib.hid ((HW1.out.alloc HW1.out.size (.cells #[.int .i64 D, .int .i64 N, .slice a1 xs.length c1] 26)).trans (hb2.mono (by have := HW1.out.size; simp; omega)))
  obtain ⟨hzr, r0, r1, r2, z0, z1, z2⟩ := id hT2
  have hz2 : w1.heap.size < w2.heap.size := by have := hb2.size; simp at this; omega
  clear hb2 hT2
  go_wp2
  refine bodyPost_ret (v := .tuple #[.agg #[.int .i64 0, .int .i64 0, .slice none 0 0], .int .i64 3]) (by simp [results, Tryz.results53, go_sem, r0, r1, r2, hzr]) rfl (SerPost.err 3 rfl ?_)
  have hW := HW2.out
  go_grown
set_option maxRecDepth 100000 in
set_option maxHeartbeats 4000000 in
theorem sLogS_yes (D N : Nat) (hs : shapeB (D : Int) (N : Int) = true) (a : Option Addr) (cap n : Nat) (g : VF) (hg : GoodV (allW D N) g) (hg1 : valL [] (termsOf g (allW D N)) = (1, 1)) (h : VF) (hv : logV g (allW D N) N = some h) (w : World) (hSg : ∀ W, Below w.heap.size w W → Calls Tryz.prog 97 #[.int .i64 D, .int .i64 N, .slice a n cap] W (SerPost D N (termsOf g (allW D N)) 0 W)) :
    Calls Tryz.prog 53 #[.int .i64 D, .int .i64 N, .slice a n cap] w (SerPost D N (termsOf h (allW D N)) 0 w) := by
  have HS := Lib.hid hSg
  have hDN := shape_out hs
  have hfew := allW_few (D := D) (by omega) (n := N) (by omega)
  have hlt := termsOf_len g (allW D N)
  have HL := Lib.hid (show (termsOf g (allW D N)).length ≤ 1048576 by omega)
  have HM := Lib.hid (fun a1 c1 W r => l02Log_c D N (by omega) (by omega) a1 c1 g hg (termsOf g (allW D N)) rfl W r)
  rw [hv] at HM
  have HNe := Lib.hid (show termsOf g (allW D N) ≠ [] from fun e => by rw [e] at hg1; cases hg1)
  clear hSg hs hg hg1 hv hfew hlt
  generalize termsOf g (allW D N) = xs at *
  go_enter Tryz.func53, Tryz.ntmps53
  go_wp2_with fail
  refine (HS.out _ (below1 w _)).mono ?_
  rintro e w1 ⟨a1, c1, rfl, hb, hN⟩
  have hT := (T3.new w 0 0 none 0 0 26).next hb
  have HW1 := Lib.hid ((below1 w (.cells #[.int .i64 0, .int .i64 0, .slice none 0 0] 26)).trans (hb.mono (by simp)))
  have HT := Lib.hid hT
  have hz1 := hT.1
  have HNr := Lib.hid hN.row
  have HMc := Lib.hid (HM.out a1 c1 (w1.alloc (.cells #[.int .i64 D, .int .i64 N, .slice a1 xs.length c1] 26)) (HNr.out.below (below1 w1 _)))
  clear hb hT hN
  go_wp2_with fail
  refine HMc.out.mono ?_
  rintro e w2 ⟨a4, c4, rfl, hb2, hN4⟩
  have hT2 := (HT.out.alloc (.cells #[.int .i64 D, .int .i64 N, .slice a1 xs.length c1] 26)).next hb2
  have HW2 := Lib.hid ((HW1.out.alloc HW1.out.size (.cells #[.int .i64 D, .int .i64 N, .slice a1 xs.length c1] 26)).trans (hb2.mono (by have := HW1.out.size; simp; omega)))
  obtain ⟨hzr, r0, r1, r2, z0, z1, z2⟩ := id hT2
  have hz2 : w1.heap.size < w2.heap.size := by have := hb2.size; simp at this; omega
  have HN4 := Lib.hid (hN4.mono (lo' := w.heap.size + 1) (hi' := w2.heap.size) (by simp; omega) (Nat.le_refl _))
  clear hb2 hT2 hN4
  go_wp2
  refine bodyPost_ret (v := .tuple #[.agg #[.int .i64 D, .int .i64 N, .slice a4 (termsOf h (allW D N)).length c4], .int .i64 0]) (by simp [results, Tryz.results53, go_sem, r0, r1, r2, hzr]) rfl ⟨a4, c4, rfl, ?_, ?_⟩
  · have hW := HW2.out
    go_grown
  · first
      | exact (((HN4.out.far1s (by omega)).far1s (by omega)).far1s (by omega)).mono (by omega) (by simp)
      | exact ((((HN4.out.below (below1 _ _) (by simp)).far1s (by omega)).far1s (by omega)).far1s (by omega)).mono (by omega) (by simp)
      | exact ((((HN4.out.far1s (by omega)).far1s (by omega)).far1s (by omega)).below (below1 _ _) (by simp)).mono (by omega) (by simp)
set_option maxRecDepth 100000 in
set_option maxHeartbeats 4000000 in
theorem iLogS_no (D N : Nat) (hs : shapeB (D : Int) (N : Int) = true) (a : Option Addr) (cap n : Nat) (g : VF) (hg : GoodV (allW D N) g) (hg1 : valL [] (termsOf g (allW D N)) = (1, 1)) (hv : logV g (allW D N) N = none) (w : World) (hSg : ∀ W, Below w.heap.size w W → Calls Tryz.prog 99 #[.int .i64 D, .int .i64 N, .slice a n cap] W (SerPost D N (termsOf g (allW D N)) 0 W)) :
    Calls Tryz.prog 55 #[.int .i64 D, .int .i64 N, .slice a n cap] w (SerPost 0 0 [] 3 w) := by
  have HS := Lib.hid hSg
  have hDN := shape_out hs
  have hfew := allW_few (D := D) (by omega) (n := N) (by omega)
  have hlt := termsOf_len g (allW D N)
  have HL := Lib.hid (show (termsOf g (allW D N)).length ≤ 1048576 by omega)
  have hser := ser_terms hs hg
  have hvv := valV_terms hs hg
  have hsz : ∀ i (h : i < (termsOf g (allW D N)).length), ((termsOf g (allW D N))[i]).s.size ≤ maxLen := fun i h => by
    have h1 := allW_size D N _ (termsOf_iff.1 (List.getElem_mem h)).1
    unfold maxLen
    omega
  have HM := Lib.hid (fun g1 (c1 : Nat) W hb ht => iLog_3no (cap := c1) D N 1 1 g1 (termsOf g (allW D N)) HL.out hsz hser hg1 ⟨rfl, rfl⟩ (by rw [hvv]; exact hv) W hb ht)
  have HNe := Lib.hid (show termsOf g (allW D N) ≠ [] from fun e => by rw [e] at hg1; cases hg1)
  clear hSg hs hg hg1 hv hfew hlt hser hvv hsz
  generalize termsOf g (allW D N) = xs at *
  go_enter Tryz.func55, Tryz.ntmps55
  go_wp2_with fail
  refine (HS.out _ (below1 w _)).mono ?_
  rintro e w1 ⟨a1, c1, rfl, hb, hN⟩
  have hT := (T3.new w 0 0 none 0 0 26).next hb
  have HW1 := Lib.hid ((below1 w (.cells #[.int .i64 0, .int .i64 0, .slice none 0 0] 26)).trans (hb.mono (by simp)))
  have HT := Lib.hid hT
  have hz1 := hT.1
  have HNr := Lib.hid hN.row
  obtain ⟨g1, rfl, hg1, hM1, hTi⟩ : ∃ g1, a1 = some ⟨g1, 0, none⟩ ∧ g1 < w1.heap.size ∧ True ∧ TermsIn w1 g1 0 xs := by
    rcases hN with h | ⟨g1, e1, _, h2, _, h4⟩
    · exact absurd h HNe.out
    · exact ⟨g1, e1, h2, trivial, h4⟩
  have HMc := Lib.hid (HM.out g1 c1 (w1.alloc (.cells #[.int .i64 D, .int .i64 N, .slice (some ⟨g1, 0, none⟩) xs.length c1] 26)) (by simp; omega) (hTi.below (below1 w1 _) hg1))
  clear hb hT hN hTi
  go_wp2_with fail
  refine HMc.out.mono ?_
  rintro e w2 ⟨a4, c4, rfl, hb2, hN4⟩
  have hT2 := (HT.out.alloc (.cells #[.int .i64 D, .int .i64 N, .slice (some ⟨g1, 0, none⟩) xs.length c1] 26)).next hb2
  have HW2 := Lib.hid ((HW1.out.alloc HW1.out.size (.cells #[.int .i64 D, .int .i64 N, .slice (some ⟨g1, 0, none⟩) xs.length c1] 26)).trans (hb2.mono (by have := HW1.out.size; simp; omega)))
  obtain ⟨hzr, r0, r1, r2, z0, z1, z2⟩ := id hT2
  have hz2 : w1.heap.size < w2.heap.size := by have := hb2.size; simp at this; omega
  clear hb2 hT2 hN4
  go_wp2
  refine bodyPost_ret (v := .tuple #[.agg #[.int .i64 0, .int .i64 0, .slice a4 0 c4], .int .i64 3]) (by simp [results, Tryz.results55, go_sem, r0, r1, r2]) rfl ⟨a4, c4, rfl, ?_, .inl rfl⟩
  have hW := HW2.out
  go_grown
set_option maxRecDepth 100000 in
set_option maxHeartbeats 4000000 in
theorem iLogS_yes (D N : Nat) (hs : shapeB (D : Int) (N : Int) = true) (a : Option Addr) (cap n : Nat) (g : VF) (hg : GoodV (allW D N) g) (hg1 : valL [] (termsOf g (allW D N)) = (1, 1)) (h : VF) (hv : logV g (allW D N) N = some h) (w : World) (hSg : ∀ W, Below w.heap.size w W → Calls Tryz.prog 99 #[.int .i64 D, .int .i64 N, .slice a n cap] W (SerPost D N (termsOf g (allW D N)) 0 W)) :
    Calls Tryz.prog 55 #[.int .i64 D, .int .i64 N, .slice a n cap] w (SerPost D N (termsOf h (allW D N)) 0 w) := by
  have HS := Lib.hid hSg
  have hDN := shape_out hs
  have hfew := allW_few (D := D) (by omega) (n := N) (by omega)
  have hlt := termsOf_len g (allW D N)
  have HL := Lib.hid (show (termsOf g (allW D N)).length ≤ 1048576 by omega)
  have hser := ser_terms hs hg
  have hvv := valV_terms hs hg
  have hsz : ∀ i (h : i < (termsOf g (allW D N)).length), ((termsOf g (allW D N))[i]).s.size ≤ maxLen := fun i h => by
    have h1 := allW_size D N _ (termsOf_iff.1 (List.getElem_mem h)).1
    unfold maxLen
    omega
  have HM := Lib.hid (fun g1 (c1 : Nat) W hb ht => iLog_3yes (cap := c1) D N 1 1 g1 (termsOf g (allW D N)) HL.out hsz hser hg1 ⟨rfl, rfl⟩ h (by rw [hvv]; exact hv) W hb ht)
  have HNe := Lib.hid (show termsOf g (allW D N) ≠ [] from fun e => by rw [e] at hg1; cases hg1)
  clear hSg hs hg hg1 hv hfew hlt hser hvv hsz
  generalize termsOf g (allW D N) = xs at *
  go_enter Tryz.func55, Tryz.ntmps55
  go_wp2_with fail
  refine (HS.out _ (below1 w _)).mono ?_
  rintro e w1 ⟨a1, c1, rfl, hb, hN⟩
  have hT := (T3.new w 0 0 none 0 0 26).next hb
  have HW1 := Lib.hid ((below1 w (.cells #[.int .i64 0, .int .i64 0, .slice none 0 0] 26)).trans (hb.mono (by simp)))
  have HT := Lib.hid hT
  have hz1 := hT.1
  have HNr := Lib.hid hN.row
  obtain ⟨g1, rfl, hg1, hM1, hTi⟩ : ∃ g1, a1 = some ⟨g1, 0, none⟩ ∧ g1 < w1.heap.size ∧ True ∧ TermsIn w1 g1 0 xs := by
    rcases hN with h | ⟨g1, e1, _, h2, _, h4⟩
    · exact absurd h HNe.out
    · exact ⟨g1, e1, h2, trivial, h4⟩
  have HMc := Lib.hid (HM.out g1 c1 (w1.alloc (.cells #[.int .i64 D, .int .i64 N, .slice (some ⟨g1, 0, none⟩) xs.length c1] 26)) (by simp; omega) (hTi.below (below1 w1 _) hg1))
  clear hb hT hN hTi
  go_wp2_with fail
  refine HMc.out.mono ?_
  rintro e w2 ⟨a4, c4, rfl, hb2, hN4⟩
  have hT2 := (HT.out.alloc (.cells #[.int .i64 D, .int .i64 N, .slice (some ⟨g1, 0, none⟩) xs.length c1] 26)).next hb2
  have HW2 := Lib.hid ((HW1.out.alloc HW1.out.size (.cells #[.int .i64 D, .int .i64 N, .slice (some ⟨g1, 0, none⟩) xs.length c1] 26)).trans (hb2.mono (by have := HW1.out.size; simp; omega)))
  obtain ⟨hzr, r0, r1, r2, z0, z1, z2⟩ := id hT2
  have hz2 : w1.heap.size < w2.heap.size := by have := hb2.size; simp at this; omega
  have HN4 := Lib.hid (hN4.mono (lo' := w.heap.size + 1) (hi' := w2.heap.size) (by simp; omega) (Nat.le_refl _))
  clear hb2 hT2 hN4
  go_wp2
  refine bodyPost_ret (v := .tuple #[.agg #[.int .i64 D, .int .i64 N, .slice a4 (termsOf h (allW D N)).length c4], .int .i64 0]) (by simp [results, Tryz.results55, go_sem, r0, r1, r2]) rfl ⟨a4, c4, rfl, ?_, ?_⟩
  · have hW := HW2.out
    go_grown
  · first
      | exact (((HN4.out.far1s (by omega)).far1s (by omega)).far1s (by omega)).mono (by omega) (by simp)
      | exact ((((HN4.out.below (below1 _ _) (by simp)).far1s (by omega)).far1s (by omega)).far1s (by omega)).mono (by omega) (by simp)
      | exact ((((HN4.out.far1s (by omega)).far1s (by omega)).far1s (by omega)).below (below1 _ _) (by simp)).mono (by omega) (by simp)
end Go.Proofs.YtgcjpenlcokgjaaGreatDoor

namespace Go.Proofs.YtgcjpenlcokgjaaGreatDoor
open Go.RowKit

set_option maxRecDepth 100000 in
set_option maxHeartbeats 1000000 in
theorem sPaC_err (L V : Int) (a : Option Addr) (cap n : Nat) (c : Int) (hn : c ≠ 0) (w : World) (hLg : ∀ W, Below w.heap.size w W → Calls Tryz.prog 53 #[.int .i64 L, .int .i64 V, .slice a n cap] W (SerPost 0 0 [] c W)) :
    Calls Tryz.prog 25 #[.int .i64 L, .int .i64 V, .slice a n cap] w (TermsPost [] c w) := by
  have HLg := Lib.hid hLg
  have hcn : (c != 0) = true := by simpa using hn
  clear hLg hn
  go_enter Tryz.func25, Tryz.ntmps25
  go_wp2_with fail
  refine (HLg.out _ (Below.refl _ _)).mono ?_
  rintro e w1 ⟨a4, c4, rfl, hb1, hN1⟩
  have HB1 := Lib.hid hb1
  clear hb1 hN1
  go_wp2
  go_ret2
  refine TermsPost.err c rfl ?_
  exact HB1.out.alloc HB1.out.size _
set_option maxRecDepth 100000 in
set_option maxHeartbeats 1000000 in
theorem sPaC_yes (D N : Nat) (hsh : shapeB (D : Int) (N : Int) = true) (a : Option Addr) (cap n : Nat) (h : VF) (hh : GoodV (allW D N) h) (m : Nat) (hm : m ≤ 121) (c : Int) (z : List Tm) (hz : LieR (allW D N) m h [] c z) (w : World) (hLg : ∀ W, Below w.heap.size w W → Calls Tryz.prog 53 #[.int .i64 D, .int .i64 N, .slice a n cap] W (SerPost D N (termsOf h (allW D N)) 0 W)) :
    Calls Tryz.prog 25 #[.int .i64 D, .int .i64 N, .slice a n cap] w (TermsPost z c w) := by
  have HLg := Lib.hid hLg
  have HCo := Lib.hid (fun a4 c4 W (r : Row W a4 (termsOf h (allW D N))) => (show Calls Tryz.prog 48 #[.agg #[.int .i64 D, .int .i64 N, .slice a4 (termsOf h (allW D N)).length c4]] W (TermsPost z c W) from l06Coordinates_c D N hsh a4 c4 h hh (termsOf h (allW D N)) rfl m hm c z hz W r))
  clear hLg hsh hh hz
  go_enter Tryz.func25, Tryz.ntmps25
  go_wp2_with fail
  refine (HLg.out _ (Below.refl _ _)).mono ?_
  rintro e w1 ⟨a4, c4, rfl, hb1, hN1⟩
  have HB1 := Lib.hid hb1
  have hz1 := hb1.size
  have HR1 := Lib.hid hN1.row
  have HC := Lib.hid (fun W (hW : Below w1.heap.size w1 W) => HCo.out a4 c4 W (HR1.out.below hW))
  clear hb1 hN1
  go_wp2_with fail
  refine (HC.out _ (below1 w1 _)).mono ?_
  rintro e w2 ⟨aZ, cZ, rfl, hb2, hN2⟩
  have hb12 : Below w1.heap.size w1 w2 := (below1 w1 _).trans (hb2.mono (by simp))
  have HB2 := Lib.hid (HB1.out.trans (hb12.mono hz1))
  have HN2 := Lib.hid (hN2.mono (lo' := w.heap.size) (by simp; omega) (Nat.le_refl _))
  clear hb2 hb12 hN2
  go_wp2
  go_ret2
  exact ⟨aZ, cZ, rfl, HB2.out, HN2.out⟩

set_option maxRecDepth 100000 in
set_option maxHeartbeats 1000000 in
theorem iPaC_err (L V : Int) (a : Option Addr) (cap n : Nat) (c : Int) (hn : c ≠ 0) (w : World) (hLg : ∀ W, Below w.heap.size w W → Calls Tryz.prog 55 #[.int .i64 L, .int .i64 V, .slice a n cap] W (SerPost 0 0 [] c W)) :
    Calls Tryz.prog 27 #[.int .i64 L, .int .i64 V, .slice a n cap] w (TermsPost [] c w) := by
  have HLg := Lib.hid hLg
  have hcn : (c != 0) = true := by simpa using hn
  clear hLg hn
  go_enter Tryz.func27, Tryz.ntmps27
  go_wp2_with fail
  refine (HLg.out _ (Below.refl _ _)).mono ?_
  rintro e w1 ⟨a4, c4, rfl, hb1, hN1⟩
  have HB1 := Lib.hid hb1
  clear hb1 hN1
  go_wp2
  go_ret2
  refine TermsPost.err c rfl ?_
  exact HB1.out.alloc HB1.out.size _
set_option maxRecDepth 100000 in
set_option maxHeartbeats 1000000 in
theorem iPaC_yes (D N : Nat) (hsh : shapeB (D : Int) (N : Int) = true) (a : Option Addr) (cap n : Nat) (h : VF) (hh : GoodV (allW D N) h) (m : Nat) (hm : m ≤ 121) (c : Int) (z : List Tm) (hz : LieR (allW D N) m h [] c z) (w : World) (hLg : ∀ W, Below w.heap.size w W → Calls Tryz.prog 55 #[.int .i64 D, .int .i64 N, .slice a n cap] W (SerPost D N (termsOf h (allW D N)) 0 W)) :
    Calls Tryz.prog 27 #[.int .i64 D, .int .i64 N, .slice a n cap] w (TermsPost z c w) := by
  have HLg := Lib.hid hLg
  have HCo := Lib.hid (fun a4 c4 W (r : Row W a4 (termsOf h (allW D N))) => (show Calls Tryz.prog 22 #[.agg #[.int .i64 D, .int .i64 N, .slice a4 (termsOf h (allW D N)).length c4]] W (TermsPost z c W) from iLie_g D N hsh a4 c4 h hh m hm c z hz W r (fun W2 hW2 => by
    have hDN := shape_out hsh
    have hfew := allW_few (D := D) (by omega) (n := N) (by omega)
    have h7 := iIs_row D N a4 c4 (termsOf h (allW D N)) (by have := termsOf_len h (allW D N); omega) (fun i hi => by
      have := allW_size D N _ (termsOf_iff.1 (List.getElem_mem hi)).1
      unfold maxLen; omega) W2 (r.below hW2)
    rw [ser_terms hsh hh] at h7
    exact h7)))
  clear hLg hsh hh hz
  go_enter Tryz.func27, Tryz.ntmps27
  go_wp2_with fail
  refine (HLg.out _ (Below.refl _ _)).mono ?_
  rintro e w1 ⟨a4, c4, rfl, hb1, hN1⟩
  have HB1 := Lib.hid hb1
  have hz1 := hb1.size
  have HR1 := Lib.hid hN1.row
  have HC := Lib.hid (fun W (hW : Below w1.heap.size w1 W) => HCo.out a4 c4 W (HR1.out.below hW))
  clear hb1 hN1
  go_wp2_with fail
  refine (HC.out _ (below1 w1 _)).mono ?_
  rintro e w2 ⟨aZ, cZ, rfl, hb2, hN2⟩
  have hb12 : Below w1.heap.size w1 w2 := (below1 w1 _).trans (hb2.mono (by simp))
  have HB2 := Lib.hid (HB1.out.trans (hb12.mono hz1))
  have HN2 := Lib.hid (hN2.mono (lo' := w.heap.size) (by simp; omega) (Nat.le_refl _))
  clear hb2 hb12 hN2
  go_wp2
  go_ret2
  exact ⟨aZ, cZ, rfl, HB2.out, HN2.out⟩
end Go.Proofs.YtgcjpenlcokgjaaGreatDoor

namespace Go.Proofs.YtgcjpenlcokgjaaGreatDoor
open Go.RowKit

set_option maxRecDepth 100000 in
set_option maxHeartbeats 8000000 in
theorem law_PathCoordinates (n0 : Int) (n1 : Int) (a : Option Addr) (cap : Nat) (ps : List (List Int)) (hl : ps.length ≤ maxLen) (hs : ∀ i (h : i < ps.length), (ps[i]).length ≤ maxLen) (w : World) (hr : PRow 0 w.heap.size w a ps)
    (c' : Int) (ts' : List Tm) (hl' : ts'.length ≤ 1048576)
    (hS : ∀ (W : World) (b : Option Addr) (k : Nat), ps.length ≤ 1048576 → flat ps ≤ 1048576 → PRow 0 W.heap.size W b ps → Calls Tryz.prog 25 #[.int .i64 n0, .int .i64 n1, .slice b ps.length k] W (TermsPost ts' c' W))
    (hI : ∀ (W : World) (b : Option Addr) (k : Nat), ps.length ≤ 1048576 → flat ps ≤ 1048576 → PRow 0 W.heap.size W b ps → Calls Tryz.prog 27 #[.int .i64 n0, .int .i64 n1, .slice b ps.length k] W (TermsPost ts' c' W))
    : Calls Tryz.prog 6 #[.int .i64 n0, .int .i64 n1, .slice a ps.length cap] w fun e w' => e = .returned (.bool true) ∧ Below w.heap.size w w' := by
  have HSp := Lib.hid hS
  have HIm := Lib.hid hI
  have R_0 := Lib.hid hr
  have HS := Lib.hid hs
  clear hS hI hs hr
  go_enter Tryz.func6, Tryz.ntmps6
  go_wp2_with fail
  refine (szInt64SS_c 0 w.heap.size a cap ps hl HS.out 1048576 (by omega) _ R_0.out (by omega)).mono ?_
  rintro e w1 ⟨he, hb1⟩
  have hz1 := hb1.size
  have R_1 := Lib.hid (R_0.out.below hb1 (by omega))
  have B1 := Lib.hid ((hb1))
  rcases he with rfl | ⟨r, hr0, hr1, rfl⟩
  · go_wp2
    go_ret
    exact ⟨rfl, B1.out⟩
  have hl2 : ps.length ≤ 1048576 := by omega
  have hs2 : flat ps ≤ 1048576 := by omega
  clear hr1 hb1
  go_wp2_with fail
  refine (toInt64SS_c 0 w.heap.size a cap ps hl2 hs2 _ R_1.out (by omega)).mono ?_
  rintro e w2 ⟨xs, rfl, hb2, hN2⟩
  have hz2 := hb2.size
  have R_2 := Lib.hid (R_1.out.below hb2 (by omega))
  have B2 := Lib.hid (B1.out.trans (hb2.mono (by omega)))
  have Ns_2 := Lib.hid hN2
  clear hb2 hN2
  go_wp2_with fail
  refine (HSp.out _ _ _ hl2 hs2 (Ns_2.out.row.mono (by omega) (by omega))).mono ?_
  rintro e w3 ⟨aw, cw, rfl, hb3, hN3⟩
  clear Ns_2
  have hz3 := hb3.size
  have R_3 := Lib.hid (R_2.out.below hb3 (by omega))
  have B3 := Lib.hid (B2.out.trans (hb3.mono (by omega)))
  have K_3 := Lib.hid hN3.rowB
  clear hb3 hN3 HSp
  go_wp2_with fail
  refine (toInt64SS_c 0 w.heap.size a cap ps hl2 hs2 _ R_3.out (by omega)).mono ?_
  rintro e w4 ⟨xx, rfl, hb4, hN4⟩
  have hz4 := hb4.size
  have R_4 := Lib.hid (R_3.out.below hb4 (by omega))
  have K_4 := Lib.hid (K_3.out.below hb4 (by omega))
  have B4 := Lib.hid (B3.out.trans (hb4.mono (by omega)))
  have Nx_4 := Lib.hid hN4
  clear hb4 hN4
  go_wp2_with fail
  refine (HIm.out _ _ _ hl2 hs2 (Nx_4.out.row.mono (by omega) (by omega))).mono ?_
  rintro e w5 ⟨ag, cg, rfl, hb5, hN5⟩
  have hz5 := hb5.size
  have R_5 := Lib.hid (R_4.out.below hb5 (by omega))
  have K_5 := Lib.hid (K_4.out.below hb5 (by omega))
  have Nx_5 := Lib.hid (Nx_4.out.below hb5 (by omega))
  have B5 := Lib.hid (B4.out.trans (hb5.mono (by omega)))
  have G_5 := Lib.hid hN5
  clear hb5 hN5
  go_wp2_with fail
  refine (eqTermS_row ag aw cg cw ts' hl' _ G_5.out.row (K_5.out.row (by omega))).mono ?_
  rintro e w6 ⟨rfl, hb6⟩
  have hz6 := hb6.size
  have R_6 := Lib.hid (R_5.out.below hb6 (by omega))
  have K_6 := Lib.hid (K_5.out.below hb6 (by omega))
  have Nx_6 := Lib.hid (Nx_5.out.below hb6 (by omega))
  have G_6 := Lib.hid (G_5.out.below hb6 (by omega))
  have B6 := Lib.hid (B5.out.trans (hb6.mono (by omega)))
  clear hb6
  go_wp2_with fail
  refine (toInt64SS_c 0 w.heap.size a cap ps hl2 hs2 _ R_6.out (by omega)).mono ?_
  rintro e w7 ⟨xy, rfl, hb7, hN7⟩
  have hz7 := hb7.size
  have R_7 := Lib.hid (R_6.out.below hb7 (by omega))
  have K_7 := Lib.hid (K_6.out.below hb7 (by omega))
  have Nx_7 := Lib.hid (Nx_6.out.below hb7 (by omega))
  have G_7 := Lib.hid (G_6.out.below hb7 (by omega))
  have B7 := Lib.hid (B6.out.trans (hb7.mono (by omega)))
  have Ny_7 := Lib.hid hN7
  clear hb7 hN7
  go_wp2_with fail
  refine (eqInt64SS_row _ _ _ _ xx xy _ _ ps hl2 hs2 _ Nx_7.out.row Ny_7.out.row (by omega) (by omega)).mono ?_
  rintro e w8 ⟨rfl, hb8⟩
  clear Ny_7
  have hz8 := hb8.size
  have R_8 := Lib.hid (R_7.out.below hb8 (by omega))
  have K_8 := Lib.hid (K_7.out.below hb8 (by omega))
  have Nx_8 := Lib.hid (Nx_7.out.below hb8 (by omega))
  have G_8 := Lib.hid (G_7.out.below hb8 (by omega))
  have B8 := Lib.hid (B7.out.trans (hb8.mono (by omega)))
  clear hb8
  go_wp2_with fail
  refine (markInt64SS_row (w3.heap.size) (w4.heap.size) xx _ ps 1 (by omega) (by omega) hl2 _ Nx_8.out).mono ?_
  rintro e w9 ⟨rfl, hO9, hN9⟩
  clear Nx_8
  have hz9 := hO9.size
  have R_9 := Lib.hid (R_8.out.outside hO9 (by omega) (by omega))
  have K_9 := Lib.hid (K_8.out.outside hO9 (by omega) (by omega))
  have G_9 := Lib.hid (G_8.out.outside hO9 (by omega))
  have B9 := Lib.hid (B8.out.trans (hO9.below (B := w.heap.size) (by omega) (by omega)))
  clear hO9 hN9
  have hkk : (0 : Int) ≤ 1 + (flat ps : Int) := by omega
  go_wp2_with fail
  refine (eqTermS_row ag aw cg cw ts' hl' _ G_9.out.row (K_9.out.row (by omega))).mono ?_
  rintro e w10 ⟨rfl, hb10⟩
  have hz10 := hb10.size
  have R_10 := Lib.hid (R_9.out.below hb10 (by omega))
  have K_10 := Lib.hid (K_9.out.below hb10 (by omega))
  have G_10 := Lib.hid (G_9.out.below hb10 (by omega))
  have B10 := Lib.hid (B9.out.trans (hb10.mono (by omega)))
  clear hb10
  go_wp2_with fail
  refine (markTermS_row (w4.heap.size) (w5.heap.size) ag _ ts' 1 (by omega) (by omega) _ G_10.out).mono ?_
  rintro e w11 ⟨rm, rfl, hG, hrm, hN11⟩
  have hO11 := Outside.of_grown hG hrm
  clear G_10
  have hz11 := hO11.size
  have R_11 := Lib.hid (R_10.out.outside hO11 (by omega) (by omega))
  have K_11 := Lib.hid (K_10.out.outside hO11 (by omega) (by omega))
  have B11 := Lib.hid (B10.out.trans (hO11.below (B := w.heap.size) (by omega) (by omega)))
  have M_11 := Lib.hid hN11
  clear hO11 hN11 hG hrm
  have hmm : (0 : Int) ≤ 1 + 3 * (ts'.length : Int) := by omega
  go_wp2_with fail
  refine (heldTermS_row (w4.heap.size) (w5.heap.size) ag _ ts' 1 (by omega) (by omega) _ M_11.out).mono ?_
  rintro e w12 ⟨rfl, hb12⟩
  have hz12 := hb12.size
  have R_12 := Lib.hid (R_11.out.below hb12 (by omega))
  have K_12 := Lib.hid (K_11.out.below hb12 (by omega))
  have M_12 := Lib.hid (M_11.out.below hb12 (by omega))
  have B12 := Lib.hid (B11.out.trans (hb12.mono (by omega)))
  clear hb12
  go_wp2_with fail
  refine (toInt64SS_c 0 w.heap.size a cap ps hl2 hs2 _ R_12.out (by omega)).mono ?_
  rintro e w13 ⟨xz, rfl, hb13, hN13⟩
  have hz13 := hb13.size
  have R_13 := Lib.hid (R_12.out.below hb13 (by omega))
  have K_13 := Lib.hid (K_12.out.below hb13 (by omega))
  have M_13 := Lib.hid (M_12.out.below hb13 (by omega))
  have B13 := Lib.hid (B12.out.trans (hb13.mono (by omega)))
  have Nz_13 := Lib.hid hN13
  clear hb13 hN13
  go_wp2_with fail
  refine (HIm.out _ _ _ hl2 hs2 (Nz_13.out.row.mono (by omega) (by omega))).mono ?_
  rintro e w14 ⟨ah, ch, rfl, hb14, hN14⟩
  clear Nz_13
  have hz14 := hb14.size
  have R_14 := Lib.hid (R_13.out.below hb14 (by omega))
  have K_14 := Lib.hid (K_13.out.below hb14 (by omega))
  have M_14 := Lib.hid (M_13.out.below hb14 (by omega))
  have B14 := Lib.hid (B13.out.trans (hb14.mono (by omega)))
  have H_14 := Lib.hid hN14
  clear hb14 hN14 HIm
  go_wp2_with fail
  refine (eqTermS_row ah aw ch cw ts' hl' _ H_14.out.row (K_14.out.row (by omega))).mono ?_
  rintro e w15 ⟨rfl, hb15⟩
  have hz15 := hb15.size
  have R_15 := Lib.hid (R_14.out.below hb15 (by omega))
  have K_15 := Lib.hid (K_14.out.below hb15 (by omega))
  have M_15 := Lib.hid (M_14.out.below hb15 (by omega))
  have H_15 := Lib.hid (H_14.out.below hb15 (by omega))
  have B15 := Lib.hid (B14.out.trans (hb15.mono (by omega)))
  clear hb15
  go_wp2_with fail
  refine (heldTermS_row (w4.heap.size) (w5.heap.size) ag _ ts' 1 (by omega) (by omega) _ M_15.out).mono ?_
  rintro e w16 ⟨rfl, hb16⟩
  have hz16 := hb16.size
  have R_16 := Lib.hid (R_15.out.below hb16 (by omega))
  have K_16 := Lib.hid (K_15.out.below hb16 (by omega))
  have M_16 := Lib.hid (M_15.out.below hb16 (by omega))
  have H_16 := Lib.hid (H_15.out.below hb16 (by omega))
  have B16 := Lib.hid (B15.out.trans (hb16.mono (by omega)))
  clear hb16
  go_wp2
  go_ret
  exact ⟨rfl, B16.out⟩
end Go.Proofs.YtgcjpenlcokgjaaGreatDoor

namespace Go.Proofs.YtgcjpenlcokgjaaGreatDoor
open Go.ChangeShapes Go.WideShapes Go.ChangeAt Go.RowKit

theorem lie_len4 {ws : List ByteArray} {m : Nat} {f : VF} {out z : List Tm} {c : Int} (h : LieR ws m f out c z) : z.length ≤ out.length + m := by
  induction h with
  | done => omega
  | state => simp
  | limit => simp
  | next _ _ _ _ _ _ _ _ _ _ _ _ ih => rw [List.length_append] at ih; simp only [List.length_singleton] at ih; omega
theorem main_PathCoordinates (n0 n1 : Int) (a : Option Addr) (cap : Nat) (ps : List (List Int)) (hl : ps.length ≤ maxLen) (hs : ∀ i (h : i < ps.length), (ps[i]).length ≤ maxLen) (w : World) (hr : PRow 0 w.heap.size w a ps) :
    Calls Tryz.prog 6 #[.int .i64 n0, .int .i64 n1, .slice a ps.length cap] w fun e w' => e = .returned (.bool true) ∧ Below w.heap.size w w' := by
  have law := law_PathCoordinates n0 n1 a cap ps hl hs w hr
  by_cases hc : codeP n0 n1 ps = 0
  · have hp : pathB n0 ps = true := by
      cases h : pathB n0 ps with
      | true => rfl
      | false => rw [codeP_1 h] at hc; cases hc
    have hsh : shapeB n0 n1 = true := by
      cases h : shapeB n0 n1 with
      | true => rfl
      | false => rw [codeP_2 hp h] at hc; cases hc
    have hLV := shape_out hsh
    obtain ⟨D, rfl⟩ : ∃ D : Nat, n0 = D := ⟨n0.toNat, by omega⟩
    obtain ⟨N, rfl⟩ : ∃ N : Nat, n1 = N := ⟨n1.toNat, by omega⟩
    have hw121 := allW_121 D (by omega) (by omega) N (by omega) (by omega)
    cases hv : sigV ps (allW D N) N ps.length with
    | none =>
      exact law 3 [] (by simp)
        (fun W b k q1 q2 hr => sPaC_err D N b k _ 3 (by decide) W fun W1 hW1 => sLogS_err D N b k _ 3 (by decide) W1 fun W2 hW => sSig_2 D N (by omega) (by omega) 0 W.heap.size b k ps q1 q2 hp hc hv W2 (hr.below (hW1.trans (hW.mono hW1.size)) (Nat.le_refl _)) (hW1.trans (hW.mono hW1.size)).size)
        (fun W b k q1 q2 hr => iPaC_err D N b k _ 3 (by decide) W fun W1 hW1 => iLogS_err D N b k _ 3 (by decide) W1 fun W2 hW => iSig_3no D N (by omega) (by omega) 0 W.heap.size b k ps q1 q2 hp hc hv W2 (hr.below (hW1.trans (hW.mono hW1.size)) (Nat.le_refl _)) (hW1.trans (hW.mono hW1.size)).size)
    | some g =>
      have hg := sigV_good hv
      have hg1 := sig_const hsh hv
      have HS := fun W b k q1 q2 (hr : PRow 0 W.heap.size W b ps) W1 (hW1 : Below W.heap.size W W1) W2 (hW : Below W1.heap.size W1 W2) => sSig_3 D N (by omega) (by omega) 0 W.heap.size b k ps q1 q2 hp hc g hv W2 (hr.below (hW1.trans (hW.mono hW1.size)) (Nat.le_refl _)) (hW1.trans (hW.mono hW1.size)).size
      have HI := fun W b k q1 q2 (hr : PRow 0 W.heap.size W b ps) W1 (hW1 : Below W.heap.size W W1) W2 (hW : Below W1.heap.size W1 W2) => iSig_3yes D N (by omega) (by omega) 0 W.heap.size b k ps q1 q2 hp hc g hv W2 (hr.below (hW1.trans (hW.mono hW1.size)) (Nat.le_refl _)) (hW1.trans (hW.mono hW1.size)).size
      cases hlg : logV g (allW D N) N with
      | none =>
        exact law 3 [] (by simp)
          (fun W b k q1 q2 hr => sPaC_err D N b k _ 3 (by decide) W fun W1 hW1 => sLogS_no D N hsh b k _ g hg hg1 hlg W1 (HS W b k q1 q2 hr W1 hW1))
          (fun W b k q1 q2 hr => iPaC_err D N b k _ 3 (by decide) W fun W1 hW1 => iLogS_no D N hsh b k _ g hg hg1 hlg W1 (HI W b k q1 q2 hr W1 hW1))
      | some h =>
        have hh : GoodV (allW D N) h := by
          have h9 := hlg
          unfold logV at h9
          obtain ⟨y, _, h9⟩ := Option.bind_eq_some_iff.1 h9
          exact sumK_good h9
        obtain ⟨c, z, hz, _⟩ := lie_is (D := D) (N := N) (by omega) (by omega) (by omega) (allW D N).length 0 h [] rfl hh (fun s hs => by
          obtain ⟨q, hq⟩ := Option.ne_none_iff_exists'.1 hs
          exact (hh _ _ hq).1)
        have hzl := lie_len4 hz
        simp only [List.length_nil] at hzl
        exact law c z (by omega)
          (fun W b k q1 q2 hr => sPaC_yes D N hsh b k _ h hh _ hw121 c z hz W fun W1 hW1 => sLogS_yes D N hsh b k _ g hg hg1 h hlg W1 (HS W b k q1 q2 hr W1 hW1))
          (fun W b k q1 q2 hr => iPaC_yes D N hsh b k _ h hh _ hw121 c z hz W fun W1 hW1 => iLogS_yes D N hsh b k _ g hg hg1 h hlg W1 (HI W b k q1 q2 hr W1 hW1))
  · exact law _ [] (by simp)
      (fun W b k q1 q2 hr => sPaC_err n0 n1 b k _ _ hc W fun W1 hW1 => sLogS_err n0 n1 b k _ _ hc W1 fun W2 hW => sSig_1 n0 n1 0 W.heap.size b k ps q1 q2 _ rfl hc W2 (hr.below (hW1.trans (hW.mono hW1.size)) (Nat.le_refl _)) (hW1.trans (hW.mono hW1.size)).size)
      (fun W b k q1 q2 hr => iPaC_err n0 n1 b k _ _ hc W fun W1 hW1 => iLogS_err n0 n1 b k _ _ hc W1 fun W2 hW => iSig_1 n0 n1 0 W.heap.size b k ps q1 q2 _ rfl hc W2 (hr.below (hW1.trans (hW.mono hW1.size)) (Nat.le_refl _)) (hW1.trans (hW.mono hW1.size)).size)

namespace fnExactPathCoordinates
set_option maxRecDepth 100000 in
theorem lifted (os : Os) (started : os.Started) (H : Type) (enc : TypeId × Value → H) :
    ReturnsInHanded {} Tryz.checked os 6 .any (fun w args => (Rows.fnExactPathCoordinatesSpec.pre enc Tryz.prog Tryz.f6 [] false w args ∧ laidMetH Tryz.prog Rows.fnExactPathCoordinatesRow.laid w) ∧ sizedMet enc Tryz.prog Tryz.f6 (OpenSpec.ofChange Rows.fnExactPathCoordinatesSpec) false w args)
      (Rows.fnExactPathCoordinatesSpec.post enc Tryz.prog Tryz.f6 false true false false) := by
  refine returnsInHanded_of_change_and (C := Tryz.checked) (X := fun w _ => laidMetH Tryz.prog Rows.fnExactPathCoordinatesRow.laid w) (fun _ _ _ hh h => h.of_heap hh) seatOwn started (by kernel_rfl) Tryz.func6
    (ChangeSpec.witness_shaped (enc := enc) (C := Tryz.checked) (os := os) (X := fun w _ => laidMetH Tryz.prog Rows.fnExactPathCoordinatesRow.laid w) false (World.doorLaid Tryz.prog 400 os) #[.int .i64 0, .int .i64 0, .slice none 0 0] 8 rfl (door_shaped os _) (by kernel_rfl) (by kernel_rfl) (by kernel_rfl) (door_met3 os _)) ?_
  intro W base args ds gs before hval0 hW _ _ _ _
  have hval : ∀ (j : Nat) t v, Tryz.f6.params[j]? = some t → args[j]? = some v → Value.okWide Tryz.prog W .any base t v := hval0
  have hW' := hW
  have hlt : ∀ x ∈ before, x.block < W.heap.size := fun x hx => hW.lt x hx
  obtain ⟨p, q, hA0, hV, rfl, _, _⟩ := hW
  have hA : DataW.TrodAll enc Tryz.prog W 0 (fun _ => true) true Tryz.f6.params.toList args.toList ds p := hA0
  rw [Tryz.params6] at hA hval
  obtain ⟨v0, vs0, d00, ds0, p0, q0, hargs, rfl, rfl, h0, r0⟩ := trodAll_cons hA
  obtain ⟨v1, vs1, d10, ds1, p1, q1, rfl, rfl, rfl, h1, r1⟩ := trodAll_cons r0
  obtain ⟨v2, vs2, d20, ds2, p2, q2, rfl, rfl, rfl, h2, r2⟩ := trodAll_cons r1
  obtain ⟨rfl, rfl, rfl⟩ := trodAll_nil r2
  obtain rfl : args = #[v0, v1, v2] := by cases args; simp_all
  obtain ⟨rfl, rfl⟩ := trodVars_none hV
  obtain ⟨n0, rfl, rfl, rfl, wf0⟩ := open_int Tryz.underlying2 (hval 0 2 v0 rfl rfl) h0
  obtain ⟨n1, rfl, rfl, rfl, wf1⟩ := open_int Tryz.underlying2 (hval 1 2 v1 rfl rfl) h1
  have h2k := h2
  obtain ⟨a2, cap2, ps2, rfl, hl2, hs2, hr2⟩ := open_path (hval 2 42 v2 rfl rfl) h2
  clear hA0 hval0
  simp only [List.append_nil] at hW' hlt
  refine (main_PathCoordinates n0 n1 a2 cap2 ps2 hl2 hs2 W hr2).mono fun e W' ⟨he, hg⟩ => ?_
  subst he
  have hk2 := Below.trod seatLaid (by kernel_rfl) (of_decide_eq_true (by kernel_rfl)) h2k hg (fun x hx => hlt x (by simp [hx]))
  exact ⟨_, rfl, shut_reads (pa := p2) hW' (fun _ _ _ => (trodAll_cons_mk (shut_bool Tryz.underlying4 _) trodAll_mk0)) (by have h := (trodAll_cons_mk (shut_int Tryz.underlying2 wf0) (trodAll_cons_mk (shut_int Tryz.underlying2 wf1) (trodAll_cons_mk hk2 trodAll_mk0))); simp only [List.append_nil] at h; exact h) (fun _ => rfl) hg⟩
end fnExactPathCoordinates
end Go.Proofs.YtgcjpenlcokgjaaGreatDoor
