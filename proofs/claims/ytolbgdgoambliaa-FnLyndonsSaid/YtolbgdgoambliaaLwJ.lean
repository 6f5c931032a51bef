/-
  The program's LyndonWords, with its list.
-/
import Derived.Test.YtolbgdgoambliaaLwI
import Derived.Test.YtolbgdgoambliaaLynU
import Derived.Test.YtolbgdgoambliaaShelf
import Derived.Lib.OwnBridge
namespace Go.Proofs.Ytolbgdgoambliaa
open Go.RowKit Go.Sort Go.Shelf Go.Lib

/-- the closure of LyndonWords: shorter than n -/
theorem shorter_c (n : Int) (q : Nat) (s : ByteArray) (W : World) (h : W.cell? ⟨q, 0, none⟩ = some (.int .i64 n)) :
    Calls Try.prog 40 #[.string s, .pointer (some ⟨q, 0, none⟩)] W fun e w' => e = .returned (.bool (decide ((s.size : Int) < n))) ∧ ∃ q, w' = W.drewN q := by
  go_enter Try.func40, Try.ntmps40
  go_wp2
  go_ret
  exact ⟨rfl, 0, rfl⟩
set_option maxRecDepth 100000 in
set_option maxHeartbeats 4000000 in
theorem iLyndonWords_3 (D N : Nat) (hd : 1 ≤ D ∧ D ≤ 3) (h1 : 1 ≤ N) (hn : N ≤ 8) (hc : ¬ ap (D : Int) 20 N / N > 400) (L : List (List UInt8)) (hL : genL (UInt8.ofNat (47 + D)) N 2000 [48] = some L) (hne : L ≠ []) (hfew : L.length ≤ 2000) (w : World) :
    Calls Try.prog 14 #[.int .i64 D, .int .i64 N] w (StrPost ((L.map baL).filter fun s => !decide ((s.size : Int) < N)) 0 w) := by
  have H1 := Lib.hid (inB_yes (n := (D : Int)) (lo := 1) (hi := 3) (by omega))
  have H2 := Lib.hid (inB_yes (n := (N : Int)) (lo := 1) (hi := 8) (by omega))
  have HC := Lib.hid (iCountLyndon_2 (D : Int) N (by omega) h1 (by omega))
  have HU := Lib.hid (upTo_c D N hd ⟨h1, hn⟩ L hL)
  have hss : L.map baL ≠ [] := by simpa using hne
  have hsl : (L.map baL).length ≤ 2000 := by simpa using hfew
  generalize L.map baL = ss at hss hsl HU ⊢
  obtain ⟨x, hx⟩ : ∃ x, ap (D : Int) 20 N / N = x := ⟨_, rfl⟩
  rw [hx] at hc HC
  clear hx hL
  go_enter Try.func14, Try.ntmps14
  go_wp2_with (first | (go_at_call 37; refine (isBetween_c _ _ _ _).mono ?_; (first | rw [H1.out] | rw [H2.out]); rintro e w' ⟨rfl, rfl⟩) | fail)
  refine (HC.out _).mono ?_
  rintro e w1 ⟨rfl, hb⟩
  have hB := (below1 w (.cells #[.int .i64 N] 2)).trans (hb.mono (by simp))
  have hcl : w1.cell? ⟨w.heap.size, 0, none⟩ = some (.int .i64 N) := (hb.cell (p := ⟨w.heap.size, 0, none⟩) (by simp)).trans (by go_simp)
  have hz1 : w.heap.size < w1.heap.size := by have := hb.size; simp at this; omega
  have HB := Lib.hid hB
  clear hb hB
  go_wp2_with fail
  refine (HU.out _).mono ?_
  rintro e w2 ⟨a, c, rfl, hlc, hb, hN⟩
  have hcl2 := (hb.cell (p := ⟨w.heap.size, 0, none⟩) hz1).trans hcl
  have HB2 := Lib.hid (HB.out.trans (hb.mono (by omega)))
  have hz2 := hb.size
  rcases hN with h | ⟨g, rfl, hg1, hg2, hM, hT⟩
  · exact absurd h hss
  have hH : Holds Value.string w2 g 0 ss.toArray := fun j hj => by
    have hj' : j < ss.length := by simpa using hj
    refine ⟨?_, ?_⟩
    · rw [hT j hj', getElem!_pos ss.toArray j hj]
      simp
    · rw [Nat.zero_add]; exact (hM.2 j hj').2
  have HH := Lib.hid hH
  have HM := Lib.hid hM
  have hgn : w.heap.size ≠ g := by omega
  clear hb hcl hT hM hH
  go_wp2_with fail
  have hdel := Try.slices_DeleteFunc Value.string (fun _ => rfl) (fun s => decide ((s.size : Int) < (N : Int))) 40 #[.pointer (some ⟨w.heap.size, 0, none⟩)] (enters_of Try.func40 (by decide) rfl) ByteArray.empty Try.zeroValue9 g 0 c ss.toArray w2
    (fun W x hb => shorter_c N w.heap.size x W ((hb.cell (p := ⟨w.heap.size, 0, none⟩) (by show w.heap.size < w2.heap.size; omega)).trans hcl2))
    (fun k os dk x hk => shorter_c N w.heap.size x _ (by
      unfold sortWorld
      rw [World.cell?_of_block (w := putRow Value.string (Go.Sort.ahead w2 k) g 0 dk) (heap_grow_old _ os (by rw [size_putRow]; show w.heap.size < w2.heap.size; omega)), cell?_putRow_other _ _ _ _ _ _ (.inl hgn)]
      exact hcl2))
    HH.out (by simp; omega) (by simpa using hlc)
  have hlen : ss.toArray.size = ss.length := by simp
  rw [hlen] at hdel
  refine hdel.mono ?_
  rintro e w3 ⟨rfl, q, rfl⟩
  obtain ⟨out, hout⟩ : ∃ out, (ss.filter fun s => !decide ((s.size : Int) < (N : Int))) = out := ⟨_, rfl⟩
  have hol : out.length ≤ ss.length := by rw [← hout]; exact List.length_filter_le _ _
  have hsz : (out ++ List.replicate (ss.length - out.length) ByteArray.empty).toArray.size = ss.toArray.size := by simp; omega
  have hH2 : Holds Value.string (Go.Sort.ahead w2 q) g 0 ss.toArray := HH.out
  have hB3 := below_putRow (enc := Value.string) (q := q) (d := (out ++ List.replicate (ss.length - out.length) ByteArray.empty).toArray) HB2.out (show w.heap.size ≤ g by omega)
  have hN3 : NewS w.heap.size (putRow Value.string (Go.Sort.ahead w2 q) g 0 (out ++ List.replicate (ss.length - out.length) ByteArray.empty).toArray).heap.size (putRow Value.string (Go.Sort.ahead w2 q) g 0 (out ++ List.replicate (ss.length - out.length) ByteArray.empty).toArray) (some ⟨g, 0, none⟩) out := by
    have hcell : ∀ j (hj : j < out.length), (putRow Value.string (Go.Sort.ahead w2 q) g 0 (out ++ List.replicate (ss.length - out.length) ByteArray.empty).toArray).cell? ⟨g, 0 + j, none⟩ = some (.string out[j]) := fun j hj => by
      rw [cell?_putRow Value.string (Go.Sort.ahead w2 q) g 0 ss.toArray _ hH2 hsz j (by rw [hsz]; simp; omega), getElem!_pos _ j (by rw [hsz]; simp; omega)]
      simp [List.getElem_append_left hj]
    refine .inr ⟨g, rfl, by omega, by rw [size_putRow]; exact hg2, ⟨by rw [size_putRow]; exact hg2, fun j hj => ⟨⟨_, by have := hcell j hj; rwa [Nat.zero_add] at this⟩, ?_⟩⟩, fun j hj => hcell j hj⟩
    rw [frozen?_putRow]
    exact (HM.out.2 j (by omega)).2
  simp only [hout]
  generalize putRow Value.string (Go.Sort.ahead w2 q) g 0 (out ++ List.replicate (ss.length - out.length) ByteArray.empty).toArray = w4 at hB3 hN3
  have HB3 := Lib.hid hB3
  have HN3 := Lib.hid hN3
  clear hB3 hN3 hdel
  go_wp2
  go_ret2
  refine ⟨some ⟨g, 0, none⟩, c, ?_, HB3.out, ?_⟩
  · rw [hout]; rfl
  · rw [hout]; exact HN3.out
end Go.Proofs.Ytolbgdgoambliaa
