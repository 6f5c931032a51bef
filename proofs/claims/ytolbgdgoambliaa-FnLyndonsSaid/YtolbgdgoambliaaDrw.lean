/-
  The draws: the state of a draw in memory (a box of a row of bytes, a place and a number), and what each draw comes to.
-/
import Derived.Test.YtolbgdgoambliaaPaths
import Derived.Deep.RegionLaw
import Derived.Laws.Bits64
import Derived.IntWalk
import Derived.WalkSpells
import Derived.OwnWalk
import Derived.BigQuiet
import Derived.Handy
namespace Go.Proofs.Ytolbgdgoambliaa
open Go.RowKit

/-- bytes in a row of cells -/
def BysA (w : World) (b off : Nat) (zs : List Int) : Prop := ∀ i (h : i < zs.length), w.cell? ⟨b, off + i, none⟩ = some (.int .u8 zs[i])
def BRow (hi : Nat) (w : World) (a : Option Addr) (zs : List Int) : Prop := zs = [] ∨ ∃ b off, a = some ⟨b, off, none⟩ ∧ b < hi ∧ BysA w b off zs
theorem BRow.same {hi : Nat} {w w' : World} {a : Option Addr} {zs : List Int} (h : BRow hi w a zs) (hc : ∀ b o, b < hi → w'.cell? ⟨b, o, none⟩ = w.cell? ⟨b, o, none⟩) : BRow hi w' a zs := by
  rcases h with h | ⟨b, off, e, h1, h2⟩
  · exact .inl h
  · exact .inr ⟨b, off, e, h1, fun i hi' => (hc b _ h1).trans (h2 i hi')⟩
theorem BRow.mono {hi hi' : Nat} {w : World} {a : Option Addr} {zs : List Int} (h : BRow hi w a zs) (hh : hi ≤ hi') : BRow hi' w a zs := by
  rcases h with h | ⟨b, off, e, h1, h2⟩
  · exact .inl h
  · exact .inr ⟨b, off, e, by omega, h2⟩

/-- a number that a cell of 64 bits holds -/
def Z64 (z : Int) : Prop := -9223372036854775808 ≤ z ∧ z ≤ 9223372036854775807
/-- the state of a draw: a box in block `g`, over bytes that lie below it -/
structure Src (w : World) (g : Nat) (a : Option Addr) (cap : Nat) (zs : List Int) : Prop where
  lt : g < w.heap.size
  row : BRow g w a zs
  small : ∀ z ∈ zs, 0 ≤ z ∧ z ≤ 255
  len : zs.length ≤ 4096
  c0 : w.cell? ⟨g, 0, none⟩ = some (.slice a zs.length cap)
  c1 : ∃ k : Nat, k ≤ zs.length ∧ w.cell? ⟨g, 1, none⟩ = some (.int .i64 k)
  c2 : ∃ h : Int, 0 ≤ h ∧ h < 18446744073709551616 ∧ w.cell? ⟨g, 2, none⟩ = some (.int .u64 h)
  z0 : w.frozen? ⟨g, 0, none⟩ = false
  z1 : w.frozen? ⟨g, 1, none⟩ = false
  z2 : w.frozen? ⟨g, 2, none⟩ = false
theorem Src.next {w w' : World} {g : Nat} {a : Option Addr} {cap : Nat} {zs : List Int} (h : Src w g a cap zs) (hb : Below w.heap.size w w') : Src w' g a cap zs := by
  obtain ⟨k, k1, k2⟩ := h.c1
  obtain ⟨x, x1, x2, x3⟩ := h.c2
  have hc : ∀ o, w'.cell? ⟨g, o, none⟩ = w.cell? ⟨g, o, none⟩ := fun o => hb.cell (p := ⟨g, o, none⟩) h.lt
  have hf : ∀ o, w'.frozen? ⟨g, o, none⟩ = w.frozen? ⟨g, o, none⟩ := fun o => hb.frozen (p := ⟨g, o, none⟩) h.lt
  exact ⟨Nat.lt_of_lt_of_le h.lt hb.size, h.row.same (fun b o hl => hb.cell (p := ⟨b, o, none⟩) (Nat.lt_trans hl h.lt)), h.small, h.len, (hc 0).trans h.c0, ⟨k, k1, (hc 1).trans k2⟩, ⟨x, x1, x2, (hc 2).trans x3⟩, (hf 0).trans h.z0, (hf 1).trans h.z1, (hf 2).trans h.z2⟩
theorem Src.alloc {w : World} {g : Nat} {a : Option Addr} {cap : Nat} {zs : List Int} (h : Src w g a cap zs) (o : Obj) : Src (w.alloc o) g a cap zs := h.next ((Below.refl _ _).alloc (Nat.le_refl _) o)
theorem Src.drew {w : World} {g : Nat} {a : Option Addr} {cap : Nat} {zs : List Int} (h : Src w g a cap zs) : Src w.drew g a cap zs := ⟨h.lt, h.row, h.small, h.len, h.c0, h.c1, h.c2, h.z0, h.z1, h.z2⟩
theorem Src.drewN {w : World} {g : Nat} {a : Option Addr} {cap : Nat} {zs : List Int} (h : Src w g a cap zs) (q : Nat) : Src (w.drewN q) g a cap zs := ⟨h.lt, h.row, h.small, h.len, h.c0, h.c1, h.c2, h.z0, h.z1, h.z2⟩
theorem Src.set1 {w : World} {g : Nat} {a : Option Addr} {cap : Nat} {zs : List Int} (h : Src w g a cap zs) {z : Int} (hz : ∃ k : Nat, k ≤ zs.length ∧ z = k) : Src (w.setCell ⟨g, 1, none⟩ (.int .i64 z)) g a cap zs := by
  obtain ⟨k, k1, k2⟩ := h.c1
  obtain ⟨x, x1, x2, x3⟩ := h.c2
  obtain ⟨j, j1, rfl⟩ := hz
  have n1 : (⟨g, 0, none⟩ : Addr) ≠ ⟨g, 1, none⟩ := by simp
  have n2 : (⟨g, 2, none⟩ : Addr) ≠ ⟨g, 1, none⟩ := by simp
  refine ⟨by simpa using h.lt, h.row.same (fun b o hl => World.cell?_setCell_far _ _ _ _ (show g ≠ b by omega)), h.small, h.len, ?_, ⟨j, j1, World.cell?_setCell_same _ _ _ k2⟩, ⟨x, x1, x2, ?_⟩, by simpa using h.z0, by simpa using h.z1, by simpa using h.z2⟩
  · exact (World.cell?_setCell_other _ _ _ _ n1.symm).trans h.c0
  · exact (World.cell?_setCell_other _ _ _ _ n2.symm).trans x3
theorem Src.set2 {w : World} {g : Nat} {a : Option Addr} {cap : Nat} {zs : List Int} (h : Src w g a cap zs) {y : Int} (h0 : 0 ≤ y) (h1 : y < 18446744073709551616) : Src (w.setCell ⟨g, 2, none⟩ (.int .u64 y)) g a cap zs := by
  obtain ⟨k, k1, k2⟩ := h.c1
  obtain ⟨x, x1, x2, x3⟩ := h.c2
  have n1 : (⟨g, 0, none⟩ : Addr) ≠ ⟨g, 2, none⟩ := by simp
  have n2 : (⟨g, 1, none⟩ : Addr) ≠ ⟨g, 2, none⟩ := by simp
  refine ⟨by simpa using h.lt, h.row.same (fun b o hl => World.cell?_setCell_far _ _ _ _ (show g ≠ b by omega)), h.small, h.len, ?_, ⟨k, k1, ?_⟩, ⟨y, h0, h1, World.cell?_setCell_same _ _ _ x3⟩, by simpa using h.z0, by simpa using h.z1, by simpa using h.z2⟩
  · exact (World.cell?_setCell_other _ _ _ _ n1.symm).trans h.c0
  · exact (World.cell?_setCell_other _ _ _ _ n2.symm).trans k2

/-- nothing has changed but the block `g`, and what is new -/
def But (g : Nat) (w w' : World) : Prop := w.grownBy w' (some g)
theorem But.refl (g : Nat) (w : World) : But g w w := World.grownBy.refl w _
theorem But.trans {g : Nat} {a b c : World} (h : But g a b) (k : But g b c) : But g a c :=
  ⟨k.os.trans h.os, k.tape.trans h.tape, k.output.trans h.output, Nat.le_trans h.size k.size, fun i hi hn => (k.block i (Nat.lt_of_lt_of_le hi h.size) hn).trans (h.block i hi hn)⟩
theorem But.drew {g : Nat} {a b : World} (h : But g a b) : But g a b.drew := ⟨h.os, h.tape, h.output, h.size, h.block⟩
theorem But.drewN {g : Nat} {a b : World} (h : But g a b) (q : Nat) : But g a (b.drewN q) := ⟨h.os, h.tape, h.output, h.size, h.block⟩
theorem But.setCell {g : Nat} {a b : World} (h : But g a b) (i : Nat) (v : Value) : But g a (b.setCell ⟨g, i, none⟩ v) := by
  exact ⟨h.os, h.tape, h.output, by rw [World.size_setCell]; exact h.size, fun j hj hn => (Below.heap_setCell _ _ _ _ (show j ≠ g from fun e => hn (by rw [e]))).trans (h.block j hj hn)⟩
theorem But.alloc {g : Nat} {a b : World} (h : But g a b) (o : Obj) : But g a (b.alloc o) := h.trans (World.grownBy_alloc b o _)
theorem But.below {g : Nat} {a b c : World} (h : But g b c) (hb : Below a.heap.size a b) (hg : a.heap.size ≤ g) : Below a.heap.size a c := hb.grown h hb.size (fun k e => by cases e; exact hg)
theorem But.cell {g : Nat} {a b : World} (h : But g a b) {x o : Nat} (hx : x < a.heap.size) (hn : x ≠ g) : b.cell? ⟨x, o, none⟩ = a.cell? ⟨x, o, none⟩ := World.cell?_of_block (a := ⟨x, o, none⟩) (h.block x hx (fun e => hn (by cases e; rfl)))

/-- what a draw comes to: a value of which `Q` holds; the state stands, and nothing else has changed -/
def DrawPost (g : Nat) (a : Option Addr) (cap : Nat) (zs : List Int) (Q : Value → Prop) (W : World) (e : Ending) (w' : World) : Prop :=
  ∃ v, e = .returned v ∧ Q v ∧ Src w' g a cap zs ∧ But g W w'

set_option maxRecDepth 100000 in
set_option maxHeartbeats 4000000 in
theorem l01Next_c (n : Nat) (h1 : 1 ≤ n) (hn : n ≤ 2147483648) (g : Nat) (a : Option Addr) (cap : Nat) (zs : List Int) (w : World) (hs : Src w g a cap zs) :
    Calls Try.prog 48 #[.pointer (some ⟨g, 0, none⟩), .int .i64 n] w (DrawPost g a cap zs (fun v => ∃ r : Nat, r < n ∧ v = .int .i64 r) w) := by
  obtain ⟨k, k1, k2⟩ := hs.c1
  obtain ⟨x, x0, x1, x2⟩ := hs.c2
  have c0 := hs.c0
  have z0 := hs.z0
  have z1 := hs.z1
  have z2 := hs.z2
  have hlt := hs.lt
  have HS := Lib.hid hs
  clear hs
  go_enter Try.func48, Try.ntmps48
  go_wp2_with fail
  obtain ⟨y, hy⟩ : ∃ y, IntKind.u64.wrap (IntKind.u64.wrap (x * 6364136223846793005) + 1442695040888963407) = y := ⟨_, rfl⟩
  rw [hy]
  have hy2 : 0 ≤ y ∧ y < 18446744073709551616 := by
    rw [← hy, IntKind.wrap_u64]
    exact ⟨Int.emod_nonneg _ (by decide), Int.emod_lt_of_pos _ (by decide)⟩
  clear hy
  obtain ⟨hy0, hy1⟩ := hy2
  obtain ⟨c, hc⟩ : ∃ c, wrap64 (bits BinOp.and IntKind.u64 (y / 2147483648) 1073741823) = c := ⟨_, rfl⟩
  rw [hc]
  have hc2 : 0 ≤ c ∧ c < 1073741824 := by
    have hm := bits_mask .u64 63 (by decide) (fun n h0 h1 => by rw [IntKind.wrap_u64]; omega) 30 (by decide) (y / 2147483648) (by omega) (by omega)
    rw [show ((2 : Int) ^ 30 - 1) = 1073741823 from by decide] at hm
    rw [hm, show ((2 : Int) ^ 30) = 1073741824 from by decide] at hc
    rw [IntWalk.wrap64_in _ ⟨by omega, by omega⟩] at hc
    omega
  clear hc
  obtain ⟨hc0, hc1⟩ := hc2
  have S1 : Hid (Src (w.setCell ⟨g, 2, none⟩ (.int .u64 y)) g a cap zs) := Lib.hid (HS.out.set2 hy0 hy1)
  have B1 : Hid (But g w (w.setCell ⟨g, 2, none⟩ (.int .u64 y))) := Lib.hid ((But.refl g w).setCell 2 _)
  by_cases hk : k < zs.length
  · rcases HS.out.row with h | ⟨b, off, rfl, hbg, ht⟩
    · rw [h] at hk; simp at hk
    have d0 := ht k hk
    have hsm := HS.out.small _ (List.getElem_mem hk)
    obtain ⟨z, hez⟩ : ∃ z, zs[k] = z := ⟨_, rfl⟩
    rw [hez] at d0 hsm
    clear hez ht
    obtain ⟨q0, q1⟩ := hsm
    have hlen := HS.out.len
    have e0 : (0 : Int) ≤ (k : Int) := by omega
    have e1 : (k : Int) < (zs.length : Int) := by omega
    go_quiet (fail)
    go_wp2
    go_quiet (fail)
    go_wp2
    go_ret
    have m0 : 0 ≤ (c + z) % (n : Int) := Int.emod_nonneg _ (by omega)
    have m1 : (c + z) % (n : Int) < (n : Int) := Int.emod_lt_of_pos _ (by omega)
    exact ⟨_, rfl, ⟨((c + z) % (n : Int)).toNat, by omega, congrArg (Value.int .i64) (Int.toNat_of_nonneg m0).symm⟩, (S1.out.drewN _).set1 ⟨k + 1, by omega, by omega⟩, (B1.out.drewN _).setCell 1 _⟩
  · obtain rfl : k = zs.length := by omega
    go_quiet (fail)
    go_wp2
    go_ret
    have m0 : 0 ≤ c % (n : Int) := Int.emod_nonneg _ (by omega)
    have m1 : c % (n : Int) < (n : Int) := Int.emod_lt_of_pos _ (by omega)
    exact ⟨_, rfl, ⟨(c % (n : Int)).toNat, by omega, congrArg (Value.int .i64) (Int.toNat_of_nonneg m0).symm⟩, S1.out.drewN _, B1.out.drewN _⟩

/-- a row of numbers of one kind that stands beside the state -/
def RowP (P : Int → Prop) (w : World) (g b n : Nat) : Prop := b < w.heap.size ∧ b ≠ g ∧ ∀ i, i < n → ∃ z, P z ∧ w.cell? ⟨b, i, none⟩ = some (.int .i64 z)
def Row64 (w : World) (g b n : Nat) : Prop := RowP Z64 w g b n
theorem rowP_new (P : Int → Prop) (w : World) (g : Nat) (zs : List Int) (t : TypeId) (hz : ∀ z ∈ zs, P z) (hg : g < w.heap.size) : RowP P (w.alloc (.cells (zs.map (Value.int .i64)).toArray t)) g w.heap.size zs.length := by
  refine ⟨by simp, by omega, fun i hi => ⟨zs[i], hz _ (List.getElem_mem hi), ?_⟩⟩
  rw [World.cell?_alloc_new]
  simp [hi]
theorem row64_new (w : World) (g : Nat) (zs : List Int) (t : TypeId) (hz : ∀ z ∈ zs, Z64 z) (hg : g < w.heap.size) : Row64 (w.alloc (.cells (zs.map (Value.int .i64)).toArray t)) g w.heap.size zs.length := rowP_new Z64 w g zs t hz hg

set_option maxRecDepth 100000 in
set_option maxHeartbeats 4000000 in
theorem l01PickP_c (P : Int → Prop) (n b cb : Nat) (h1 : 1 ≤ n) (hn : n ≤ 4096) (g : Nat) (a : Option Addr) (cap : Nat) (zs : List Int) (w : World) (hs : Src w g a cap zs) (hr : RowP P w g b n) :
    Calls Try.prog 35 #[.pointer (some ⟨g, 0, none⟩), .slice (some ⟨b, 0, none⟩) n cb] w (DrawPost g a cap zs (fun v => ∃ z, P z ∧ v = .int .i64 z) w) := by
  have HS := Lib.hid hs
  have HR := Lib.hid hr
  have hlt := hs.lt
  have hn0 : 1 ≤ n := h1
  clear hs hr
  go_enter Try.func35, Try.ntmps35
  go_wp2_with fail
  refine (l01Next_c n h1 (by omega) g a cap zs _ HS.out).mono ?_
  rintro e w1 ⟨v, rfl, ⟨r, hr1, rfl⟩, hs1, hb1⟩
  obtain ⟨hbs, hbg, hcs⟩ := HR.out
  obtain ⟨z, hz, hc⟩ := hcs r hr1
  have hc1 := (hb1.cell (o := r) hbs hbg).trans hc
  have HS1 := Lib.hid hs1
  have HB1 := Lib.hid hb1
  have e0 : (0 : Int) ≤ (r : Int) := by omega
  have e1 : (r : Int) < (n : Int) := by omega
  clear hs1 hb1 hcs hc
  go_wp2
  go_ret
  exact ⟨_, rfl, ⟨z, hz, rfl⟩, HS1.out, HB1.out⟩

theorem l01Pick_c (n b cb : Nat) (h1 : 1 ≤ n) (hn : n ≤ 4096) (g : Nat) (a : Option Addr) (cap : Nat) (zs : List Int) (w : World) (hs : Src w g a cap zs) (hr : Row64 w g b n) :
    Calls Try.prog 35 #[.pointer (some ⟨g, 0, none⟩), .slice (some ⟨b, 0, none⟩) n cb] w (DrawPost g a cap zs (fun v => ∃ z, Z64 z ∧ v = .int .i64 z) w) :=
  l01PickP_c Z64 n b cb h1 hn g a cap zs w hs hr

set_option maxRecDepth 100000 in
set_option maxHeartbeats 4000000 in
theorem l01Near_c (n : Nat) (hn : n ≤ 4096) (g : Nat) (a : Option Addr) (cap : Nat) (zs : List Int) (w : World) (hs : Src w g a cap zs) :
    Calls Try.prog 36 #[.pointer (some ⟨g, 0, none⟩), .int .i64 n] w (DrawPost g a cap zs (fun v => ∃ z, Z64 z ∧ v = .int .i64 z) w) := by
  have HS := Lib.hid hs
  have hlt := hs.lt
  clear hs
  go_enter Try.func36, Try.ntmps36
  go_wp2_with fail
  refine (l01Next_c 14 (by omega) (by omega) g a cap zs _ HS.out).mono ?_
  rintro e w1 ⟨v, rfl, ⟨r, hr1, rfl⟩, hs1, hb1⟩
  have hl1 := hs1.lt
  have HS1 := Lib.hid hs1
  have HB1 := Lib.hid hb1
  clear hs1 hb1
  by_cases h0 : r = 0
  · subst h0
    go_wp2_with fail
    have hR := row64_new w1 g [-1, (n : Int) + 1, 1099511627776, -4611686018427387904] 2 (by
      intro z hz
      simp only [List.mem_cons, List.not_mem_nil, or_false] at hz
      unfold Z64
      rcases hz with rfl | rfl | rfl | rfl <;> omega) hl1
    refine (l01Pick_c 4 _ 4 (by omega) (by omega) g a cap zs _ (HS1.out.alloc _) hR).mono ?_
    rintro e w2 ⟨v, rfl, ⟨z, hz, rfl⟩, hs2, hb2⟩
    have HS2 := Lib.hid hs2
    have HB2 := Lib.hid ((HB1.out.alloc _).trans hb2)
    clear hs2 hb2 hR
    go_wp2
    go_ret
    exact ⟨_, rfl, ⟨z, hz, rfl⟩, HS2.out, HB2.out⟩
  · have h0' : ((r : Int) == 0) = false := by simp; omega
    go_wp2_with fail
    refine (l01Next_c (n + 1) (by omega) (by omega) g a cap zs _ HS1.out).mono ?_
    rintro e w2 ⟨v, rfl, ⟨q, hq, rfl⟩, hs2, hb2⟩
    have HS2 := Lib.hid hs2
    have HB2 := Lib.hid (HB1.out.trans hb2)
    clear hs2 hb2
    go_wp2
    go_ret
    exact ⟨_, rfl, ⟨q, by unfold Z64; omega, rfl⟩, HS2.out, HB2.out⟩

/-- a string of few letters -/
def Sml (n : Nat) (v : Value) : Prop := ∃ s : ByteArray, s.size ≤ n ∧ v = .string s

set_option maxRecDepth 100000 in
set_option maxHeartbeats 4000000 in
theorem l01From_c (a : Option Addr) (cap : Nat) (zs : List Int) (w : World) (hr : BRow w.heap.size w a zs) (hz : ∀ z ∈ zs, 0 ≤ z ∧ z ≤ 255) (hl : zs.length ≤ 4096) :
    Calls Try.prog 25 #[.slice a zs.length cap] w fun e w' => e = .returned (.pointer (some ⟨w.heap.size, 0, none⟩)) ∧ Below w.heap.size w w' ∧ Src w' w.heap.size a cap zs := by
  have HR := Lib.hid hr
  have HZ := Lib.hid hz
  clear hr hz
  go_enter Try.func25, Try.ntmps25
  go_wp2
  go_loopw [4] (fun vi wr => ∃ k : Nat, k ≤ zs.length ∧ vi = .int .i64 k ∧ Src wr w.heap.size a cap zs ∧ Below w.heap.size w wr) (fun vi _ => zs.length - (intOf vi).toNat)
  case atStart =>
    refine ⟨0, Nat.zero_le _, rfl, ⟨by simp, HR.out.same (fun b o hb => World.cell?_alloc_old _ _ _ (show b ≠ w.heap.size by omega)), HZ.out, hl, by go_simp, ⟨0, Nat.zero_le _, by go_simp⟩, ⟨12601 + zs.length, by omega, by omega, by go_simp⟩, by go_simp, by go_simp, by go_simp⟩, (Below.refl _ _).alloc (Nat.le_refl _) _⟩
  case round =>
    obtain ⟨k, hk, rfl, hs, hB⟩ := hrel
    have HS := Lib.hid hs
    have HB := Lib.hid hB
    obtain ⟨x, x0, x1, x2⟩ := hs.c2
    have z2 := hs.z2
    have hlt := hs.lt
    clear hs hB
    by_cases hk2 : k < zs.length
    · rcases HS.out.row with h | ⟨b, off, rfl, hbg, ht⟩
      · rw [h] at hk2; simp at hk2
      have d0 := ht k hk2
      have hsm := HS.out.small _ (List.getElem_mem hk2)
      obtain ⟨z, hez⟩ : ∃ z, zs[k] = z := ⟨_, rfl⟩
      rw [hez] at d0 hsm
      clear hez ht
      obtain ⟨q0, q1⟩ := hsm
      have e0 : (0 : Int) ≤ (k : Int) := by omega
      have e1 : (k : Int) < (zs.length : Int) := by omega
      have e2 : (k : Int) < 4096 := by omega
      go_wp2
      go_region
      have y01 : 0 ≤ IntKind.u64.wrap (IntKind.u64.wrap (IntKind.u64.wrap (x * 1099511628211) + z) + 73) ∧ IntKind.u64.wrap (IntKind.u64.wrap (IntKind.u64.wrap (x * 1099511628211) + z) + 73) < 18446744073709551616 := by
        rw [IntKind.wrap_u64 (_ + 73)]
        exact ⟨Int.emod_nonneg _ (by decide), Int.emod_lt_of_pos _ (by decide)⟩
      obtain ⟨y0, y1⟩ := y01
      go_wp2
      go_roundw
      case rel => exact ⟨k + 1, by omega, by go_num, (HS.out.set2 y0 y1).drew, (HB.out.setCell (Nat.le_refl _) _).drew⟩
      case measure => simp [intOf]; omega
    · obtain rfl : k = zs.length := by omega
      go_wp2
      go_ret
      exact ⟨rfl, HB.out, HS.out⟩
end Go.Proofs.Ytolbgdgoambliaa
