/-
  Rows of numbers in memory of their own, be they blocks or slices of one: marked, told.
-/
import Derived.Test.YtknigggjnjkhbaaGrid
namespace Go.Proofs.Ytknigggjnjkhbaa
open Go.RowKit

def AnyP (lo hi : Nat) (w : World) (a : Option Addr) (ps : List (List Int)) : Prop := NewP lo hi w a ps ∨ ∃ n, GridP n lo hi w a ps
theorem AnyP.row {lo hi : Nat} {w : World} {a : Option Addr} {ps : List (List Int)} (h : AnyP lo hi w a ps) : PRow lo hi w a ps := by
  rcases h with h | ⟨n, h⟩
  · exact h.row
  · exact h.row
theorem AnyP.mono {lo hi lo' hi' : Nat} {w : World} {a : Option Addr} {ps : List (List Int)} (h : AnyP lo hi w a ps) (h1 : lo' ≤ lo) (h2 : hi ≤ hi') : AnyP lo' hi' w a ps := by
  rcases h with h | ⟨n, h⟩
  · exact .inl (h.mono h1 h2)
  · exact .inr ⟨n, h.mono h1 h2⟩
theorem AnyP.below {lo hi B : Nat} {w w' : World} {a : Option Addr} {ps : List (List Int)} (h : AnyP lo hi w a ps) (hb : Below B w w') (hh : hi ≤ B) : AnyP lo hi w' a ps := by
  rcases h with h | ⟨n, h⟩
  · exact .inl (h.below hb hh)
  · exact .inr ⟨n, h.below hb hh⟩
theorem AnyP.outside {lo hi l h' : Nat} {w w' : World} {a : Option Addr} {ps : List (List Int)} (h : AnyP lo hi w a ps) (hg : Outside l h' w w') (ho : hi ≤ l ∨ h' ≤ lo) : AnyP lo hi w' a ps := by
  rcases h with h | ⟨n, h⟩
  · exact .inl (h.outside hg ho)
  · exact .inr ⟨n, h.outside hg ho⟩
theorem markInt64SS_any (lo hi : Nat) (a : Option Addr) (cap : Nat) (ps : List (List Int)) (k : Int) (hk : 0 < k) (hk2 : k + (flat ps : Int) < 100000000) (hl : ps.length ≤ 1048576) (w : World) (h : AnyP lo hi w a ps) :
    Calls Try.prog 38 #[.slice a ps.length cap, .int .i64 k] w fun e w' => e = .returned (.int .i64 (k + flat ps)) ∧ Outside lo hi w w' ∧ AnyP lo hi w' a (markedP k ps) := by
  rcases h with h | ⟨n, h⟩
  · exact (markInt64SS_row lo hi a cap ps k hk hk2 hl w h).mono fun e w' ⟨h1, h2, h3⟩ => ⟨h1, h2, .inl h3⟩
  · exact (markInt64SS_grid n lo hi a cap ps k hk hk2 hl w h).mono fun e w' ⟨h1, h2, h3⟩ => ⟨h1, h2, .inr ⟨n, h3⟩⟩
end Go.Proofs.Ytknigggjnjkhbaa
