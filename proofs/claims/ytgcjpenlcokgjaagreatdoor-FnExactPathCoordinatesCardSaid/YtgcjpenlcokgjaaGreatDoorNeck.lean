/-
  Plain mathematics of necklaces: the least of the turned words. No program is named here.
  Contracts of NecklaceOf, of the program and of its model.
-/
import Derived.Test.YtgcjpenlcokgjaaGreatDoorLyn
import Derived.Test.YtgcjpenlcokgjaaGreatDoorShelf
import Derived.Test.YtgcjpenlcokgjaaGreatDoorRes
namespace Go.Proofs.YtgcjpenlcokgjaaGreatDoor

/-- the word that arises if i letters are moved from the beginning to the end -/
def rotS (s : ByteArray) (i : Nat) : ByteArray := s.extract i s.size ++ s.extract 0 i
/-- the lesser of two texts -/
def minS (x y : ByteArray) : ByteArray := if (Op.bytesLess x.toList y.toList || x.toList == y.toList) = true then x else y
/-- the least of the first k turned words -/
def neckTo (s : ByteArray) : Nat → ByteArray
  | 0 => s
  | k + 1 => minS (neckTo s k) (rotS s k)
theorem extract_all (s : ByteArray) : s.extract 0 s.size = s := by simp
theorem rotS_zero (s : ByteArray) : rotS s 0 = s := by simp [rotS]
theorem minS_self (s : ByteArray) : minS s s = s := by simp [minS]
theorem neckTo_one (s : ByteArray) : neckTo s 1 = s := by
  show minS s (rotS s 0) = s
  rw [rotS_zero, minS_self]
theorem rotS_size (s : ByteArray) (i : Nat) (h : i ≤ s.size) : (rotS s i).size = s.size := by
  simp only [rotS, ByteArray.size_append, ByteArray.size_extract]
  omega
theorem neckTo_size (s : ByteArray) : ∀ k, k ≤ s.size → (neckTo s k).size = s.size
  | 0, _ => rfl
  | k + 1, h => by
    show (minS (neckTo s k) (rotS s k)).size = s.size
    unfold minS
    split
    · exact neckTo_size s k (by omega)
    · exact rotS_size s k (by omega)
theorem run_min_str {P : Program} (ts : Array TypeId) (t : TypeId) (x y : ByteArray) (w : World) : (Builtin.min_ ts t #[.string x, .string y]).run P w = .ok (.string (minS x y)) w := by
  simp [Builtin.min_, Builtin.min2, Op.stringOp, asBool, minS]
end Go.Proofs.YtgcjpenlcokgjaaGreatDoor

namespace Go.Proofs.YtgcjpenlcokgjaaGreatDoor
open Go.RowKit

theorem cloneS_c (s : ByteArray) (hs : s.size ≤ 1048576) (w : World) :
    Calls Tryz.prog 96 #[.string s] w fun e w' => e = .returned (.string s) ∧ Below w.heap.size w w' := by
  go_enter Tryz.func96, Tryz.ntmps96
  go_wp2_with fail
  refine (Tryz.stringslite_Clone s _ (by omega)).mono ?_
  rintro e w' ⟨rfl, hb⟩
  go_wp2
  go_ret
  exact ⟨rfl, hb⟩

/-- what a function that returns a text and a code comes to -/
def TextPost (s : ByteArray) (c : Int) (W : World) (e : Ending) (w' : World) : Prop := e = .returned (.tuple #[.string s, .int .i64 c]) ∧ Below W.heap.size W w'

end Go.Proofs.YtgcjpenlcokgjaaGreatDoor
