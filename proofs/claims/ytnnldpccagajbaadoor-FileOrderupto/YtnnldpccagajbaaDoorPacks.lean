/-
  Chapter 3's bytes in plain words of lists: what Encode answers. Nothing of the program.
-/
import Derived.Test.YtnnldpccagajbaaDoorTidies
import Derived.Test.YtnnldpccagajbaaDoorTexts
import Derived.Test.YtnnldpccagajbaaDoorBits
import Derived.Test.YtnnldpccagajbaaDoorCrc
namespace Go.Proofs.YtnnldpccagajbaaDoor
/-- a page: its length, what it has, its sum -/
def page (s : List UInt8) : List UInt8 := vb s.length ++ (s ++ Crc.sum s)
/-- all texts of rows, each once, rising -/
def allT (rows : List (List (List UInt8))) : List (List UInt8) := (sortU (rows.flatten.map fun t => [t])).map fun r => r.headD []
/-- how the numbers of a column's texts go up and down -/
def colF (all : List (List UInt8)) (c : Nat) : Int → List (List (List UInt8)) → List UInt8
  | _, [] => []
  | last, r :: rest => vb (fold (find all (r.getD c []) - last)).toNat ++ colF all c (find all (r.getD c [])) rest
/-- the first page -/
def headT (name : List UInt8) (ar n : Nat) : List UInt8 := vb name.length ++ (name ++ (vb ar ++ vb n))
def colsF (all : List (List UInt8)) (rows : List (List (List UInt8))) (n : Nat) : List UInt8 := ((List.range n).map fun c => page (colF all c 0 rows)).flatten
def bodyP (name : List UInt8) (ar : Nat) (rows : List (List (List UInt8))) : List UInt8 :=
  [82, 69, 76, 49] ++ (page (headT name ar rows.length) ++ (page (build (allT rows)).1 ++ colsF (allT rows) rows ar))
def packF (name : List UInt8) (ar : Nat) (rows : List (List (List UInt8))) : List UInt8 := bodyP name ar rows ++ Crc.sum (bodyP name ar rows)
/-- C2 -/
def encode (name : List UInt8) (ar : Int) (rows : List (List (List UInt8))) : List UInt8 × Nat × Nat :=
  match tidy name ar rows with
  | (0, _, L) => if 65536 < (packF name ar.toNat L).length then ([], 1, 0) else (packF name ar.toNat L, 0, 0)
  | (e + 1, i, _) => ([], e + 1, i)
theorem colsF_succ (all : List (List UInt8)) (rows : List (List (List UInt8))) (n : Nat) : colsF all rows (n + 1) = colsF all rows n ++ page (colF all n 0 rows) := by
  unfold colsF
  rw [List.range_succ, List.map_append, List.flatten_append]; simp
end Go.Proofs.YtnnldpccagajbaaDoor
