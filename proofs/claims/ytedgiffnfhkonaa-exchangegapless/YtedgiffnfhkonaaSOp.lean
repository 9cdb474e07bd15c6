/-
  Operations, as cells.
-/
import Derived.Test.YtedgiffnfhkonaaMem
namespace Go.Proofs.Ytedgiffnfhkonaa
/-- an operation -/
structure S.Op where
  t : Int
  s : Int
  k : Int
  n : Int
  p : Int
  a : ByteArray
  b : ByteArray
  c : ByteArray
abbrev S.Op.cs (o : S.Op) : Array Value := #[.int .i64 o.t, .int .i64 o.s, .int .i64 o.k, .int .i64 o.n, .int .i64 o.p, .string o.a, .string o.b, .string o.c]
/-- its nodes are numbers of 64 bits -/
def S.Op.in64 (o : S.Op) : Prop := (-9223372036854775808 ≤ o.n ∧ o.n ≤ 9223372036854775807) ∧ (-9223372036854775808 ≤ o.p ∧ o.p ≤ 9223372036854775807)
end Go.Proofs.Ytedgiffnfhkonaa
