/-
  Errors told plainly: their numbers, operations, reports.
-/
import Derived.Test.YtlbieneklijpeaaDoorRowc
namespace Go.Proofs.YtlbieneklijpeaaDoor.fault
open Go.RowKit Go.Proofs.YtlbieneklijpeaaDoor.mem Go.Proofs.YtlbieneklijpeaaDoor.sha Go.Proofs.YtlbieneklijpeaaDoor.ids Go.Proofs.YtlbieneklijpeaaDoor.rows

abbrev Id := List UInt8
/-- an error, told plainly -/
structure Flt where
  nums : List Int
  ops : List ByteArray
  reps : List (List Id)
def noF : Flt := ⟨[], [], []⟩
def newF (e : Int) : Flt := if e = 0 then noF else ⟨[e], [], []⟩
def missF (L : List Id) : Flt := if L = [] then noF else ⟨[16], [], [L]⟩
def wrapF (op : ByteArray) (f : Flt) : Flt := if f.nums = [] then f else ⟨f.nums, op :: f.ops, f.reps⟩
def joinF (f g : Flt) : Flt := ⟨f.nums ++ g.nums, f.ops ++ g.ops, f.reps ++ g.reps⟩
def isF (f : Flt) (e : Int) : Bool := if e = 0 then f.nums.isEmpty else f.nums.contains e
def ints (l : List Int) : List Value := l.map fun n => Value.int .i64 n
def texts (l : List ByteArray) : List Value := l.map fun s => Value.string s
end Go.Proofs.YtlbieneklijpeaaDoor.fault
