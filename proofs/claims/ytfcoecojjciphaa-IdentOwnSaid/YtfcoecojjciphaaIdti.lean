/-
  What package ident answers, as a premise, all of it.
-/
import Derived.Test.YtfcoecojjciphaaIdta
import Derived.Test.YtfcoecojjciphaaIdsy
namespace Go.Proofs.Ytfcoecojjciphaa.ids
open Go.RowKit Go.Proofs.Ytfcoecojjciphaa.mem Go.Proofs.Ytfcoecojjciphaa.sha Go.Proofs.Ytfcoecojjciphaa.strx
/-- .. and the rest -/
structure IdentIs (T : World → Prop) : Prop extends IdentA T where
  has : ∀ (L : List Id) (x : Id) (v : Value) (w : World), T w → RdV w v L → L.length ≤ 1000 → x.length = 32 → Calls Try.prog 21 #[v, .agg (bv x).toArray] w fun e w' => e = .returned (.bool (L.contains x)) ∧ Below w.heap.size w w'
  with_ : ∀ (L : List Id) (x : Id) (v : Value) (w : World), T w → RdV w v L → L.length ≤ 1000 → x.length = 32 → Calls Try.prog 23 #[v, .agg (bv x).toArray] w fun e w' => ∃ v', e = .returned v' ∧ Mine w' (w.heap.size ≤ ·) v' (withL (setL L) x) ∧ Below w.heap.size w w'
  without : ∀ (L : List Id) (x : Id) (v : Value) (w : World), T w → RdV w v L → L.length ≤ 1000 → x.length = 32 → Calls Try.prog 25 #[v, .agg (bv x).toArray] w fun e w' => ∃ v', e = .returned v' ∧ Mine w' (w.heap.size ≤ ·) v' (woutL (setL L) x) ∧ Below w.heap.size w w'
  less : ∀ (L M : List Id) (v u : Value) (w : World), T w → RdV w v L → RdV w u M → L.length ≤ 1000 → M.length ≤ 1000 → Calls Try.prog 27 #[v, u] w fun e w' => ∃ v', e = .returned v' ∧ Mine w' (w.heap.size ≤ ·) v' (lessL L M) ∧ Below w.heap.size w w'
  both : ∀ (L M : List Id) (v u : Value) (w : World), T w → RdV w v L → RdV w u M → L.length ≤ 1000 → M.length ≤ 1000 → Calls Try.prog 29 #[v, u] w fun e w' => ∃ v', e = .returned v' ∧ Mine w' (w.heap.size ≤ ·) v' (bothL L M) ∧ Below w.heap.size w w'
theorem woutL_len (L : List Id) (x : Id) : (woutL L x).length ≤ L.length := List.length_filter_le _ _
end Go.Proofs.Ytfcoecojjciphaa.ids
