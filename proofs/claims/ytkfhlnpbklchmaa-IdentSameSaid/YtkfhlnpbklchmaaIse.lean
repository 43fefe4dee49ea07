/-
  What package ident answers, as far as texts, ids and sets go: of the landed code.
-/
import Derived.Test.YtkfhlnpbklchmaaIsb
import Derived.Test.YtkfhlnpbklchmaaIsd
import Derived.Test.YtkfhlnpbklchmaaIdta
namespace Go.Proofs.Ytkfhlnpbklchmaa.ids
open Go.RowKit Go.Proofs.Ytkfhlnpbklchmaa.mem Go.Proofs.Ytkfhlnpbklchmaa.sha Go.Proofs.Ytkfhlnpbklchmaa.strx
theorem identA : IdentA (fun _ => True) where
  next := fun _ _ => trivial
  compare := fun x y w _ hx hy => compare_any x y w hx hy
  text := fun x w _ hx => text_any x w hx
  parse := fun l w _ hl => parse_any l w hl
  set := fun L v w _ hR hm => (set_any L v w hR hm).mono fun _ _ ⟨v', he, hO, hB⟩ => ⟨v', he, hO.mine (Nat.le_trans (setL_len L) (by omega)), hB⟩
  is := fun L v w _ hR hm => is_any L v w hR hm
end Go.Proofs.Ytkfhlnpbklchmaa.ids
