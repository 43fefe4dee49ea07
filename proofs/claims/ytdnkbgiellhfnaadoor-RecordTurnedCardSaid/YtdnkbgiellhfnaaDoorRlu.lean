/-
  The landed record: what its functions answer.
-/
import Derived.Test.YtdnkbgiellhfnaaDoorRlt
namespace Go.Proofs.YtdnkbgiellhfnaaDoor.rcd
open Go.RowKit Go.Proofs.YtdnkbgiellhfnaaDoor.mem

theorem rc_is : RcIs crc.Tab where
  next := crc.Tab.next
  put k b w hT hb := lput_any k b w hT hb
  nxt s i w hT hs := lnext_any s i w hT (by omega)
  all s w hT hs := lall_any s w hT hs
  size n w _ hn := (size_any n (by omega) w).mono fun _ _ ⟨he, hw⟩ => ⟨he, hw ▸ Below.refl _ _⟩
end Go.Proofs.YtdnkbgiellhfnaaDoor.rcd
