/-
  The walk of EntryLimits, any kind, by what entry's functions answer.
  A byte that came in.
-/
import Derived.Test.YtbhkegdohiekfaaDoorEnwl
import Derived.Test.YtbhkegdohiekfaaDoorEnwla
import Derived.Test.YtbhkegdohiekfaaDoorEnwlb
import Derived.Test.YtbhkegdohiekfaaDoorSha
namespace Go.Proofs.YtbhkegdohiekfaaDoor.ent
open Go.RowKit Go.Proofs.YtbhkegdohiekfaaDoor.mem Go.Proofs.YtbhkegdohiekfaaDoor.sha Go.Proofs.YtbhkegdohiekfaaDoor.ids Go.Proofs.YtbhkegdohiekfaaDoor.rows
open Go.Proofs.YtbhkegdohiekfaaDoor.opn (b1 b2 b4 num txt idl byte rd rdN rdT rdI rdS rdL St Reads Stays endE zid mkId)
open Go.Proofs.YtbhkegdohiekfaaDoor.kit (Strs)

theorem limits_walk {T : World → Prop} (hI : EnIs T) (k n : Int) (w : World) (hT : T w) (hn0 : 0 ≤ n) (hn1 : n ≤ 65535) :
    Calls Tryd.prog 6 #[.int .i64 k, .int .u16 n] w fun x w' => x = .returned (.bool true) ∧ Below w.heap.size w w' := by
  obtain ⟨m, hm⟩ : ∃ m : Nat, n.tmod 2000 = (m : Int) := ⟨(n.tmod 2000).toNat, by have := Int.tmod_nonneg (2000 : Int) hn0; omega⟩
  have hm2 : m < 2000 := by have := Int.tmod_lt_of_pos n (show (0 : Int) < 2000 by decide); omega
  by_cases h7 : k = 7
  · exact lim7 hI k n w hT hn0 hn1 m hm hm2 h7
  by_cases h0 : m = 0
  · by_cases h1 : k = 1
    · exact lim1a hI k n w hT hn0 hn1 m hm hm2 h1 h0
    by_cases h2 : k = 2
    · exact lim2a hI k n w hT hn0 hn1 m hm hm2 h2 h0
    by_cases h3 : k = 3
    · exact lim3a hI k n w hT hn0 hn1 m hm hm2 h3 h0
    exact lime hI k n w hT hn0 hn1 m hm hm2 (by omega) h0
  · by_cases h1 : k = 1
    · by_cases hb : m ≤ 256
      · exact lim1b hI k n w hT hn0 hn1 m hm hm2 h1 (by omega) hb
      · exact lim1c hI k n w hT hn0 hn1 m hm hm2 h1 (by omega)
    by_cases h2 : k = 2
    · by_cases hb : m ≤ 256
      · exact lim2b hI k n w hT hn0 hn1 m hm hm2 h2 (by omega) hb
      · exact lim2c hI k n w hT hn0 hn1 m hm hm2 h2 (by omega)
    by_cases h3 : k = 3
    · by_cases hb : m ≤ 512
      · exact lim3b hI k n w hT hn0 hn1 m hm hm2 h3 (by omega) hb
      · exact lim3c hI k n w hT hn0 hn1 m hm hm2 h3 (by omega)
    exact limd hI k n w hT hn0 hn1 m hm hm2 (by omega) h0
end Go.Proofs.YtbhkegdohiekfaaDoor.ent

namespace Go.Proofs.YtbhkegdohiekfaaDoor.kit
open Go.RowKit Go.Proofs.YtbhkegdohiekfaaDoor.sha

theorem byte_of {a : Int} (h : Lit.wf (.int .u8 a)) : ∃ c : UInt8, a = B c := by
  have hb : 0 ≤ a ∧ a ≤ 255 := by simpa [Lit.wf, IntKind.min, IntKind.max, IntKind.signed, IntKind.bits] using h
  refine ⟨UInt8.ofNat a.toNat, ?_⟩
  unfold B
  rw [UInt8.toNat_ofNat_of_lt' (by show a.toNat < 256; omega)]
  omega
end Go.Proofs.YtbhkegdohiekfaaDoor.kit
