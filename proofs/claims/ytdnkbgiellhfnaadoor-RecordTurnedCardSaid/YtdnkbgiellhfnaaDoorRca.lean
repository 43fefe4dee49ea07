/-
  petrelref11.Same.
-/
import Derived.Test.YtdnkbgiellhfnaaDoorRcaa
namespace Go.Proofs.YtdnkbgiellhfnaaDoor.rcd
open Go.RowKit Go.Proofs.YtdnkbgiellhfnaaDoor.mem Go.Proofs.YtdnkbgiellhfnaaDoor.sha Go.Proofs.YtdnkbgiellhfnaaDoor.opn Go.Proofs.YtdnkbgiellhfnaaDoor.rows Go.Proofs.YtdnkbgiellhfnaaDoor.ids

/-- two lists that are one -/
theorem same_eq {w : World} {va vb : Value} {L : List Rc} (hA : RcV w va L) (hB : RcV w vb L) (hm : L.length ≤ 1000000) :
    Calls Tryd.prog 16 #[va, vb] w fun e w' => e = .returned (.bool true) ∧ Below w.heap.size w w' := by
  obtain ⟨ad, c1, rfl, hC1⟩ := hA
  obtain ⟨bd, c2, rfl, hC2⟩ := hB
  obtain ⟨n, hn⟩ : ∃ n, n = L.length := ⟨_, rfl⟩
  rw [← hn] at hC1 hC2 hm ⊢
  have n0 : (0 : Int) ≤ (n : Int) := Int.natCast_nonneg _
  clear hn
  go_enter Tryd.func16, Tryd.ntmps16
  go_wp2_with fail
  go_loopg [5] (n + 1) (fun gk s5 wr => ∃ i : Nat, s5 = .int .i64 i ∧ i ≤ n ∧ n - i < gk ∧ Hid (Below w.heap.size w wr))
  case atStart => exact ⟨0, rfl, Nat.zero_le _, by omega, Lib.hid (Below.refl _ _)⟩
  case round =>
    obtain ⟨i, rfl, hi, hgk, HB⟩ := hrel
    have i0 : (0 : Int) ≤ (i : Int) := Int.natCast_nonneg _
    by_cases hlt : i < n
    · have hltz : (i : Int) < (n : Int) := by omega
      obtain ⟨b, off, rfl, hbl, a0, a1⟩ := hC1 i hlt
      obtain ⟨b', off', rfl, hbl', a0', a1'⟩ := hC2 i hlt
      replace a0 := (HB.out.cell (p := ⟨b, off + i * 2, none⟩) hbl).trans a0
      replace a1 := (HB.out.cell (p := ⟨b, off + i * 2 + 1, none⟩) hbl).trans a1
      replace a0' := (HB.out.cell (p := ⟨b', off' + i * 2, none⟩) hbl').trans a0'
      replace a1' := (HB.out.cell (p := ⟨b', off' + i * 2 + 1, none⟩) hbl').trans a1'
      obtain ⟨k, hk⟩ : ∃ k, k = (L.getD i zrc).k := ⟨_, rfl⟩
      obtain ⟨t, ht⟩ : ∃ t, t = oct.tx (L.getD i zrc).body := ⟨_, rfl⟩
      rw [← hk] at a0 a0'
      rw [← ht] at a1 a1'
      clear hk ht hC1 hC2
      go_upto_region 6 with fail
      go_quiet (fail)
      go_wp2_with fail
      go_roundg (n - i)
      case measure => omega
      case rel => exact ⟨i + 1, by go_num, hlt, by omega, Lib.hid (below_drewN HB.out _)⟩
    · have hlt' : ¬ (i : Int) < (n : Int) := by omega
      go_wp2_with fail
      go_ret
      exact ⟨rfl, HB.out⟩
end Go.Proofs.YtdnkbgiellhfnaaDoor.rcd
