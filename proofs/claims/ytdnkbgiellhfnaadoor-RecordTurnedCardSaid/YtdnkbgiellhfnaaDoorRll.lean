/-
  The landed record: isKind, Size, sum.
-/
import Derived.Test.YtdnkbgiellhfnaaDoorRcis
import Derived.Test.YtdnkbgiellhfnaaDoorCrcht
import Derived.Test.YtdnkbgiellhfnaaDoorRdl
import Derived.Test.YtdnkbgiellhfnaaDoorWrl
namespace Go.Proofs.YtdnkbgiellhfnaaDoor.rcd
open Go.RowKit Go.Proofs.YtdnkbgiellhfnaaDoor.mem Go.Proofs.YtdnkbgiellhfnaaDoor.sha Go.Proofs.YtdnkbgiellhfnaaDoor.opn

theorem iskind_yes (k : Int) (h : 1 ≤ k ∧ k ≤ 3) (w : World) : Calls Tryd.prog 18 #[.int .i64 k] w fun e w' => e = .returned (.bool true) ∧ w = w' := by
  have h3 : k = 1 ∨ k = 2 ∨ k = 3 := by omega
  clear h
  rcases h3 with rfl | rfl | rfl
  all_goals
    go_enter Tryd.func18, Tryd.ntmps18
    go_wp2_with fail
    go_ret
    exact ⟨rfl, rfl⟩
theorem iskind_no (k : Int) (h : k < 1 ∨ 3 < k) (w : World) : Calls Tryd.prog 18 #[.int .i64 k] w fun e w' => e = .returned (.bool false) ∧ w = w' := by
  have h1 : (k == 1) = false := by rw [beq_eq_false_iff_ne]; omega
  have h2 : (k == 2) = false := by rw [beq_eq_false_iff_ne]; omega
  have h3 : (k == 3) = false := by rw [beq_eq_false_iff_ne]; omega
  clear h
  go_enter Tryd.func18, Tryd.ntmps18
  go_wp2_with fail
  go_ret
  exact ⟨rfl, rfl⟩
theorem size_any (n : Int) (hn : n ≤ 1000000000) (w : World) : Calls Tryd.prog 13 #[.int .i64 n] w fun e w' => e = .returned (.int .i64 (sizeR n)) ∧ w = w' := by
  unfold sizeR
  by_cases h0 : n < 0
  · rw [if_pos h0]
    go_enter Tryd.func13, Tryd.ntmps13
    go_wp2_with fail
    go_ret
    exact ⟨rfl, rfl⟩
  · rw [if_neg h0]
    have hm : min n 9223372036854775798 = n := by omega
    have hw : IntKind.i64.wrap (n + 9) = n + 9 := by rw [IntKind.wrap_i64]; omega
    go_enter Tryd.func13, Tryd.ntmps13
    go_wp2_with fail
    go_ret
    exact ⟨rfl, rfl⟩
theorem tab_turn {F : Nat → Prop} {w w' : World} (h : crc.Tab w) (ht : Turn F w w') (h0 : ¬ F 0) : crc.Tab w' :=
  ⟨Nat.le_trans h.1 ht.size, fun j hj => by
    have := h.2 j hj
    rw [World.cell?_of_block (w := w) (w' := w') (a := ⟨0, j, none⟩) (ht.block 0 h0)]
    exact this⟩
set_option maxHeartbeats 2000000 in
set_option maxRecDepth 100000 in
theorem sum_any (k : Int) (b : List UInt8) (hk : 1 ≤ k ∧ k ≤ 3) (hb : b.length ≤ 1000000000) (w : World) (hT : crc.Tab w) :
    Calls Tryd.prog 22 #[recv ⟨k, b⟩] w fun e w' => e = .returned (.int .i64 (sumI ⟨k, b⟩)) ∧ Below w.heap.size w w' := by
  obtain ⟨h1, h2⟩ := hk
  have hts := oct.tx_size b
  have htl := oct.tx_list b
  unfold recv
  obtain ⟨t, ht⟩ : ∃ t, t = oct.tx b := ⟨_, rfl⟩
  simp only
  rw [← ht] at hts htl ⊢
  have kw : IntKind.u8.wrap k = k := by rw [show IntKind.u8.wrap k = k % 256 from rfl]; omega
  have hcv := conv_k (w.alloc (.cells #[.int .i64 k, .string t] 23)) k (by omega)
  rw [show (w.alloc (.cells #[.int .i64 k, .string t] 23)).heap.size = w.heap.size + 1 by simp] at hcv
  have hb2 : Below w.heap.size w ((w.alloc (.cells #[.int .i64 k, .string t] 23)).alloc (.cells #[.int .u8 k] 5)) := ((Below.refl _ _).alloc (Nat.le_refl _) _).alloc (by simp) _
  have HS := Lib.hid (crc.sum_walk (oct.tx (b1 k)) _ (hT.next hb2) (by rw [oct.tx_size, b1_len]; decide))
  have HA := Lib.hid (crc.add_walk (crc.addC 0 (b1 k)) t _ (hT.next hb2) (by omega))
  rw [htl, crc.addC_append] at HA
  rw [oct.tx_list] at HS
  have hz := sumI_lt ⟨k, b⟩
  have hze : U (crc.addC 0 (b1 k ++ b)) = sumI ⟨k, b⟩ := rfl
  rw [hze] at HA
  obtain ⟨z, hz2⟩ : ∃ z, z = sumI ⟨k, b⟩ := ⟨_, rfl⟩
  rw [← hz2] at HA hz ⊢
  obtain ⟨z0, z1⟩ := hz
  have zw : IntKind.i64.wrap z = z := by rw [IntKind.wrap_i64]; omega
  obtain ⟨q, hq⟩ : ∃ q, q = oct.tx (b1 k) := ⟨_, rfl⟩
  rw [← hq] at HS hcv
  obtain ⟨c, hc⟩ : ∃ c, c = U (crc.addC 0 (b1 k)) := ⟨_, rfl⟩
  rw [← hc] at HS HA
  have HB := Lib.hid hb2
  clear hts htl ht hb2 hze hz2 hq hc hT hb
  go_enter Tryd.func22, Tryd.ntmps22
  go_wp2_with (first
    | (go_at_call 36; (with_reducible refine HS.out.mono ?_); rintro e w1 ⟨rfl, rfl⟩)
    | (go_at_call 37; (with_reducible refine HA.out.mono ?_); rintro e w2 ⟨rfl, rfl⟩))
  go_ret
  exact ⟨rfl, HB.out⟩
end Go.Proofs.YtdnkbgiellhfnaaDoor.rcd
