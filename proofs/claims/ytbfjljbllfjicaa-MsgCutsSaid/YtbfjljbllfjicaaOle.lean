/-
  slices.Equal over two lists of ids.
-/
import Derived.Test.YtbfjljbllfjicaaIdst
namespace Go.Proofs.Ytbfjljbllfjicaa.ids
open Go.RowKit Go.Proofs.Ytbfjljbllfjicaa.mem Go.Proofs.Ytbfjljbllfjicaa.sha

set_option maxHeartbeats 1000000 in
set_option maxRecDepth 100000 in
theorem lequal_any (L M : List Id) (ad ad2 : Option Addr) (n cap n2 cap2 : Nat) (w : World) (hL : RdV w (.slice ad n cap) L) (hM : RdV w (.slice ad2 n2 cap2) M) :
    Calls Try.prog 30 #[.slice ad n cap, .slice ad2 n2 cap2] w fun e w' => e = .returned (.bool (L == M)) ∧ ∃ m, w' = w.drewN m := by
  obtain ⟨hL1, hmax, _, _, hvv, _⟩ := id hL
  have hn : n = L.length := by cases hvv; rfl
  obtain ⟨hM1, hmax2, _, _, hvv2, _⟩ := id hM
  have hn2 : n2 = M.length := by cases hvv2; rfl
  subst hn; subst hn2
  clear hvv hvv2
  have HL := Lib.hid hL
  have HM := Lib.hid hM
  clear hL hM
  by_cases hne : L.length = M.length
  case neg =>
    have hb : (L == M) = false := beq_eq_false_iff_ne.2 (fun e => hne (by rw [e]))
    have hi : ((L.length : Int) != (M.length : Int)) = true := bne_iff_ne.2 (by omega)
    rw [hb]
    clear hne hb
    go_enter Try.func30, Try.ntmps30
    go_wp2_with fail
    go_ret
    exact ⟨rfl, 0, rfl⟩
  have HE := Lib.hid hne
  have hi : (M.length : Int) = (L.length : Int) := by omega
  clear hne
  go_enter Try.func30, Try.ntmps30
  go_wp2_with fail
  go_loopw [13] (fun i wr => ∃ k m : Nat, k ≤ L.length ∧ i = .int .i64 k ∧ (∀ j, j < k → L.getD j [] = M.getD j []) ∧ wr = w.drewN m) (fun i _ => L.length - (intOf i).toNat)
  case atStart => exact ⟨0, 0, Nat.zero_le _, rfl, fun j hj => by omega, rfl⟩
  case round =>
    obtain ⟨k, m, hk, rfl, hno, hwr⟩ := hrel
    have HN := Lib.hid hno
    have HW := Lib.hid hwr
    have k0 : (0 : Int) ≤ (k : Int) := Int.natCast_nonneg _
    clear hno
    by_cases hlt : k < L.length
    · have kI : (k : Int) < (L.length : Int) := by omega
      obtain ⟨b, off, rfl, -, hb, hld⟩ := (show RdV wr _ L by rw [hwr]; exact HL.out.drewN m).load hlt
      obtain ⟨b2, off2, rfl, -, hb2, hld2⟩ := (show RdV wr _ M by rw [hwr]; exact HM.out.drewN m).load (show k < M.length by have := HE.out; omega)
      have hy := hL1.get hlt
      have hz := hM1.get (show k < M.length by have := HE.out; omega)
      have heq := fun u : World => neq_ids u (L.getD k []) (M.getD k []) hy hz
      unfold idv at heq
      obtain ⟨y, hyy⟩ : ∃ y, y = L.getD k [] := ⟨_, rfl⟩
      obtain ⟨z, hzz⟩ : ∃ y, y = M.getD k [] := ⟨_, rfl⟩
      rw [← hyy] at hld heq hy
      rw [← hzz] at hld2 heq hz
      have HY := Lib.hid hyy.symm
      have HZ := Lib.hid hzz.symm
      clear hwr hyy hzz
      by_cases he : y = z
      · have heq2 : (y != z) = false := by rw [he, bne, beq_self_eq_true]; rfl
        have HQ := Lib.hid he
        rw [heq2] at heq
        clear he heq2
        go_wp2_with fail
        refine wp_region_quiet_lit (by kernel_rfl) (by kernel_rfl) ?_
        quiet_step (fail)
        quiet_step (fail)
        quiet_step (fail)
        refine quiet_load rfl rfl rfl hld ?_
        (try simp only [Act.put, List.setIfInBounds_toArray, List.set_cons_zero, List.set_cons_succ])
        quiet_step (fail)
        quiet_step (fail)
        quiet_step (fail)
        refine quiet_load rfl rfl rfl hld2 ?_
        (try simp only [Act.put, List.setIfInBounds_toArray, List.set_cons_zero, List.set_cons_succ])
        quiet_step (fail)
        refine wpQuiet_nil ?_
        rintro _ ⟨nq, rfl⟩
        go_wp2_with fail
        go_roundw
        case rel =>
          refine ⟨k + 1, _, hlt, by push_cast; rfl, fun j hj => ?_, by rw [HW.out, World.drewN_drewN]⟩
          rcases Nat.lt_or_ge j k with h | h
          · exact HN.out j h
          · obtain rfl : j = k := by omega
            rw [HY.out, HZ.out]; exact HQ.out
        case measure => simp [intOf]; omega
      · have heq2 : (y != z) = true := bne_iff_ne.2 he
        have hr : (L == M) = false := beq_eq_false_iff_ne.2 (fun e => he (by rw [← HY.out, ← HZ.out, e]))
        have HRR := Lib.hid hr
        rw [heq2] at heq
        clear he heq2 hr
        go_wp2_with fail
        refine wp_region_quiet_lit (by kernel_rfl) (by kernel_rfl) ?_
        quiet_step (fail)
        quiet_step (fail)
        quiet_step (fail)
        refine quiet_load rfl rfl rfl hld ?_
        (try simp only [Act.put, List.setIfInBounds_toArray, List.set_cons_zero, List.set_cons_succ])
        quiet_step (fail)
        quiet_step (fail)
        quiet_step (fail)
        refine quiet_load rfl rfl rfl hld2 ?_
        (try simp only [Act.put, List.setIfInBounds_toArray, List.set_cons_zero, List.set_cons_succ])
        quiet_step (fail)
        refine wpQuiet_nil ?_
        rintro _ ⟨nq, rfl⟩
        go_wp2_with fail
        go_ret
        exact ⟨by rw [HRR.out]; rfl, _, by rw [HW.out, World.drewN_drewN]⟩
    · obtain rfl : k = L.length := by omega
      have hr : (L == M) = true := by rw [list_eq_of L M HE.out HN.out]; exact beq_self_eq_true M
      have HRR := Lib.hid hr
      clear hr hwr
      go_wp2_with fail
      go_ret
      exact ⟨by rw [HRR.out]; rfl, _, HW.out⟩
end Go.Proofs.Ytbfjljbllfjicaa.ids
