/-
 petrelref15.Height.
-/
import Derived.Test.YtpeneeddfgmjpaaGreatDoorRufa
namespace Go.Proofs.YtpeneeddfgmjpaaGreatDoor.rul
open Go.RowKit Go.Proofs.YtpeneeddfgmjpaaGreatDoor.mem Go.Proofs.YtpeneeddfgmjpaaGreatDoor.sha Go.Proofs.YtpeneeddfgmjpaaGreatDoor.ids Go.Proofs.YtpeneeddfgmjpaaGreatDoor.hdr Go.Proofs.YtpeneeddfgmjpaaGreatDoor.hds
open Go.Proofs.YtpeneeddfgmjpaaGreatDoor.opn (zid)

set_option maxHeartbeats 4000000 in
set_option maxRecDepth 100000 in
theorem height_ref (v : Value) (P : HP) (w : World) (hv : HsV w v P) (hn : P.length ≤ 1000000) :
  Calls Tryz.prog 14 #[v] w fun e w' => e = .returned (.int .i64 (heightR (hs P))) ∧ w = w' := by
 obtain ⟨ad, cap, rfl⟩ := hv.form
 obtain ⟨n, hnn⟩ : ∃ n, n = P.length := ⟨_, rfl⟩
 have HV := Lib.hid hv
 have HNN := Lib.hid hnn
 rw [← hnn] at hn HV
 rw [← hnn]
 clear hv hnn
 go_enter Tryz.func14, Tryz.ntmps14
 go_wp2_with fail
 go_loopw [3, 4] (fun m i wr => ∃ k : Nat, k ≤ n ∧ i = .int .i64 (k : Int) ∧ m = .int .i64 (((hs P).take k).foldl up 0) ∧ w = wr) (fun _ i _ => n - (intOf i).toNat)
 case atStart => exact ⟨0, Nat.zero_le _, rfl, by simp, rfl⟩
 case round =>
  obtain ⟨k, hk, rfl, rfl, rfl⟩ := hrel
  have k0 : (0 : Int) ≤ (k : Int) := Int.natCast_nonneg _
  by_cases hlt : k < n
  ·
   have kI : (k : Int) < (n : Int) := by omega
   have hkP : k < P.length := by rw [← HNN.out]; exact hlt
   obtain ⟨b, off, rfl, hbb, -, -, hc, -⟩ := HV.out.at_ hkP
   have HS : Hid (((hs P).take (k + 1)).foldl up 0 = up (((hs P).take k).foldl up 0) (P.getD k zhp).1) := Lib.hid (by
    rw [List.take_add_one, hs_get hkP, Option.toList_some, List.foldl_append]; rfl)
   obtain ⟨m, hm⟩ : ∃ m, m = ((hs P).take k).foldl up 0 := ⟨_, rfl⟩
   obtain ⟨x, hx⟩ : ∃ x, x = (P.getD k zhp).1.height := ⟨_, rfl⟩
   have HM : Hid (((hs P).take (k + 1)).foldl up 0 = max m (min x 1073741824)) := Lib.hid (by rw [HS.out, ← hm, hx]; rfl)
   rw [← hm]
   rw [← hx] at hc
   clear hm hx hkP hbb HS
   go_wp2_with fail
   go_roundw
   case rel => exact ⟨k + 1, hlt, by push_cast; rfl, by rw [HM.out], trivial⟩
   case measure => simp [intOf]; omega
  ·
   obtain rfl : k = n := by omega
   have HE : Hid (heightR (hs P) = ((hs P).take k).foldl up 0 + 1) := Lib.hid (by
    rw [List.take_of_length_le (by rw [hs_len, ← HNN.out]; exact Nat.le_refl _)]; rfl)
   clear hlt
   have hw : IntKind.i64.wrap (((hs P).take k).foldl up 0 + 1) = ((hs P).take k).foldl up 0 + 1 := by
    have h1 := up_ge ((hs P).take k) 0
    have h2 := up_le ((hs P).take k) 0 1073741824 (by decide) fun h _ => by omega
    rw [IntKind.wrap_i64]; omega
   go_wp2_with fail
   go_ret
   exact ⟨by rw [HE.out]; rfl, rfl⟩
end Go.Proofs.YtpeneeddfgmjpaaGreatDoor.rul
