/-
  petrelref05.Kind: the kind of a topic's name.
-/
import Derived.Test.YtbhkegdohiekfaaDoorTop
import Derived.Test.YtbhkegdohiekfaaDoorStrx
import Derived.Deep.RegionWith
import Derived.Laws.Concat
import Derived.Deep.CutRange
import Derived.Deep.CutBlock
namespace Go.Proofs.YtbhkegdohiekfaaDoor.topic
open Go.RowKit Go.Proofs.YtbhkegdohiekfaaDoor.mem Go.Proofs.YtbhkegdohiekfaaDoor.sha Go.Proofs.YtbhkegdohiekfaaDoor.strx

def lettersB : ByteArray := ⟨#[63, 99, 115, 108, 109, 114]⟩
theorem letters_any (w : World) : Calls Tryd.prog 46 #[] w fun e w' => e = .returned (.string lettersB) ∧ w = w' := by
  go_enter Tryd.func46, Tryd.ntmps46
  go_wp2
  go_ret
  exact ⟨rfl, rfl⟩
def lb (k : Nat) : UInt8 := [63, 99, 115, 108, 109, 114].getD k 0
theorem kindB_lb (c : UInt8) : ∀ k, 1 ≤ k → k ≤ 5 → (∀ j, 1 ≤ j → j < k → (B (lb j) == B c) = false) → (B (lb k) == B c) = true → kindB c = k := by
  intro k h1 h5 hj hk
  have hk' : B (lb k) = B c := by simpa using hk
  have hn : ∀ j, 1 ≤ j → j < k → B (lb j) ≠ B c := fun j a b => by simpa using hj j a b
  rcases (show k = 1 ∨ k = 2 ∨ k = 3 ∨ k = 4 ∨ k = 5 by omega) with rfl | rfl | rfl | rfl | rfl <;> (unfold kindB; rw [← hk']; rfl)
theorem kindB_none (c : UInt8) (hj : ∀ j, 1 ≤ j → j < 6 → (B (lb j) == B c) = false) : kindB c = 0 := by
  have hn : ∀ j, 1 ≤ j → j < 6 → B (lb j) ≠ B c := fun j a b => by simpa using hj j a b
  have h1 := hn 1 (by decide) (by decide)
  have h2 := hn 2 (by decide) (by decide)
  have h3 := hn 3 (by decide) (by decide)
  have h4 := hn 4 (by decide) (by decide)
  have h5 := hn 5 (by decide) (by decide)
  have e1 : B (lb 1) = 99 := rfl
  have e2 : B (lb 2) = 115 := rfl
  have e3 : B (lb 3) = 108 := rfl
  have e4 : B (lb 4) = 109 := rfl
  have e5 : B (lb 5) = 114 := rfl
  unfold kindB
  repeat' split
  all_goals omega

set_option maxHeartbeats 2000000 in
set_option maxRecDepth 100000 in
theorem rkind_any (s : ByteArray) (w : World) (hs : s.size ≤ 549755813888000) : Calls Tryd.prog 30 #[.string s] w fun e w' => e = .returned (.int .i64 (kindOf s.data.toList)) ∧ ∃ m, w' = w.drewN m := by
  have HL := Lib.hid (size_list s)
  by_cases c1 : s.size < 2
  · have i1 : (s.size : Int) < 2 := by omega
    have hk := kindOf_short s.data.toList (by rw [← size_list]; exact c1)
    go_enter Tryd.func30, Tryd.ntmps30
    go_wp2_with fail
    go_ret
    exact ⟨by rw [hk]; rfl, 0, rfl⟩
  by_cases c2 : 12 < s.size
  · have i1 : (2 : Int) ≤ (s.size : Int) := by omega
    have i2 : (12 : Int) < (s.size : Int) := by omega
    have hk := kindOf_long s.data.toList (by rw [← size_list]; exact c2)
    go_enter Tryd.func30, Tryd.ntmps30
    go_wp2_with fail
    go_ret
    exact ⟨by rw [hk]; rfl, 0, rfl⟩
  have i1 : (2 : Int) ≤ (s.size : Int) := by omega
  have i2 : (s.size : Int) ≤ 12 := by omega
  have hix := fun u : World => run_index_int s ((s.size : Int) - 1) (s.size - 1) (by omega) (by omega) u
  by_cases c3 : B (s.data.toList.getD (s.size - 1) 0) = 45
  · have hk := kindOf_dash s.data.toList (by rw [← size_list]; exact c3)
    rw [c3] at hix
    go_enter Tryd.func30, Tryd.ntmps30
    go_wp2_with fail
    go_ret
    exact ⟨by rw [hk]; rfl, 0, rfl⟩
  have c3' : (B (s.data.toList.getD (s.size - 1) 0) == 45) = false := beq_eq_false_iff_ne.2 c3
  obtain ⟨z, hz⟩ : ∃ z, z = B (s.data.toList.getD (s.size - 1) 0) := ⟨_, rfl⟩
  rw [← hz] at hix c3'
  have HZ := Lib.hid hz
  have HC3 := Lib.hid c3
  clear hz c3
  go_enter Tryd.func30, Tryd.ntmps30
  go_wp2_with fail
  go_loopw [3] (fun i wr => ∃ k : Nat, 1 ≤ k ∧ k ≤ s.size ∧ i = .int .i64 k ∧ (∀ j, 1 ≤ j → j < k → okByte (s.data.toList.getD j 0) = true) ∧ wr = w) (fun i _ => s.size - (intOf i).toNat)
  case atStart => exact ⟨1, by decide, by omega, rfl, fun j _ _ => by omega, rfl⟩
  case round =>
    obtain ⟨k, k1, hk, rfl, hok, rfl⟩ := hrel
    have HOK := Lib.hid hok
    clear hok hix c3'
    have k0 : (0 : Int) ≤ (k : Int) := Int.natCast_nonneg _
    by_cases hlt : k < s.size
    · have kI : (k : Int) < (s.size : Int) := by omega
      obtain ⟨x, hx1⟩ : ∃ x, x = s.data.toList.getD k 0 := ⟨_, rfl⟩
      have hidx := fun u : World => run_index_str s k hlt u
      rw [← hx1] at hidx
      have HX := Lib.hid hx1
      have HK : Hid (okByte x = false → kindOf s.data.toList = 0) := Lib.hid fun h => kindOf_bad _ k k1 (by rw [← size_list]; exact hlt) (by rw [← HX.out]; exact h)
      have HG : Hid (okByte x = true → ∀ j, 1 ≤ j → j < k + 1 → okByte (s.data.toList.getD j 0) = true) := Lib.hid fun h j a b => by
        rcases Nat.lt_or_ge j k with hj | hj
        · exact HOK.out j a hj
        · obtain rfl : j = k := by omega
          rw [← HX.out]; exact h
      clear hx1
      refine okByte_cases x _ (fun a b ho => ?_) (fun a b c ho => ?_) (fun a ho => ?_) (fun a b c ho => ?_) (fun a b c ho => ?_) (fun a b c ho => ?_)
      · have HO := Lib.hid ho
        clear ho
        go_wp2_with fail
        exact ⟨⟨k + 1, by omega, hlt, by simp, HG.out HO.out, trivial⟩, by simp [intOf]; omega⟩
      · have HO := Lib.hid ho
        clear ho
        go_wp2_with fail
        exact ⟨⟨k + 1, by omega, hlt, by simp, HG.out HO.out, trivial⟩, by simp [intOf]; omega⟩
      · have HO := Lib.hid ho
        clear ho
        rw [a] at hidx
        go_wp2_with fail
        exact ⟨⟨k + 1, by omega, hlt, by simp, HG.out HO.out, trivial⟩, by simp [intOf]; omega⟩
      · have HO := Lib.hid (HK.out ho)
        clear ho
        go_wp2_with fail
        go_ret
        exact ⟨by rw [HO.out]; rfl, 0, rfl⟩
      · have HO := Lib.hid (HK.out ho)
        clear ho
        go_wp2_with fail
        go_ret
        exact ⟨by rw [HO.out]; rfl, 0, rfl⟩
      · have HO := Lib.hid (HK.out ho)
        clear ho
        go_wp2_with fail
        go_ret
        exact ⟨by rw [HO.out]; rfl, 0, rfl⟩
    · obtain rfl : k = s.size := by omega
      have HK : Hid (kindOf s.data.toList = kindB (s.data.toList.getD 0 0)) := Lib.hid (kindOf_good _ (by rw [← size_list]; omega) (by rw [← size_list]; omega) (by rw [← size_list]; exact HC3.out) (by rw [← size_list]; exact HOK.out))
      obtain ⟨x, hx1⟩ : ∃ x, x = s.data.toList.getD 0 0 := ⟨_, rfl⟩
      have hidx := fun u : World => run_index_int s 0 0 rfl (by omega) u
      rw [← hx1] at hidx HK
      clear hx1 hlt hk
      go_wp2_with fail
      go_loopw [5] (fun i wx => ∃ k : Nat, 1 ≤ k ∧ k ≤ 6 ∧ i = .int .i64 k ∧ (∀ j, 1 ≤ j → j < k → (B (lb j) == B x) = false) ∧ ∃ m, wx = wr.drewN m) (fun i _ => 6 - (intOf i).toNat)
      case atStart => exact ⟨1, by decide, by decide, rfl, fun j _ _ => by omega, 0, rfl⟩
      case round =>
        obtain ⟨k, k1, hk, rfl, hno, m, hwx⟩ := hrel
        have HN := Lib.hid hno
        have HW := Lib.hid hwx
        clear hno hwx
        by_cases hlt6 : k < 6
        · have kI : (k : Int) ≤ 5 := by omega
          have k0 : (1 : Int) ≤ (k : Int) := by omega
          have hid2 := fun u : World => run_index_str lettersB k (by show k < 6; exact hlt6) u
          have hlb : lettersB.data.toList.getD k 0 = lb k := rfl
          rw [hlb] at hid2
          by_cases he : (B (lb k) == B x) = true
          · have HE := Lib.hid (kindB_lb x k k1 (by omega) HN.out he)
            go_wp2_with fail
            go_quiet ((go_at_call 46; exact quiet_left (letters_any _)))
            go_wp2_with fail
            go_ret
            exact ⟨by rw [HK.out, HE.out]; rfl, m + nq, by rw [HW.out, World.drewN_drewN]⟩
          · have he' : (B (lb k) == B x) = false := by simpa using he
            have HE : Hid (∀ j, 1 ≤ j → j < k + 1 → (B (lb j) == B x) = false) := Lib.hid fun j a b => by
              rcases Nat.lt_or_ge j k with hj | hj
              · exact HN.out j a hj
              · obtain rfl : j = k := by omega
                exact he'
            clear he
            go_wp2_with fail
            go_quiet ((go_at_call 46; exact quiet_left (letters_any _)))
            go_wp2_with fail
            exact ⟨⟨k + 1, by omega, hlt6, by simp, HE.out, m + nq, by rw [HW.out, World.drewN_drewN]⟩, by simp [intOf]; omega⟩
        · obtain rfl : k = 6 := by omega
          have HE := Lib.hid (kindB_none x HN.out)
          go_wp2_with fail
          go_ret
          exact ⟨by rw [HK.out, HE.out]; rfl, m, HW.out⟩

theorem bt_beq (a b : List UInt8) : ((bt a).toList == (bt b).toList) = decide (a = b) := by
  have ha : (bt a).toList = a := ByteArray.toList_eq _
  have hb : (bt b).toList = b := ByteArray.toList_eq _
  rw [ha, hb, Bool.eq_iff_iff, beq_iff_eq, decide_eq_true_iff]
end Go.Proofs.YtbhkegdohiekfaaDoor.topic
