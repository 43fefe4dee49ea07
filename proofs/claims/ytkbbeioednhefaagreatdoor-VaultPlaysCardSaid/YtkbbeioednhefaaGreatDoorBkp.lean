/-
  A file of which the end may be torn off, by plain functions; petrelref10.
-/
import Derived.Test.YtkbbeioednhefaaGreatDoorBkpl
import Derived.Test.YtkbbeioednhefaaGreatDoorStrx
import Derived.Test.YtkbbeioednhefaaGreatDoorStepl
import Derived.RegionTactic
import Derived.ChangeAlike
import Derived.BigRegion
namespace Go.Proofs.YtkbbeioednhefaaGreatDoor.bk
open Go.RowKit Go.Proofs.YtkbbeioednhefaaGreatDoor.mem Go.Proofs.YtkbbeioednhefaaGreatDoor.sha Go.Proofs.YtkbbeioednhefaaGreatDoor.strx

theorem bt_take (s : List UInt8) (m : Nat) : (bt s).extract 0 m = bt (s.take m) := by
  apply ByteArray.ext
  simp [bt, ByteArray.data_extract]
/-- the plain block in memory -/
def XBlk (w : World) (X : Nat) (s : List UInt8) (k : Nat) : Prop := Blk w X 26 #[.string (bt s), .int .i64 (k : Int)]
set_option maxHeartbeats 2000000 in
set_option maxRecDepth 100000 in
theorem crash_any (X : Nat) (s : List UInt8) (k : Nat) (n : Int) (w : World) (h : XBlk w X s k) (hk : k ≤ s.length) (hs : s.length ≤ 1000000000) :
    Calls Tryz.prog 62 #[.pointer (some ⟨X, 0, none⟩), .int .i64 n] w fun e w' => e = .returned (.int .i64 (crashB s k n).2.2) ∧ XBlk w' X (crashB s k n).1 (crashB s k n).2.1 ∧ Turn (· = X) w w' := by
  have c0 : w.cell? ⟨X, 0, none⟩ = some (.string (bt s)) := Blk.cell h 0
  have c1 : w.cell? ⟨X, 1, none⟩ = some (.int .i64 (k : Int)) := Blk.cell h 1
  have f0 := Blk.frozen h 0
  have f1 := Blk.frozen h 1
  have H := Lib.hid h
  have hz := bt_size s
  obtain ⟨t, ht⟩ : ∃ t, t = bt s := ⟨_, rfl⟩
  rw [← ht] at c0 hz
  have HT := Lib.hid ht
  have HZ := Lib.hid hz
  have t0 : (0 : Int) ≤ (t.size : Int) := Int.natCast_nonneg _
  have k0 : (0 : Int) ≤ (k : Int) := Int.natCast_nonneg _
  have t1 : (t.size : Int) ≤ 1000000000 := by omega
  have k1 : (k : Int) ≤ (t.size : Int) := by omega
  obtain ⟨q, hq⟩ : ∃ q, q = keepB s k n := ⟨_, rfl⟩
  have hqe : (if 0 < if (t.size : Int) - (k : Int) < n then (t.size : Int) - (k : Int) else n then if (t.size : Int) - (k : Int) < n then (t.size : Int) - (k : Int) else n else 0) = (q : Int) := by
    rw [hq]
    unfold keepB
    rw [← hz]
    repeat' split
    all_goals omega
  have hql : k + q ≤ t.size := by rw [hq, hz]; exact keepB_le s k n hk
  have q0 : (0 : Int) ≤ (q : Int) := Int.natCast_nonneg _
  have q1 : (k : Int) + (q : Int) ≤ (t.size : Int) := by omega
  have HE : Hid (crashB s k n = (s.take (k + q), k + q, (t.size : Int) - (k : Int) - (q : Int))) := Lib.hid (by unfold crashB; rw [← hq, hz])
  have HX : Hid (t.extract 0 (k + q) = bt (s.take (k + q))) := Lib.hid (by rw [ht, bt_take])
  have HXS : Hid ((t.extract 0 (k + q)).size = k + q) := Lib.hid (by rw [ByteArray.size_extract]; omega)
  have HQE := Lib.hid hqe
  obtain ⟨mn, hmn⟩ : ∃ z, (if (t.size : Int) - (k : Int) < n then (t.size : Int) - (k : Int) else n) = z := ⟨_, rfl⟩
  have HMN := Lib.hid hmn
  rw [HE.out]
  clear h ht hz hs hk hq hqe hql hmn HE
  go_enter Tryz.func62, Tryz.ntmps62
  go_wp2_with fail
  go_region
  rw [HQE.out, HMN.out]
  go_wp2_with fail
  go_region
  go_wp2_with fail
  go_region
  obtain ⟨wx, hwx⟩ : ∃ u, u = (w.setCell ⟨X, 0, none⟩ (.string (t.extract 0 (k + q)))).drew.drew.drew := ⟨_, rfl⟩
  obtain ⟨y, hy⟩ : ∃ y, y = t.extract 0 (k + q) := ⟨_, rfl⟩
  have hb : Blk wx X 26 #[.string y, .int .i64 (k : Int)] := by rw [hwx, hy]; exact Blk.set_ H.out 0 (.string (t.extract 0 (k + q)))
  have hT : Turn (· = X) w wx := by rw [hwx]; exact ((((Turn.refl (· = X) w).setCell rfl _).drew).drew).drew
  rw [← hwx, ← hy]
  have d0 : wx.cell? ⟨X, 0, none⟩ = some (.string y) := Blk.cell hb 0
  have d1 : wx.cell? ⟨X, 1, none⟩ = some (.int .i64 (k : Int)) := Blk.cell hb 1
  have g0 := Blk.frozen hb 0
  have g1 := Blk.frozen hb 1
  have HB := Lib.hid hb
  have HTT := Lib.hid hT
  have HY : Hid (y = bt (s.take (k + q))) := Lib.hid (by rw [hy, HX.out])
  have HYS : Hid (y.size = k + q) := Lib.hid (by rw [hy, HXS.out])
  clear hwx hy hb hT HX HXS c0 c1 f0 f1 H
  go_wp2_with fail
  go_ret
  refine ⟨rfl, ?_, HTT.out.setCell rfl _⟩
  unfold XBlk
  rw [← HY.out, ← HYS.out]
  exact Blk.set_ HB.out 1 (.int .i64 (y.size : Int))
end Go.Proofs.YtkbbeioednhefaaGreatDoor.bk
