/-
  petrelref01.Num of a number that fits.
  petrelref11 by plain functions: inner, num, Put, Next.
-/
import Derived.Test.YtkbbeioednhefaaDoorOpp
import Derived.Test.YtkbbeioednhefaaDoorRef2
import Derived.Test.YtkbbeioednhefaaDoorSha
import Derived.Test.YtkbbeioednhefaaDoorRcp
import Derived.Test.YtkbbeioednhefaaDoorRdx
import Derived.Test.YtkbbeioednhefaaDoorKitc
import Derived.Test.YtkbbeioednhefaaDoorStrx
namespace Go.Proofs.YtkbbeioednhefaaDoor.opn
open Go.RowKit Go.Proofs.YtkbbeioednhefaaDoor.mem Go.Proofs.YtkbbeioednhefaaDoor.sha

theorem tx_app (a b : List UInt8) : oct.tx a ++ oct.tx b = oct.tx (a ++ b) := by
  apply oct.bytes_ext
  rw [ByteArray.data_append, Array.toList_append, oct.tx_list, oct.tx_list, oct.tx_list]
theorem num1_r (n : Int) (h0 : 0 ≤ n) (h1 : n < 256) (w : World) : Calls Tryd.prog 84 #[.int .i64 n, .int .i64 1] w fun e w' => e = .returned (.tuple #[.string (oct.tx (b1 n)), .int .i64 0]) ∧ Below w.heap.size w w' := by
  have := oct.refnum_any n 1 w
  rw [show oct.refNum n 1 = (oct.tx (b1 n), 0) by
    unfold oct.refNum
    rw [if_neg (by unfold oct.numErr; rw [if_neg (by decide), if_neg (by simp; omega)]; decide)]
    rfl] at this
  exact this
theorem num4_r (n : Int) (h0 : 0 ≤ n) (h1 : n < 4294967296) (w : World) : Calls Tryd.prog 84 #[.int .i64 n, .int .i64 4] w fun e w' => e = .returned (.tuple #[.string (oct.tx (b4 n)), .int .i64 0]) ∧ Below w.heap.size w w' := by
  have := oct.refnum_any n 4 w
  rw [show oct.refNum n 4 = (oct.tx (b4 n), 0) by
    unfold oct.refNum
    rw [if_neg (by unfold oct.numErr; rw [if_neg (by decide), if_neg (by simp; omega)]; decide)]
    rfl] at this
  exact this

theorem num2_r (n : Int) (h0 : 0 ≤ n) (h1 : n < 65536) (w : World) : Calls Tryd.prog 84 #[.int .i64 n, .int .i64 2] w fun e w' => e = .returned (.tuple #[.string (oct.tx (b2 n)), .int .i64 0]) ∧ Below w.heap.size w w' := by
  have := oct.refnum_any n 2 w
  rw [show oct.refNum n 2 = (oct.tx (b2 n), 0) by
    unfold oct.refNum
    rw [if_neg (by unfold oct.numErr; rw [if_neg (by decide), if_neg (by simp; omega)]; decide)]
    rfl] at this
  exact this

end Go.Proofs.YtkbbeioednhefaaDoor.opn

namespace Go.Proofs.YtkbbeioednhefaaDoor.rcd
open Go.RowKit Go.Proofs.YtkbbeioednhefaaDoor.mem Go.Proofs.YtkbbeioednhefaaDoor.sha Go.Proofs.YtkbbeioednhefaaDoor.opn

def recv (r : Rc) : Value := .agg #[.int .i64 r.k, .string (oct.tx r.body)]
theorem conv_k (w : World) (k : Int) (h : 0 ≤ k ∧ k < 256) : (convert 53 9 (.slice (some ⟨w.heap.size, 0, none⟩) 1 1)).run Tryd.prog (w.alloc (.cells #[.int .u8 k] 5)) = .ok (.string (oct.tx (b1 k))) (w.alloc (.cells #[.int .u8 k] 5)) := by
  have hn := byte_toNat k h.1
  refine run_convert_bytes_back (P := Tryd.prog) _ 53 9 5 ⟨w.heap.size, 0, none⟩ 1 (b1 k) Tryd.underlying53 Tryd.underlying5 Tryd.underlying9 (fun j hj => ?_)
  obtain rfl : j = 0 := by rw [b1_len] at hj; omega
  rw [Addr.add_lit, (Blk.new w _ _).cell]
  show some (Value.int .u8 k) = some (.int .u8 ((byte k).toNat : Int))
  rw [hn, Int.emod_eq_of_lt h.1 h.2]
set_option maxHeartbeats 2000000 in
set_option maxRecDepth 100000 in
theorem inner_any (k : Int) (s : ByteArray) (hk : 1 ≤ k ∧ k ≤ 3) (hb : s.size ≤ 140737488355328) (w : World) :
    Calls Tryd.prog 65 #[.agg #[.int .i64 k, .string s]] w fun e w' => e = .returned (.string (oct.tx (b1 k) ++ s)) ∧ Below w.heap.size w w' := by
  obtain ⟨h1, h2⟩ := hk
  have kw : IntKind.u8.wrap k = k := by rw [show IntKind.u8.wrap k = k % 256 from rfl]; omega
  have hz : ¬ 9223372036854775807 < (oct.tx (b1 k)).size + s.size := by rw [oct.tx_size, b1_len]; omega
  have hcv := conv_k (w.alloc (.cells #[.int .i64 k, .string s] 39)) k (by omega)
  rw [show (w.alloc (.cells #[.int .i64 k, .string s] 39)).heap.size = w.heap.size + 1 by simp] at hcv
  go_enter Tryd.func65, Tryd.ntmps65
  go_wp2_with fail
  go_ret
  exact ⟨rfl, ((Below.refl _ _).alloc (Nat.le_refl _) _).alloc (by simp) _⟩
set_option maxHeartbeats 2000000 in
set_option maxRecDepth 100000 in
theorem num_any (n : Int) (h0 : 0 ≤ n) (h1 : n < 4294967296) (w : World) :
    Calls Tryd.prog 66 #[.int .i64 n] w fun e w' => e = .returned (.string (oct.tx (b4 n))) ∧ Below w.heap.size w w' := by
  have H := Lib.hid (num4_r n h0 h1 w)
  go_enter Tryd.func66, Tryd.ntmps66
  go_wp2_with (go_at_call 84; (with_reducible refine H.out.mono ?_); rintro e w1 ⟨rfl, hb1⟩)
  go_ret
  exact ⟨rfl, hb1⟩
theorem radd0 (s : ByteArray) (w : World) (hs : s.size ≤ 549755813888) : Calls Tryd.prog 67 #[.int .u32 0, .string s] w fun e w' => e = .returned (.int .u32 (U (crc.addC 0 s.data.toList))) ∧ w = w' := crc.radd_any 0 s w hs
theorem putR_good {r : Rc} (h : checkR r = 0) : putR r = (enR r, 0) := by unfold putR; rw [if_neg (by simpa using h)]
theorem putR_bad {r : Rc} {e : Int} (h : checkR r = e) (he : e ≠ 0) : putR r = ([], e) := by unfold putR; rw [h, if_pos he]
set_option maxHeartbeats 4000000 in
set_option maxRecDepth 100000 in
theorem put_ref (k : Int) (b : List UInt8) (hb : b.length ≤ 140737488355328) (w : World) :
    Calls Tryd.prog 43 #[recv ⟨k, b⟩] w fun e w' => e = .returned (.tuple #[.string (oct.tx (putR ⟨k, b⟩).1), .int .i64 (putR ⟨k, b⟩).2]) ∧ Below w.heap.size w w' := by
  have hz := oct.tx_size b
  have hl := oct.tx_list b
  unfold recv
  obtain ⟨t, ht⟩ : ∃ t, t = oct.tx b := ⟨_, rfl⟩
  simp only
  rw [← ht] at hz hl ⊢
  have t0 : (0 : Int) ≤ (t.size : Int) := Int.natCast_nonneg _
  by_cases h1 : k < 1
  · have HE := Lib.hid (putR_bad (r := ⟨k, b⟩) (e := 10) (by unfold checkR; rw [if_pos (.inl h1)]) (by decide))
    rw [HE.out]
    clear ht hz hl
    go_enter Tryd.func43, Tryd.ntmps43
    go_wp2_with fail
    go_ret2
    exact ⟨rfl, (Below.refl _ _).alloc (Nat.le_refl _) _⟩
  by_cases h3 : 3 < k
  · have HE := Lib.hid (putR_bad (r := ⟨k, b⟩) (e := 10) (by unfold checkR; rw [if_pos (.inr h3)]) (by decide))
    rw [HE.out]
    clear ht hz hl
    go_enter Tryd.func43, Tryd.ntmps43
    go_wp2_with fail
    go_ret2
    exact ⟨rfl, (Below.refl _ _).alloc (Nat.le_refl _) _⟩
  by_cases h2 : (1048576 : Int) < (t.size : Int)
  · have HE := Lib.hid (putR_bad (r := ⟨k, b⟩) (e := 3) (by unfold checkR; rw [if_neg (by show ¬ (k < 1 ∨ 3 < k); omega), if_pos (by show 1048576 < b.length; omega)]) (by decide))
    rw [HE.out]
    clear ht hz hl
    go_enter Tryd.func43, Tryd.ntmps43
    go_wp2_with fail
    go_ret2
    exact ⟨rfl, (Below.refl _ _).alloc (Nat.le_refl _) _⟩
  · have hk : 1 ≤ k ∧ k ≤ 3 := by omega
    have HE := Lib.hid (putR_good (r := ⟨k, b⟩) (by unfold checkR; rw [if_neg (by show ¬ (k < 1 ∨ 3 < k); omega), if_neg (by show ¬ 1048576 < b.length; omega)]))
    rw [HE.out]
    obtain ⟨q, hq⟩ : ∃ q, q = oct.tx (b1 k) ++ t := ⟨_, rfl⟩
    have hqs : q.size = t.size + 1 := by rw [hq, ByteArray.size_append, oct.tx_size, b1_len]; omega
    have hql : q.data.toList = inner ⟨k, b⟩ := by rw [hq, ByteArray.data_append, Array.toList_append, oct.tx_list, hl]; rfl
    have HI := Lib.hid fun u => inner_any k t hk (by omega) u
    rw [← hq] at HI
    have HA := Lib.hid fun u => radd0 q u (by omega)
    rw [hql] at HA
    obtain ⟨c, hc⟩ : ∃ c, c = crc.addC 0 (inner ⟨k, b⟩) := ⟨_, rfl⟩
    rw [← hc] at HA
    obtain ⟨z, hzc⟩ : ∃ z, z = U c := ⟨_, rfl⟩
    have hz0 : 0 ≤ z ∧ z < 4294967296 := by rw [hzc]; exact ⟨Int.natCast_nonneg _, by have := c.toNat_lt; show (c.toNat : Int) < _; omega⟩
    rw [← hzc] at HA
    obtain ⟨z0, z1⟩ := hz0
    have zw : IntKind.i64.wrap z = z := by rw [IntKind.wrap_i64]; omega
    have HN1 := Lib.hid fun u => num_any (t.size : Int) t0 (by omega) u
    have HN2 := Lib.hid fun u => num_any z z0 z1 u
    obtain ⟨p1, hp1⟩ : ∃ p, p = oct.tx (b4 (t.size : Int)) := ⟨_, rfl⟩
    obtain ⟨p2, hp2⟩ : ∃ p, p = oct.tx (b4 z) := ⟨_, rfl⟩
    have s1 : p1.size = 4 := by rw [hp1, oct.tx_size]; rfl
    have s2 : p2.size = 4 := by rw [hp2, oct.tx_size]; rfl
    rw [← hp1] at HN1
    rw [← hp2] at HN2
    have g1 : ¬ 9223372036854775807 < p1.size + q.size := by omega
    have g2 : ¬ 9223372036854775807 < p1.size + q.size + p2.size := by omega
    have g3 : ¬ 9223372036854775807 < (p1 ++ q).size + p2.size := by rw [ByteArray.size_append]; omega
    have HR : Hid (p1 ++ q ++ p2 = oct.tx (enR ⟨k, b⟩)) := Lib.hid (by
      apply oct.bytes_ext
      rw [ByteArray.data_append, ByteArray.data_append, Array.toList_append, Array.toList_append, hql, hp1, hp2, oct.tx_list, oct.tx_list, oct.tx_list, hzc, hc, hz]
      rfl)
    have BX := Lib.hid (Blk.new w 39 #[.int .i64 k, .string t])
    clear ht hz hl hq hqs hql hc hzc hp1 hp2 s1 s2 HE
    go_enter Tryd.func43, Tryd.ntmps43
    go_wp2_with (first
      | (go_at_call 65; (with_reducible refine (HI.out _).mono ?_); rintro e w1 ⟨rfl, hb1⟩; have d1 : w1.cell? ⟨w.heap.size, 1, none⟩ = some (.string t) := (by have := (BX.out.below hb1 (by simp)).cell 1; exact this))
      | (go_at_call 67; (with_reducible refine (HA.out _).mono ?_); rintro e w3 ⟨rfl, hb3⟩)
      | (go_at_call 66; (with_reducible refine (HN2.out _).mono ?_); rintro e w4 ⟨rfl, hb4⟩)
      | (go_at_call 66; (with_reducible refine (HN1.out _).mono ?_); rintro e w2 ⟨rfl, hb2⟩))
    go_ret2
    rw [HR.out]
    refine ⟨rfl, ?_⟩
    have h1 : Below w.heap.size w (w.alloc (.cells #[.int .i64 k, .string t] 39)) := (Below.refl _ _).alloc (Nat.le_refl _) _
    have k1 := h1.trans (hb1.mono h1.size)
    have k2 := k1.trans (hb2.mono k1.size)
    rw [← hb3] at hb4
    exact k2.trans (hb4.mono k2.size)
end Go.Proofs.YtkbbeioednhefaaDoor.rcd
