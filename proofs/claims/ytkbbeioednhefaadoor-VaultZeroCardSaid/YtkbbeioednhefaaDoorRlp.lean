/-
  The landed record: Put.
-/
import Derived.Test.YtkbbeioednhefaaDoorRll
import Derived.Deep.RegionHeld3
namespace Go.Proofs.YtkbbeioednhefaaDoor.rcd
open Go.RowKit Go.Proofs.YtkbbeioednhefaaDoor.mem Go.Proofs.YtkbbeioednhefaaDoor.sha Go.Proofs.YtkbbeioednhefaaDoor.opn

/-- what stands while a record is written: the Writer, behind all that was there -/
structure RwP (w1 : World) (g : Nat) (out : List UInt8) (w : World) : Prop where
  wr : oct.WrIs w (w1.heap.size ≤ ·) g out 0
  turn : Turn (w1.heap.size ≤ ·) w1 w
section
variable {g : Nat} {w1 : World} {out out2 : List UInt8} {w w2 : World}
theorem RwP.new (p : RwP w1 g out w) : New (w1.heap.size ≤ ·) w := fun j hj => Nat.le_trans p.turn.size hj
theorem RwP.next (p : RwP w1 g out w) (ht : Turn (w1.heap.size ≤ ·) w w2) (hw : oct.WrIs w2 (w1.heap.size ≤ ·) g out2 0) : RwP w1 g out2 w2 := ⟨hw, p.turn.trans ht⟩
theorem RwP.drew (p : RwP w1 g out w) : RwP w1 g out w.drew := p.next ((Turn.refl _ w).drewN 1) p.wr
theorem rw_num4 (p : RwP w1 g out w) (hl : out.length ≤ 1000000000) (n : Int) (h0 : 0 ≤ n) (h1 : n < 4294967296) :
    Calls Tryd.prog 61 #[.pointer (some ⟨g, 0, none⟩), .int .i64 n, .int .i64 4] w fun e w' => e = .returned (.pointer (some ⟨g, 0, none⟩)) ∧ RwP w1 g (out ++ b4 n) w' := by
  have := oct.num_any (w1.heap.size ≤ ·) g out 0 n 4 w p.wr p.new (by omega) (by omega)
  rw [wNum4 out n h0 h1] at this
  refine this.mono ?_
  rintro e w2 ⟨rfl, h2, ht⟩
  exact ⟨rfl, p.next ht h2⟩
theorem rw_num1 (p : RwP w1 g out w) (hl : out.length ≤ 1000000000) (n : Int) (h0 : 0 ≤ n) (h1 : n < 256) :
    Calls Tryd.prog 61 #[.pointer (some ⟨g, 0, none⟩), .int .i64 n, .int .i64 1] w fun e w' => e = .returned (.pointer (some ⟨g, 0, none⟩)) ∧ RwP w1 g (out ++ b1 n) w' := by
  have := oct.num_any (w1.heap.size ≤ ·) g out 0 n 1 w p.wr p.new (by omega) (by omega)
  rw [wNum1 out n h0 h1] at this
  refine this.mono ?_
  rintro e w2 ⟨rfl, h2, ht⟩
  exact ⟨rfl, p.next ht h2⟩
theorem rw_raw (p : RwP w1 g out w) (hl : out.length ≤ 1000000000) (s : ByteArray) (hs : s.size ≤ 1000000000) :
    Calls Tryd.prog 62 #[.pointer (some ⟨g, 0, none⟩), .string s] w fun e w' => e = .returned (.pointer (some ⟨g, 0, none⟩)) ∧ RwP w1 g (out ++ s.data.toList) w' := by
  have := oct.raw_any (w1.heap.size ≤ ·) g out 0 s w p.wr p.new (fun _ => by omega)
  rw [show oct.wRaw (out, 0) s = (out ++ s.data.toList, 0) by unfold oct.wRaw; rw [if_neg (fun h => h rfl)]] at this
  refine this.mono ?_
  rintro e w2 ⟨rfl, h2, ht⟩
  exact ⟨rfl, p.next ht h2⟩
theorem rw_done (p : RwP w1 g out w) : Calls Tryd.prog 64 #[.pointer (some ⟨g, 0, none⟩)] w fun e w' => e = .returned (.tuple #[.string (oct.tx out), .int .i64 0]) ∧ w = w' :=
  oct.done_good (w1.heap.size ≤ ·) g out w p.wr
theorem rw_new (w1 w : World) (hb : Turn (w1.heap.size ≤ ·) w1 w) : Calls Tryd.prog 60 #[] w fun e w' => e = .returned (.pointer (some ⟨w.heap.size, 0, none⟩)) ∧ RwP w1 w.heap.size [] w' := by
  refine (oct.new_any w).mono ?_
  rintro e w2 ⟨rfl, h2, hb2⟩
  exact ⟨rfl, WrIs.new h2 hb.size, hb.trans (Turn.fresh hb2 fun j hj => Nat.le_trans hb.size hj)⟩
end
set_option maxHeartbeats 4000000 in
set_option maxRecDepth 100000 in
theorem lput_any (k : Int) (b : List UInt8) (w : World) (hT : crc.Tab w) (hb : b.length ≤ 140737488355328) :
    Calls Tryd.prog 42 #[recv ⟨k, b⟩] w fun e w' => e = .returned (.tuple #[.string (oct.tx (putR ⟨k, b⟩).1), .int .i64 (putR ⟨k, b⟩).2]) ∧ Below w.heap.size w w' := by
  have hz := oct.tx_size b
  have hl := oct.tx_list b
  unfold recv
  obtain ⟨t, ht⟩ : ∃ t, t = oct.tx b := ⟨_, rfl⟩
  simp only
  rw [← ht] at hz hl ⊢
  have t0 : (0 : Int) ≤ (t.size : Int) := Int.natCast_nonneg _
  obtain ⟨w1, hw1⟩ : ∃ u, u = w.alloc (.cells #[.int .i64 k, .string t] 39) := ⟨_, rfl⟩
  have hX : Blk w1 w.heap.size 39 #[.int .i64 k, .string t] := by rw [hw1]; exact Blk.new w _ _
  have hB : Below w.heap.size w w1 := by rw [hw1]; exact (Below.refl _ _).alloc (Nat.le_refl _) _
  have HW1 := Lib.hid hw1
  have c0 : w1.cell? ⟨w.heap.size, 0, none⟩ = some (.int .i64 k) := hX.cell 0
  have c1 : w1.cell? ⟨w.heap.size, 1, none⟩ = some (.string t) := hX.cell 1
  clear hw1
  by_cases hk : k < 1 ∨ 3 < k
  · have HE := Lib.hid (putR_bad (r := ⟨k, b⟩) (e := 10) (by unfold checkR; rw [if_pos hk]) (by decide))
    have HK := Lib.hid fun u => iskind_no k hk u
    rw [HE.out]
    have HB := Lib.hid hB
    clear hz hl hk ht hB hX
    go_enter Tryd.func42, Tryd.ntmps42
    go_upto_region 1 with fail
    rw [← HW1.out]
    go_wp2_with (go_at_call 59; (with_reducible refine (HK.out _).mono ?_); rintro e w7 ⟨rfl, rfl⟩)
    go_ret2
    exact ⟨rfl, HB.out⟩
  have hk' : 1 ≤ k ∧ k ≤ 3 := by omega
  have HK := Lib.hid fun u => iskind_yes k hk' u
  by_cases h2 : (1048576 : Int) < (t.size : Int)
  · have HE := Lib.hid (putR_bad (r := ⟨k, b⟩) (e := 3) (by unfold checkR; rw [if_neg hk, if_pos (by show 1048576 < b.length; omega)]) (by decide))
    rw [HE.out]
    have HB := Lib.hid hB
    clear hz hl hk ht hB hX hk'
    go_enter Tryd.func42, Tryd.ntmps42
    go_upto_region 1 with fail
    rw [← HW1.out]
    go_wp2_with (go_at_call 59; (with_reducible refine (HK.out _).mono ?_); rintro e w7 ⟨rfl, rfl⟩)
    go_ret2
    exact ⟨rfl, HB.out⟩
  · have HE := Lib.hid (putR_good (r := ⟨k, b⟩) (by unfold checkR; rw [if_neg hk, if_neg (by show ¬ 1048576 < b.length; omega)]))
    rw [HE.out]
    have hK1 : ∀ u, Turn (w1.heap.size ≤ ·) w1 u → u.cell? ⟨w.heap.size, 0, none⟩ = some (.int .i64 k) ∧ u.cell? ⟨w.heap.size, 1, none⟩ = some (.string t) := fun u hu => by
      have := hX.turn hu (Nat.not_le.2 hX.lt)
      exact ⟨this.cell 0, this.cell 1⟩
    have hTT : ∀ u, Turn (w1.heap.size ≤ ·) w1 u → crc.Tab u := fun u hu => tab_turn (hT.next hB) hu (by have := hX.lt; omega)
    have HSM := Lib.hid fun u (hu : crc.Tab u) => sum_any k b hk' (by omega) u hu
    simp only [recv] at HSM
    rw [← ht] at HSM
    have hsr := sumI_lt ⟨k, b⟩
    have HF : Hid ([] ++ b4 (t.size : Int) ++ b1 k ++ t.data.toList ++ b4 (sumI ⟨k, b⟩) = enR ⟨k, b⟩) := Lib.hid (by
      rw [hl, hz]
      simp only [enR, inner, List.nil_append, List.append_assoc])
    have l1 : ([] ++ b4 (t.size : Int)).length ≤ 1000000000 := by rw [List.nil_append, b4_len]; omega
    have l2 : ([] ++ b4 (t.size : Int) ++ b1 k).length ≤ 1000000000 := by rw [List.nil_append, List.length_append, b4_len, b1_len]; omega
    have l3 : ([] ++ b4 (t.size : Int) ++ b1 k ++ t.data.toList).length ≤ 1000000000 := by rw [List.nil_append, List.length_append, List.length_append, b4_len, b1_len, hl]; omega
    obtain ⟨z, hz2⟩ : ∃ z, z = sumI ⟨k, b⟩ := ⟨_, rfl⟩
    rw [← hz2] at HSM hsr HF
    obtain ⟨z0, z1⟩ := hsr
    obtain ⟨o1, ho1⟩ : ∃ o, o = [] ++ b4 (t.size : Int) := ⟨_, rfl⟩
    rw [← ho1] at HF l1 l2 l3
    obtain ⟨o2, ho2⟩ : ∃ o, o = o1 ++ b1 k := ⟨_, rfl⟩
    rw [← ho2] at HF l2 l3
    obtain ⟨o3, ho3⟩ : ∃ o, o = o2 ++ t.data.toList := ⟨_, rfl⟩
    rw [← ho3] at HF l3
    obtain ⟨o4, ho4⟩ : ∃ o, o = o3 ++ b4 z := ⟨_, rfl⟩
    rw [← ho4] at HF
    have H1 := Lib.hid ho1
    have H2 := Lib.hid ho2
    have H3 := Lib.hid ho3
    have H4 := Lib.hid ho4
    have HB := Lib.hid hB
    have L1 := Lib.hid l1
    have L2 := Lib.hid l2
    have L3 := Lib.hid l3
    have D1 : Hid (Turn (w1.heap.size ≤ ·) w1 w1.drew) := Lib.hid ((Turn.refl _ w1).drewN 1)
    clear hz hl hk ht hB hX hz2 ho1 ho2 ho3 ho4 l1 l2 l3 HE hT hb
    go_enter Tryd.func42, Tryd.ntmps42
    go_upto_region 1 with fail
    rw [← HW1.out]
    go_upto_region 5 with (go_at_call 59; (with_reducible refine (HK.out _).mono ?_); rintro e w7 ⟨rfl, rfl⟩)
    go_region_held3 (fun w' => w'.cell? ⟨w.heap.size, 0, none⟩ = some (.int .i64 k) ∧ w'.cell? ⟨w.heap.size, 1, none⟩ = some (.string t))
      (first | exact ⟨c0, c1⟩ | exact hK1 _ (by assumption))
      (first
        | (go_at_call 60; (with_reducible refine (rw_new w1 _ D1.out).mono ?_); rintro e w3 ⟨rfl, p3⟩; have P3 : Hid (RwP w1 w1.heap.size [] w3) := Lib.hid p3; have t3 := p3.turn; clear p3)
        | (go_at_call 64; (with_reducible refine (rw_done P8.out).mono ?_); rintro e w9 ⟨rfl, rfl⟩)
        | (go_at_call 61; (with_reducible refine (rw_num4 P7.out L3.out z z0 z1).mono ?_); rintro e w8 ⟨rfl, p8⟩; have P8 := Lib.hid p8; have t8 := p8.turn; clear p8)
        | (go_at_call 63; (with_reducible refine (HSM.out _ (hTT _ P6.out.turn)).mono ?_); rintro e w7 ⟨rfl, hb7⟩; have p7 := P6.out.next (Turn.fresh hb7 P6.out.new) (P6.out.wr.fresh hb7); have P7 := Lib.hid p7; have t7 := p7.turn; clear p7)
        | (go_at_call 62; (with_reducible refine (rw_raw P5.out L2.out t (by omega)).mono ?_); rintro e w6 ⟨rfl, p6⟩; rw [← H3.out] at p6; have P6 := Lib.hid p6; have t6 := p6.turn; clear p6)
        | (go_at_call 61; (with_reducible refine (rw_num1 P4.out L1.out k (by omega) (by omega)).mono ?_); rintro e w5 ⟨rfl, p5⟩; rw [← H2.out] at p5; have P5 := Lib.hid p5; have t5 := p5.turn; clear p5)
        | (go_at_call 61; (with_reducible refine (rw_num4 P3.out (by decide) (t.size : Int) t0 (by omega)).mono ?_); rintro e w4 ⟨rfl, p4⟩; rw [← H1.out] at p4; have P4 := Lib.hid p4; have t4 := p4.turn; clear p4))
    go_wp2_with fail
    go_ret2
    rw [← H4.out, HF.out]
    exact ⟨rfl, HB.out.trans (P8.out.turn.below fun j hj => Nat.le_trans HB.out.size hj)⟩
end Go.Proofs.YtkbbeioednhefaaDoor.rcd
