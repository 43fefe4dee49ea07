/-
  The landed record: Put.
  The landed record: what stands while All goes through the records.
-/
import Derived.Test.YtkbbeioednhefaaGreatDoorRln
import Derived.Deep.RegionHeld3
import Derived.Test.YtkbbeioednhefaaGreatDoorRlr
namespace Go.Proofs.YtkbbeioednhefaaGreatDoor.rcd
open Go.RowKit Go.Proofs.YtkbbeioednhefaaGreatDoor.mem Go.Proofs.YtkbbeioednhefaaGreatDoor.sha Go.Proofs.YtkbbeioednhefaaGreatDoor.opn

/-- what stands while a record is written: the Writer, behind all that was there -/
structure RwP (w1 : World) (g : Nat) (out : List UInt8) (w : World) : Prop where
  wr : oct.WrIs w (w1.heap.size ≤ ·) g out 0
  turn : Turn (w1.heap.size ≤ ·) w1 w
section
variable {g : Nat} {w1 : World} {out out2 : List UInt8} {w w2 : World}
theorem RwP.new (p : RwP w1 g out w) : New (w1.heap.size ≤ ·) w := fun j hj => Nat.le_trans p.turn.size hj
theorem RwP.next (p : RwP w1 g out w) (ht : Turn (w1.heap.size ≤ ·) w w2) (hw : oct.WrIs w2 (w1.heap.size ≤ ·) g out2 0) : RwP w1 g out2 w2 := ⟨hw, p.turn.trans ht⟩
theorem RwP.drew (p : RwP w1 g out w) : RwP w1 g out w.drew := p.next ((Turn.refl _ w).drewN 1) p.wr
theorem rw_num4 (p : RwP w1 g out w) (hl : out.length ≤ 1000000000) (n : Int) (h0 : 0 ≤ n) (h1 : n < 4294967296) :
    Calls Tryz.prog 47 #[.pointer (some ⟨g, 0, none⟩), .int .i64 n, .int .i64 4] w fun e w' => e = .returned (.pointer (some ⟨g, 0, none⟩)) ∧ RwP w1 g (out ++ b4 n) w' := by
  have := oct.num_any (w1.heap.size ≤ ·) g out 0 n 4 w p.wr p.new (by omega) (by omega)
  rw [wNum4 out n h0 h1] at this
  refine this.mono ?_
  rintro e w2 ⟨rfl, h2, ht⟩
  exact ⟨rfl, p.next ht h2⟩
theorem rw_num1 (p : RwP w1 g out w) (hl : out.length ≤ 1000000000) (n : Int) (h0 : 0 ≤ n) (h1 : n < 256) :
    Calls Tryz.prog 47 #[.pointer (some ⟨g, 0, none⟩), .int .i64 n, .int .i64 1] w fun e w' => e = .returned (.pointer (some ⟨g, 0, none⟩)) ∧ RwP w1 g (out ++ b1 n) w' := by
  have := oct.num_any (w1.heap.size ≤ ·) g out 0 n 1 w p.wr p.new (by omega) (by omega)
  rw [wNum1 out n h0 h1] at this
  refine this.mono ?_
  rintro e w2 ⟨rfl, h2, ht⟩
  exact ⟨rfl, p.next ht h2⟩
theorem rw_raw (p : RwP w1 g out w) (hl : out.length ≤ 1000000000) (s : ByteArray) (hs : s.size ≤ 1000000000) :
    Calls Tryz.prog 78 #[.pointer (some ⟨g, 0, none⟩), .string s] w fun e w' => e = .returned (.pointer (some ⟨g, 0, none⟩)) ∧ RwP w1 g (out ++ s.data.toList) w' := by
  have := oct.raw_any (w1.heap.size ≤ ·) g out 0 s w p.wr p.new (fun _ => by omega)
  rw [show oct.wRaw (out, 0) s = (out ++ s.data.toList, 0) by unfold oct.wRaw; rw [if_neg (fun h => h rfl)]] at this
  refine this.mono ?_
  rintro e w2 ⟨rfl, h2, ht⟩
  exact ⟨rfl, p.next ht h2⟩
theorem rw_done (p : RwP w1 g out w) : Calls Tryz.prog 48 #[.pointer (some ⟨g, 0, none⟩)] w fun e w' => e = .returned (.tuple #[.string (oct.tx out), .int .i64 0]) ∧ w = w' :=
  oct.done_good (w1.heap.size ≤ ·) g out w p.wr
theorem rw_new (w1 w : World) (hb : Turn (w1.heap.size ≤ ·) w1 w) : Calls Tryz.prog 46 #[] w fun e w' => e = .returned (.pointer (some ⟨w.heap.size, 0, none⟩)) ∧ RwP w1 w.heap.size [] w' := by
  refine (oct.new_any w).mono ?_
  rintro e w2 ⟨rfl, h2, hb2⟩
  exact ⟨rfl, WrIs.new h2 hb.size, hb.trans (Turn.fresh hb2 fun j hj => Nat.le_trans hb.size hj)⟩
end
set_option maxHeartbeats 4000000 in
set_option maxRecDepth 100000 in
theorem lput_any (k : Int) (b : List UInt8) (w : World) (hT : crc.Tab w) (hb : b.length ≤ 140737488355328) :
    Calls Tryz.prog 55 #[recv ⟨k, b⟩] w fun e w' => e = .returned (.tuple #[.string (oct.tx (putR ⟨k, b⟩).1), .int .i64 (putR ⟨k, b⟩).2]) ∧ Below w.heap.size w w' := by
  have hz := oct.tx_size b
  have hl := oct.tx_list b
  unfold recv
  obtain ⟨t, ht⟩ : ∃ t, t = oct.tx b := ⟨_, rfl⟩
  simp only
  rw [← ht] at hz hl ⊢
  have t0 : (0 : Int) ≤ (t.size : Int) := Int.natCast_nonneg _
  obtain ⟨w1, hw1⟩ : ∃ u, u = w.alloc (.cells #[.int .i64 k, .string t] 66) := ⟨_, rfl⟩
  have hX : Blk w1 w.heap.size 66 #[.int .i64 k, .string t] := by rw [hw1]; exact Blk.new w _ _
  have hB : Below w.heap.size w w1 := by rw [hw1]; exact (Below.refl _ _).alloc (Nat.le_refl _) _
  have HW1 := Lib.hid hw1
  have c0 : w1.cell? ⟨w.heap.size, 0, none⟩ = some (.int .i64 k) := hX.cell 0
  have c1 : w1.cell? ⟨w.heap.size, 1, none⟩ = some (.string t) := hX.cell 1
  clear hw1
  by_cases hk : k < 1 ∨ 3 < k
  · have HE := Lib.hid (putR_bad (r := ⟨k, b⟩) (e := 10) (by unfold checkR; rw [if_pos hk]) (by decide))
    have HK := Lib.hid fun u => iskind_no k hk u
    rw [HE.out]
    have HB := Lib.hid hB
    clear hz hl hk ht hB hX
    go_enter Tryz.func55, Tryz.ntmps55
    go_upto_region 1 with fail
    rw [← HW1.out]
    go_wp2_with (go_at_call 77; (with_reducible refine (HK.out _).mono ?_); rintro e w7 ⟨rfl, rfl⟩)
    go_ret2
    exact ⟨rfl, HB.out⟩
  have hk' : 1 ≤ k ∧ k ≤ 3 := by omega
  have HK := Lib.hid fun u => iskind_yes k hk' u
  by_cases h2 : (1048576 : Int) < (t.size : Int)
  · have HE := Lib.hid (putR_bad (r := ⟨k, b⟩) (e := 3) (by unfold checkR; rw [if_neg hk, if_pos (by show 1048576 < b.length; omega)]) (by decide))
    rw [HE.out]
    have HB := Lib.hid hB
    clear hz hl hk ht hB hX hk'
    go_enter Tryz.func55, Tryz.ntmps55
    go_upto_region 1 with fail
    rw [← HW1.out]
    go_wp2_with (go_at_call 77; (with_reducible refine (HK.out _).mono ?_); rintro e w7 ⟨rfl, rfl⟩)
    go_ret2
    exact ⟨rfl, HB.out⟩
  · have HE := Lib.hid (putR_good (r := ⟨k, b⟩) (by unfold checkR; rw [if_neg hk, if_neg (by show ¬ 1048576 < b.length; omega)]))
    rw [HE.out]
    have hK1 : ∀ u, Turn (w1.heap.size ≤ ·) w1 u → u.cell? ⟨w.heap.size, 0, none⟩ = some (.int .i64 k) ∧ u.cell? ⟨w.heap.size, 1, none⟩ = some (.string t) := fun u hu => by
      have := hX.turn hu (Nat.not_le.2 hX.lt)
      exact ⟨this.cell 0, this.cell 1⟩
    have hTT : ∀ u, Turn (w1.heap.size ≤ ·) w1 u → crc.Tab u := fun u hu => tab_turn (hT.next hB) hu (by have := hX.lt; omega)
    have HSM := Lib.hid fun u (hu : crc.Tab u) => sum_any k b hk' (by omega) u hu
    simp only [recv] at HSM
    rw [← ht] at HSM
    have hsr := sumI_lt ⟨k, b⟩
    have HF : Hid ([] ++ b4 (t.size : Int) ++ b1 k ++ t.data.toList ++ b4 (sumI ⟨k, b⟩) = enR ⟨k, b⟩) := Lib.hid (by
      rw [hl, hz]
      simp only [enR, inner, List.nil_append, List.append_assoc])
    have l1 : ([] ++ b4 (t.size : Int)).length ≤ 1000000000 := by rw [List.nil_append, b4_len]; omega
    have l2 : ([] ++ b4 (t.size : Int) ++ b1 k).length ≤ 1000000000 := by rw [List.nil_append, List.length_append, b4_len, b1_len]; omega
    have l3 : ([] ++ b4 (t.size : Int) ++ b1 k ++ t.data.toList).length ≤ 1000000000 := by rw [List.nil_append, List.length_append, List.length_append, b4_len, b1_len, hl]; omega
    obtain ⟨z, hz2⟩ : ∃ z, z = sumI ⟨k, b⟩ := ⟨_, rfl⟩
    rw [← hz2] at HSM hsr HF
    obtain ⟨z0, z1⟩ := hsr
    obtain ⟨o1, ho1⟩ : ∃ o, o = [] ++ b4 (t.size : Int) := ⟨_, rfl⟩
    rw [← ho1] at HF l1 l2 l3
    obtain ⟨o2, ho2⟩ : ∃ o, o = o1 ++ b1 k := ⟨_, rfl⟩
    rw [← ho2] at HF l2 l3
    obtain ⟨o3, ho3⟩ : ∃ o, o = o2 ++ t.data.toList := ⟨_, rfl⟩
    rw [← ho3] at HF l3
    obtain ⟨o4, ho4⟩ : ∃ o, o = o3 ++ b4 z := ⟨_, rfl⟩
    rw [← ho4] at HF
    have H1 := Lib.hid ho1
    have H2 := Lib.hid ho2
    have H3 := Lib.hid ho3
    have H4 := Lib.hid ho4
    have HB := Lib.hid hB
    have L1 := Lib.hid l1
    have L2 := Lib.hid l2
    have L3 := Lib.hid l3
    have D1 : Hid (Turn (w1.heap.size ≤ ·) w1 w1.drew) := Lib.hid ((Turn.refl _ w1).drewN 1)
    clear hz hl hk ht hB hX hz2 ho1 ho2 ho3 ho4 l1 l2 l3 HE hT hb
    go_enter Tryz.func55, Tryz.ntmps55
    go_upto_region 1 with fail
    rw [← HW1.out]
    go_upto_region 5 with (go_at_call 77; (with_reducible refine (HK.out _).mono ?_); rintro e w7 ⟨rfl, rfl⟩)
    go_region_held3 (fun w' => w'.cell? ⟨w.heap.size, 0, none⟩ = some (.int .i64 k) ∧ w'.cell? ⟨w.heap.size, 1, none⟩ = some (.string t))
      (first | exact ⟨c0, c1⟩ | exact hK1 _ (by assumption))
      (first
        | (go_at_call 46; (with_reducible refine (rw_new w1 _ D1.out).mono ?_); rintro e w3 ⟨rfl, p3⟩; have P3 : Hid (RwP w1 w1.heap.size [] w3) := Lib.hid p3; have t3 := p3.turn; clear p3)
        | (go_at_call 48; (with_reducible refine (rw_done P8.out).mono ?_); rintro e w9 ⟨rfl, rfl⟩)
        | (go_at_call 47; (with_reducible refine (rw_num4 P7.out L3.out z z0 z1).mono ?_); rintro e w8 ⟨rfl, p8⟩; have P8 := Lib.hid p8; have t8 := p8.turn; clear p8)
        | (go_at_call 79; (with_reducible refine (HSM.out _ (hTT _ P6.out.turn)).mono ?_); rintro e w7 ⟨rfl, hb7⟩; have p7 := P6.out.next (Turn.fresh hb7 P6.out.new) (P6.out.wr.fresh hb7); have P7 := Lib.hid p7; have t7 := p7.turn; clear p7)
        | (go_at_call 78; (with_reducible refine (rw_raw P5.out L2.out t (by omega)).mono ?_); rintro e w6 ⟨rfl, p6⟩; rw [← H3.out] at p6; have P6 := Lib.hid p6; have t6 := p6.turn; clear p6)
        | (go_at_call 47; (with_reducible refine (rw_num1 P4.out L1.out k (by omega) (by omega)).mono ?_); rintro e w5 ⟨rfl, p5⟩; rw [← H2.out] at p5; have P5 := Lib.hid p5; have t5 := p5.turn; clear p5)
        | (go_at_call 47; (with_reducible refine (rw_num4 P3.out (by decide) (t.size : Int) t0 (by omega)).mono ?_); rintro e w4 ⟨rfl, p4⟩; rw [← H1.out] at p4; have P4 := Lib.hid p4; have t4 := p4.turn; clear p4))
    go_wp2_with fail
    go_ret2
    rw [← H4.out, HF.out]
    exact ⟨rfl, HB.out.trans (P8.out.turn.below fun j hj => Nat.le_trans HB.out.size hj)⟩
end Go.Proofs.YtkbbeioednhefaaGreatDoor.rcd

namespace Go.Proofs.YtkbbeioednhefaaGreatDoor.rcd
open Go.RowKit Go.Shelf Go.Proofs.YtkbbeioednhefaaGreatDoor.mem Go.Proofs.YtkbbeioednhefaaGreatDoor.sha Go.Proofs.YtkbbeioednhefaaGreatDoor.opn Go.Proofs.YtkbbeioednhefaaGreatDoor.rows Go.Proofs.YtkbbeioednhefaaGreatDoor.ids
attribute [local go_sem] Oper.semAt_some

theorem recs_stops (n BS : Nat) (s : ByteArray) (hs : s.size ≤ 1000000) (w : World) (hBS : w.cell? ⟨BS, 0, none⟩ = some (.string s)) (hBl : BS < w.heap.size) (hT : crc.Tab w) :
    SeqStopsK Fence.wide (n + 1) Tryz.prog 101 #[.pointer (some ⟨BS, 0, none⟩)] encR (KpR BS) (fun ys => ys.map (·.1) = items s.data.toList) (fun pre => pre.map (·.1) <+: items s.data.toList) s.size w := fun l J Jx W hW hJ _ hY h0 =>
  recs1_in n l BS s hs J Jx hY (fun s W W' hs hb => hJ s W W' none hs ⟨hb.os, hb.tape, hb.output, hb.size, fun k hk _ => hb.block k hk⟩ (fun r e => by cases e)) W ((hW.cell (p := ⟨BS, 0, none⟩) hBl).trans hBS) (Nat.lt_of_lt_of_le hBl hW.size) (hT.next hW) h0
theorem allT_at : ∀ (n : Nat) (t : List UInt8), t.length ≤ n → (allT t).2.1 = ((allT t).1.map fun r => r.body.length + 9).sum
  | n, t, hn => by
    by_cases h0 : t = []
    · subst h0; rfl
    by_cases he : (firstR t).2.2 = 0
    · have hl := List.length_pos_iff.2 h0
      have hs := first_size he
      match n, hn with
      | 0, hn => omega
      | n + 1, hn =>
        rw [allT_next h0 he]
        simp only [List.map_cons, List.sum_cons]
        rw [allT_at n (t.drop (firstR t).2.1.toNat) (by rw [List.length_drop]; omega), (first_len he).1]
        omega
    · rw [allT_none h0 he]; rfl
/-- how many bytes the records have that have come -/
def sumS (pre : List RE) : Nat := (pre.map fun x => x.1.1.body.length + 9).sum
theorem sumS_snoc (pre : List RE) (x : RE) : sumS (pre ++ [x]) = sumS pre + (x.1.1.body.length + 9) := by
  unfold sumS; rw [List.map_append, List.sum_append]; simp
theorem sumS_le : ∀ pre : List RE, sumS pre ≤ pre.length * 1048585
  | [] => Nat.zero_le _
  | x :: pre => by
    have := sumS_le pre
    have h := x.2
    unfold sumS at this ⊢
    rw [List.map_cons, List.sum_cons, List.length_cons]
    omega
theorem OwnR.push {w : World} {F : Nat → Prop} {v : Value} {L : List Rc} (hO : OwnR w F v L) (r : Rc) (hL : L.length < 1000000) :
    ∃ v' w', (Builtin.append_ #[27, 27] 27 #[v, .slice (some ⟨w.heap.size, 0, none⟩) 1 1]).run Tryz.prog (w.alloc (.cells #[.int .i64 r.k, .string (oct.tx r.body)] 66)) = .ok v' w' ∧
      OwnR w' (fun j => v.ownBlock = some j ∨ w.heap.size ≤ j) v' (L ++ [r]) ∧ Turn (fun j => v.ownBlock = some j ∨ w.heap.size ≤ j) w w' := by
  obtain ⟨i0, hi, hz0, hz1, hz2⟩ := info_parts info_rc3
  have h1 : Below w.heap.size w (w.alloc (.cells #[.int .i64 r.k, .string (oct.tx r.body)] 66)) := (Below.refl _ _).alloc (Nat.le_refl _) _
  have hb : Blk (w.alloc (.cells #[.int .i64 r.k, .string (oct.tx r.body)] 66)) w.heap.size 66 #[.int .i64 r.k, .string (oct.tx r.body)] := Blk.new w _ _
  obtain ⟨v', w', hrun, hO', hT⟩ := run_append_k (c := 2) (by_ := 24) Tryz.underlying27 hi hz0 hz1 hz2 rfl (by decide) (OwnK.next hO h1) (rcc_uni r) (g := w.heap.size) (cap := 1) (fun j u hu => by
    rw [hb.cell, ← hu]
    match j with
    | 0 => rfl
    | 1 => rfl
    | j + 2 => rfl) (by rw [List.length_map]; omega) (by decide) 27
  have hle := h1.size
  refine ⟨v', w', hrun, ?_, ((Turn.ofBelow h1).mono fun j hj => .inr hj).trans (hT.mono fun j hj => hj.imp id fun h => by omega)⟩
  have := hO'.place (G := fun j => v.ownBlock = some j ∨ w.heap.size ≤ j) fun j hj => (hO'.2.2 j hj).imp id fun h => by omega
  unfold OwnR
  rw [List.map_append]
  exact this
/-- between two records: the results' boxes, the list so far, the place -/
structure AllJ (n0 : Nat) (w0 : World) (pre : List RE) (vo : Value) (W : World) : Prop where
  r2 : Blk W n0 27 #[.slice none 0 0]
  r3 : Blk W (n0 + 1) 3 #[.int .i64 0]
  r4 : Blk W (n0 + 1 + 1) 37 #[.int .i64 0]
  lb : Blk W (n0 + 1 + 1 + 1) 27 #[vo]
  ab : Blk W (n0 + 1 + 1 + 1 + 1) 3 #[.int .i64 (sumS pre : Nat)]
  own : OwnR W (n0 + 6 ≤ ·) vo (pre.map (·.1.1))
  zs : ∀ x ∈ pre, x.1.2 = 0
  below : Below n0 w0 W
  siz : n0 + 6 ≤ W.heap.size
def AllIv (n0 : Nat) (w0 : World) (pre : List RE) (W : World) : Prop := ∃ vo, AllJ n0 w0 pre vo W
/-- the first that is none has come: its error, and what came ahead of it, is told -/
structure AllX (n0 : Nat) (w0 : World) (ps : List RE) (x : RE) (vo : Value) (W : World) : Prop where
  r2 : Blk W n0 27 #[vo]
  r3 : Blk W (n0 + 1) 3 #[.int .i64 (sumS ps : Nat)]
  r4 : Blk W (n0 + 1 + 1) 37 #[.int .i64 x.1.2]
  own : OwnR W (n0 + 6 ≤ ·) vo (ps.map (·.1.1))
  zs : ∀ x ∈ ps, x.1.2 = 0
  xs : x.1.2 ≠ 0
  below : Below n0 w0 W
def AllXv (n0 : Nat) (w0 : World) (c : Code) (pre : List RE) (W : World) : Prop := c = .ret ∧ ∃ ps x vo, pre = ps ++ [x] ∧ AllX n0 w0 ps x vo W
theorem OwnR.own_cells {w : World} {F : Nat → Prop} {v : Value} {L : List Rc} (h : OwnR w F v L) {j : Nat} (hj : v.ownBlock = some j) : ∃ cs, w.heap[j]? = some (.cells cs 66 (0, 0)) := by
  rcases h.2.1.2 with ⟨rfl, _⟩ | ⟨g, cap, cur, rfl, _, hh, _⟩
  · simp [Value.ownBlock] at hj
  · obtain rfl : g = j := by simpa [Value.ownBlock] using hj
    exact ⟨cur, hh⟩
section
variable {B : Nat} {W W' : World} {row : Option Nat}
theorem own_turn (hg : W.grownBy W' row) (hr : ∀ r, row = some r → B ≤ r ∧ ∃ o : Obj, W.heap[r]? = some o ∧ o.isCells = false) :
    Turn (fun j => row = some j ∨ W.heap.size ≤ j) W W' ∧ ∀ j cs t z, W.heap[j]? = some (.cells cs t z) → ¬ (row = some j ∨ W.heap.size ≤ j) := by
  refine ⟨Turn.grown hg (fun k hk => .inl hk) (fun k hk => .inr hk), fun j cs t z hj hh => ?_⟩
  rcases hh with hh | hh
  · obtain ⟨_, o, ho, hc⟩ := hr j hh
    rw [hj] at ho
    cases ho
    cases hc
  · rw [Array.getElem?_eq_none hh] at hj
    cases hj
end
theorem allIv_own {n0 B : Nat} {w0 : World} (hn : n0 = w0.heap.size) (hB : n0 ≤ B) : OwnFrom B (AllIv n0 w0) := by
  rintro s W W' row ⟨vo, h⟩ hg hr
  obtain ⟨ht, hn⟩ := own_turn hg hr
  exact ⟨vo, h.r2.turn ht (hn _ _ _ _ h.r2), h.r3.turn ht (hn _ _ _ _ h.r3), h.r4.turn ht (hn _ _ _ _ h.r4), h.lb.turn ht (hn _ _ _ _ h.lb), h.ab.turn ht (hn _ _ _ _ h.ab), OwnK.turn h.own ht (fun j hj => by obtain ⟨cs, hcs⟩ := OwnR.own_cells h.own hj; exact hn _ _ _ _ hcs), h.zs, h.below.trans (ht.below fun j hj => by
    rcases hj with hj | hj
    · exact Nat.le_trans hB (hr j hj).1
    · have := h.siz; omega), Nat.le_trans h.siz hg.size⟩
theorem allXv_own {n0 B : Nat} {w0 : World} (hn : n0 = w0.heap.size) (hB : n0 ≤ B) (c : Code) : OwnFrom B (AllXv n0 w0 c) := by
  rintro s W W' row ⟨hc, ps, x, vo, hp, h⟩ hg hr
  obtain ⟨ht, hn2⟩ := own_turn hg hr
  refine ⟨hc, ps, x, vo, hp, h.r2.turn ht (hn2 _ _ _ _ h.r2), h.r3.turn ht (hn2 _ _ _ _ h.r3), h.r4.turn ht (hn2 _ _ _ _ h.r4), OwnK.turn h.own ht (fun j hj => by obtain ⟨cs, hcs⟩ := OwnR.own_cells h.own hj; exact hn2 _ _ _ _ hcs), h.zs, h.xs, h.below.trans (ht.below fun j hj => ?_)⟩
  rcases hj with hj | hj
  · exact Nat.le_trans hB (hr j hj).1
  · have := h.below.size; omega
/-- what turns no object that is no cells -/
theorem keepsFrom_cells {B : Nat} {W W' : World} {F : Nat → Prop} (ht : Turn F W W') (hF : ∀ j, F j → W.heap.size ≤ j ∨ ∃ cs t z, W.heap[j]? = some (.cells cs t z)) : KeepsFrom B W W' :=
  keepsFrom_turn ht fun k o ho hc hk => by
    rcases hF k hk with h | ⟨cs, t, z, h⟩
    · rw [Array.getElem?_eq_none h] at ho; cases ho
    · rw [ho] at h; cases h; cases hc
end Go.Proofs.YtkbbeioednhefaaGreatDoor.rcd
