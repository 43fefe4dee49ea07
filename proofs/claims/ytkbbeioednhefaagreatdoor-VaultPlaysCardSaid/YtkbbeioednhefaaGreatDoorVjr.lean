/-
  petrelref12.Sync, Crash, on a Journal that lies somewhere in a block.
-/
import Derived.Test.YtkbbeioednhefaaGreatDoorJnr
namespace Go.Proofs.YtkbbeioednhefaaGreatDoor.jn
open Go.RowKit Go.Proofs.YtkbbeioednhefaaGreatDoor.mem Go.Proofs.YtkbbeioednhefaaGreatDoor.sha Go.Proofs.YtkbbeioednhefaaGreatDoor.opn Go.Proofs.YtkbbeioednhefaaGreatDoor.rows Go.Proofs.YtkbbeioednhefaaGreatDoor.ids Go.Proofs.YtkbbeioednhefaaGreatDoor.rcd

/-- the four cells of a Journal lie from place o on in the block that C tells -/
structure Slot (o : Nat) (C : Value → Value → Value → Value → Array Value) : Prop where
  g0 : ∀ a b c d, (C a b c d)[o]? = some a
  g1 : ∀ a b c d, (C a b c d)[o + 1]? = some b
  g2 : ∀ a b c d, (C a b c d)[o + 2]? = some c
  g3 : ∀ a b c d, (C a b c d)[o + 3]? = some d
  s0 : ∀ a b c d x, (C a b c d).setIfInBounds o x = C x b c d
  s1 : ∀ a b c d x, (C a b c d).setIfInBounds (o + 1) x = C a x c d
  s2 : ∀ a b c d x, (C a b c d).setIfInBounds (o + 2) x = C a b x d
  s3 : ∀ a b c d x, (C a b c d).setIfInBounds (o + 3) x = C a b c x
def JO (w : World) (X : Nat) (TT : TypeId) (C : Value → Value → Value → Value → Array Value) (j : Jr) (v : Value) : Prop := Blk w X TT (C (.string (oct.tx j.s)) (.int .i64 (j.k : Int)) v (.int .i64 (j.m : Int)))
set_option maxHeartbeats 2000000 in
set_option maxRecDepth 100000 in
theorem sync_o {TT : TypeId} {o : Nat} {C : Value → Value → Value → Value → Array Value} (hC : Slot o C) (X : Nat) (j : Jr) (v : Value) (w : World) (h : JO w X TT C j v) (hv : RcV w v j.l) (hl : j.l.length ≤ 1000000) (hs : j.s.length ≤ 1000000000) (hm : j.m ≤ j.l.length) :
    Calls Tryz.prog 27 #[.pointer (some ⟨X, o, none⟩)] w fun e w' => e = .returned (.int .i64 (syncJ j).2) ∧ JO w' X TT C (syncJ j).1 v ∧ Turn (· = X) w w' := by
  obtain ⟨ad, cap, rfl, -⟩ := hv
  obtain ⟨s, k, l, m⟩ := j
  simp only at h hl hs hm
  have H := Lib.hid h
  have hz := oct.tx_size s
  unfold syncJ
  simp only
  obtain ⟨t, ht⟩ : ∃ t, t = oct.tx s := ⟨_, rfl⟩
  rw [← ht] at hz
  have c0 : w.cell? ⟨X, o, none⟩ = some (.string t) := by rw [ht]; exact (Blk.cell h (o)).trans (hC.g0 _ _ _ _)
  have c1 : w.cell? ⟨X, o + 1, none⟩ = some (.int .i64 (k : Int)) := (Blk.cell h (o + 1)).trans (hC.g1 _ _ _ _)
  have c2 : w.cell? ⟨X, o + 2, none⟩ = some (.slice ad l.length cap) := (Blk.cell h (o + 2)).trans (hC.g2 _ _ _ _)
  have c3 : w.cell? ⟨X, o + 3, none⟩ = some (.int .i64 (m : Int)) := (Blk.cell h (o + 3)).trans (hC.g3 _ _ _ _)
  have f1 := Blk.frozen h (o + 1)
  have f3 := Blk.frozen h (o + 3)
  obtain ⟨n, hn⟩ : ∃ n, n = l.length := ⟨_, rfl⟩
  rw [← hn] at c2 hl hm
  have n0 : (0 : Int) ≤ (n : Int) := Int.natCast_nonneg _
  have m0 : (0 : Int) ≤ (m : Int) := Int.natCast_nonneg _
  have m1 : (m : Int) ≤ (n : Int) := by omega
  have n1 : (n : Int) ≤ 1000000 := by omega
  have wm : IntKind.i64.wrap ((n : Int) - (m : Int)) = (n : Int) - (m : Int) := by rw [IntKind.wrap_i64]; omega
  have HN := Lib.hid hn
  have HZ := Lib.hid hz
  have HT := Lib.hid ht
  clear h hn hz ht
  go_enter Tryz.func27, Tryz.ntmps27
  go_upto_region 1 with fail
  go_quiet (fail)
  go_wp2_with fail
  go_ret
  rw [← HN.out]
  refine ⟨rfl, ?_, ?_⟩
  · have hD : JO (w.drewN nq) X TT C ⟨s, k, l, m⟩ (.slice ad l.length cap) := H.out
    have := (Blk.set_ hD (o + 1) (.int .i64 (t.size : Int))).set_ (o + 3) (.int .i64 (n : Int))
    rw [hC.s1, hC.s3] at this
    rw [HZ.out, ← HN.out] at this
    rw [HZ.out]
    exact this
  · exact (((Turn.refl (· = X) w).drewN nq).setCell rfl _).setCell rfl _
set_option maxHeartbeats 2000000 in
set_option maxRecDepth 100000 in
theorem crash_o {TT : TypeId} {o : Nat} {C : Value → Value → Value → Value → Array Value} (hC : Slot o C) (X : Nat) (j : Jr) (v : Value) (n : Int) (w : World) (h : JO w X TT C j v) (hk : j.k ≤ j.s.length) (hs : j.s.length ≤ 800000) :
    Calls Tryz.prog 35 #[.pointer (some ⟨X, o, none⟩), .int .i64 n] w fun e w' => ∃ v', e = .returned (.tuple #[]) ∧ JO w' X TT C (crashJ j n) v' ∧ OwnR w' (w.heap.size ≤ ·) v' (crashJ j n).l ∧ Turn (fun k => k = X ∨ w.heap.size ≤ k) w w' := by
  obtain ⟨s, k, l, m⟩ := j
  simp only at h hk hs
  have H := Lib.hid h
  have hX := Blk.lt h
  obtain ⟨t, ht⟩ : ∃ t, t = oct.tx s := ⟨_, rfl⟩
  have c0 : w.cell? ⟨X, o, none⟩ = some (.string t) := by rw [ht]; exact (Blk.cell h (o)).trans (hC.g0 _ _ _ _)
  have c1 : w.cell? ⟨X, o + 1, none⟩ = some (.int .i64 (k : Int)) := (Blk.cell h (o + 1)).trans (hC.g1 _ _ _ _)
  have hb1 : Below w.heap.size w (w.alloc (.cells #[.string t, .int .i64 (k : Int)] 26)) := (Below.refl _ _).alloc (Nat.le_refl _) _
  obtain ⟨w1, hw1⟩ : ∃ u, u = w.alloc (.cells #[.string t, .int .i64 (k : Int)] 26) := ⟨_, rfl⟩
  have HW1 := Lib.hid hw1
  have hxb : bk.XBlk w1 w.heap.size s k := by rw [hw1, ht]; exact Blk.new _ _ _
  have HCR := Lib.hid (bk.crash_any w.heap.size s k n w1 hxb hk (by omega))
  rw [← hw1] at hb1
  have HB1 := Lib.hid hb1
  have hcl := (bk.crashB_le s k n hk).2
  show Calls _ _ _ _ fun e w' => ∃ v', e = .returned (.tuple #[]) ∧ JO w' X TT C (openJ (bk.crashB s k n).1) v' ∧ OwnR w' (w.heap.size ≤ ·) v' (openJ (bk.crashB s k n).1).l ∧ Turn (fun k => k = X ∨ w.heap.size ≤ k) w w'
  obtain ⟨y, ky, g, hy⟩ : ∃ y ky g, bk.crashB s k n = (y, ky, g) := ⟨_, _, _, rfl⟩
  rw [hy] at HCR hcl ⊢
  simp only at HCR hcl ⊢
  have HO := Lib.hid fun u => open_ref (oct.tx y) (by rw [oct.tx_size]; omega) u
  rw [oct.tx_list] at HO
  obtain ⟨J, hJ⟩ : ∃ J, J = openJ y := ⟨_, rfl⟩
  rw [← hJ] at HO ⊢
  obtain ⟨ty, hty⟩ : ∃ t, t = oct.tx y := ⟨_, rfl⟩
  rw [← hty] at HO
  obtain ⟨tJ, htJ⟩ : ∃ t, t = oct.tx J.s := ⟨_, rfl⟩
  rw [← htJ] at HO
  have HTY := Lib.hid hty
  have HTJ := Lib.hid htJ
  unfold jcells at HO
  clear h ht hw1 hxb hb1 hcl hJ hy hty htJ hs
  go_enter Tryz.func35, Tryz.ntmps35
  go_upto_region 1 with fail
  rw [← HW1.out]
  go_upto_region 2 with (go_at_call 62; (with_reducible refine HCR.out.mono ?_); rintro e w2 ⟨rfl, hx2, ht2⟩; have X2 := Lib.hid hx2; have T2 := Lib.hid ht2; have d0 : w2.cell? ⟨w.heap.size, 0, none⟩ = some (.string ty) := (by rw [HTY.out]; exact Blk.cell hx2 0); clear hx2 ht2)
  go_upto_region 3 with (go_at_call 43; (with_reducible refine (HO.out _).mono ?_); rintro e w3 ⟨v3, rfl, hO3, hb3⟩; obtain ⟨ad, cap, rfl⟩ := OwnK.form hO3; have O3 := Lib.hid hO3; have B3 := Lib.hid hb3; clear hO3 hb3)
  have hT3 : Turn (w.heap.size ≤ ·) w w3 := (((Turn.ofBelow HB1.out).trans (T2.out.mono fun j hj => by rw [hj]; exact Nat.le_refl _)).trans ((Turn.ofBelow B3.out).mono fun j hj => Nat.le_trans (Nat.le_trans HB1.out.size T2.out.size) hj))
  have hX3 : Blk w3 X TT (C (.string (oct.tx s)) (.int .i64 (k : Int)) v (.int .i64 (m : Int))) := Blk.turn H.out hT3 (by omega)
  have hl3 := hX3.lt
  have e0 : w3.cell? ⟨X, o, none⟩ = some (.string (oct.tx s)) := (hX3.cell (o)).trans (hC.g0 _ _ _ _)
  have e1 : w3.cell? ⟨X, o + 1, none⟩ = some (.int .i64 (k : Int)) := (hX3.cell (o + 1)).trans (hC.g1 _ _ _ _)
  have e2 : w3.cell? ⟨X, o + 2, none⟩ = some v := (hX3.cell (o + 2)).trans (hC.g2 _ _ _ _)
  have e3 : w3.cell? ⟨X, o + 3, none⟩ = some (.int .i64 (m : Int)) := (hX3.cell (o + 3)).trans (hC.g3 _ _ _ _)
  have f0 := hX3.frozen (o)
  have f1 := hX3.frozen (o + 1)
  have f2 := hX3.frozen (o + 2)
  have f3 := hX3.frozen (o + 3)
  have hne : X ≠ w3.heap.size := by omega
  have hne' : ¬ w3.heap.size = X := by omega
  have X3 := Lib.hid hX3
  have TT3 := Lib.hid hT3
  clear hX3 hT3 c0 c1 d0
  go_wp2_with fail
  go_end0
  have hT4 : Turn (· = X) w3 ((((w3.setCell ⟨X, o, none⟩ (.string tJ)).setCell ⟨X, o + 1, none⟩ (.int .i64 (J.k : Int))).setCell ⟨X, o + 2, none⟩ (.slice ad J.l.length cap)).setCell ⟨X, o + 3, none⟩ (.int .i64 (J.m : Int))) := ((((Turn.refl (· = X) w3).setCell rfl _).setCell rfl _).setCell rfl _).setCell rfl _
  have hB4 := X3.out
  have hb4 := (((hB4.set_ o (.string tJ)).set_ (o + 1) (.int .i64 (J.k : Int))).set_ (o + 2) (.slice ad J.l.length cap)).set_ (o + 3) (.int .i64 (J.m : Int))
  rw [hC.s0, hC.s1, hC.s2, hC.s3] at hb4
  obtain ⟨w4, hw4⟩ : ∃ u, u = ((((w3.setCell ⟨X, o, none⟩ (.string tJ)).setCell ⟨X, o + 1, none⟩ (.int .i64 (J.k : Int))).setCell ⟨X, o + 2, none⟩ (.slice ad J.l.length cap)).setCell ⟨X, o + 3, none⟩ (.int .i64 (J.m : Int))) := ⟨_, rfl⟩
  rw [← hw4] at hT4 hb4
  rw [← hw4]
  have hO3 := O3.out
  rw [List.length_map] at hO3
  have hz3 : w.heap.size ≤ w2.heap.size := Nat.le_trans HB1.out.size T2.out.size
  have hO4 : OwnR w4 (w.heap.size ≤ ·) (.slice ad J.l.length cap) J.l := (OwnK.turn hO3 hT4 fun k hk hh => by have := hO3.2.2 k hk; simp at this; omega).place fun k hk => Nat.le_trans hz3 (hO3.2.2 k hk)
  have hb5 : Below w4.heap.size w4 (w4.alloc (.cells #[.string tJ, .int .i64 (J.k : Int), .slice ad J.l.length cap, .int .i64 (J.m : Int)] 29)) := (Below.refl _ _).alloc (Nat.le_refl _) _
  refine ⟨.slice ad J.l.length cap, rfl, ?_, OwnK.next hO4 hb5, ?_⟩
  · show Blk _ X _ (C (.string (oct.tx J.s)) _ _ _)
    rw [← HTJ.out]
    exact hb4.alloc _
  · have h3 := TT3.out.mono (G := fun k => k = X ∨ w.heap.size ≤ k) fun k hk => .inr hk
    have h4 := h3.trans (hT4.mono fun k hk => .inl hk)
    exact h4.trans ((Turn.ofBelow hb5).mono fun k hk => .inr (Nat.le_trans h4.size hk))
end Go.Proofs.YtkbbeioednhefaaGreatDoor.jn
