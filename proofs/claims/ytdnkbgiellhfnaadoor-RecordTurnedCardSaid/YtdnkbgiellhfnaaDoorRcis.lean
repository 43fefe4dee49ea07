/-
  What record's functions answer; awake; the walks of RecordPuts and RecordAll.
-/
import Derived.Test.YtdnkbgiellhfnaaDoorRca
namespace Go.Proofs.YtdnkbgiellhfnaaDoor.rcd
open Go.RowKit Go.Proofs.YtdnkbgiellhfnaaDoor.mem Go.Proofs.YtdnkbgiellhfnaaDoor.sha Go.Proofs.YtdnkbgiellhfnaaDoor.opn Go.Proofs.YtdnkbgiellhfnaaDoor.rows Go.Proofs.YtdnkbgiellhfnaaDoor.ids

structure RcIs (T : World → Prop) : Prop where
  next : ∀ {w w' : World}, T w → Below w.heap.size w w' → T w'
  put : ∀ (k : Int) (b : List UInt8) (w : World), T w → b.length ≤ 140737488355328 → Calls Tryd.prog 9 #[recv ⟨k, b⟩] w fun e w' => e = .returned (.tuple #[.string (oct.tx (putR ⟨k, b⟩).1), .int .i64 (putR ⟨k, b⟩).2]) ∧ Below w.heap.size w w'
  nxt : ∀ (s : ByteArray) (i : Int) (w : World), T w → s.size ≤ 800000 → Calls Tryd.prog 11 #[.string s, .int .i64 i] w fun e w' => e = .returned (nextV (nextR s.data.toList i)) ∧ Below w.heap.size w w'
  all : ∀ (s : ByteArray) (w : World), T w → s.size ≤ 800000 → Calls Tryd.prog 14 #[.string s] w fun e w' => ∃ v, e = .returned (.tuple #[v, .int .i64 ((allT s.data.toList).2.1 : Int), .int .i64 (allT s.data.toList).2.2]) ∧ OwnR w' (w.heap.size ≤ ·) v (allT s.data.toList).1 ∧ Below w.heap.size w w'
  size : ∀ (n : Int) (w : World), T w → n ≤ 1000000 → Calls Tryd.prog 13 #[.int .i64 n] w fun e w' => e = .returned (.int .i64 (sizeR n)) ∧ Below w.heap.size w w'
theorem allR_len : ∀ (n : Nat) (t : List UInt8), (allR n t).1.length * 9 ≤ t.length
  | 0, _ => by simp [allR]
  | n + 1, t => by
    unfold allR
    split
    · simp
    · split
      · simp
      · next a b =>
        have hs := first_size (t := t) (Decidable.not_not.1 b)
        have := allR_len n (t.drop (firstR t).2.1.toNat)
        rw [List.length_drop] at this
        simp only [List.length_cons]
        omega
theorem allT_len (t : List UInt8) : (allT t).1.length ≤ t.length := by have := allR_len t.length t; unfold allT; omega
section
variable {T : World → Prop}
set_option maxHeartbeats 4000000 in
set_option maxRecDepth 100000 in
theorem awake_any (hI : RcIs T) (w : World) (hT : T w) : Calls Tryd.prog 8 #[] w fun e w' => e = .returned (.bool true) ∧ Below w.heap.size w w' := by
  have hc : checkR ⟨2, [120]⟩ = 0 := by decide
  obtain ⟨s, hs⟩ : ∃ s, s = oct.tx (enR ⟨2, [120]⟩) := ⟨_, rfl⟩
  have hsz : s.size ≤ 800000 := by rw [hs, oct.tx_size, enR_len]; decide
  have hsl : s.data.toList = enR ⟨2, [120]⟩ := by rw [hs, oct.tx_list]
  have hn : nextR s.data.toList 0 = (⟨2, [120]⟩, 10, 0) := by
    have hf := first_put ⟨2, [120]⟩ hc []
    rw [List.append_nil, enR_len] at hf
    have := next_ok (l := s.data.toList) (i := 0) (n := 10) (r := ⟨2, [120]⟩) (by omega) (by omega) (by rw [hsl]; exact hf)
    exact this
  have HP := Lib.hid (hI.put 2 [120] w hT (by decide))
  rw [putR_good hc, ← hs] at HP
  have HP' : Hid (Calls Tryd.prog 9 #[.agg #[.int .i64 2, .string ⟨#[120]⟩]] w fun e w' => e = .returned (.tuple #[.string s, .int .i64 0]) ∧ Below w.heap.size w w') := Lib.hid HP.out
  have HN := Lib.hid fun u (h : T u) => hI.nxt s 0 u h hsz
  rw [hn] at HN
  simp only [nextV, recv] at HN
  obtain ⟨x, hx⟩ : ∃ x, x = oct.tx [120] := ⟨_, rfl⟩
  rw [← hx] at HN
  have hxs : (x.toList == [120]) = true := by rw [hx, ByteArray.toList_eq, oct.tx_list]; rfl
  have HI := Lib.hid hI
  have HT := Lib.hid hT
  clear hI hT hc hs hsz hsl hn hx HP
  go_enter Tryd.func8, Tryd.ntmps8
  go_wp2_with (first
    | (go_at_call 9; (with_reducible refine HP'.out.mono ?_); rintro e w1 ⟨rfl, hb1⟩)
    | (go_at_call 11; (with_reducible refine (HN.out _ (HI.out.next HT.out hb1)).mono ?_); rintro e w2 ⟨rfl, hb2⟩))
  go_ret
  exact ⟨rfl, (hb1.trans (hb2.mono hb1.size)).alloc (Nat.le_trans hb1.size hb2.size) _⟩
theorem put_size (k : Int) (b : List UInt8) (h : (putR ⟨k, b⟩).2 = 0) : ((putR ⟨k, b⟩).1.length : Int) = sizeR b.length := by
  by_cases hc : checkR ⟨k, b⟩ = 0
  · rw [putR_good hc]
    unfold sizeR
    rw [if_neg (by omega)]
    show ((enR ⟨k, b⟩).length : Int) = _
    rw [enR_len]
    show ((b.length + 9 : Nat) : Int) = _
    omega
  · rw [putR_bad rfl hc] at h
    exact absurd h hc
set_option maxHeartbeats 4000000 in
set_option maxRecDepth 100000 in
theorem puts_walk (hI : RcIs T) (k : Int) (b s : ByteArray) (i : Int) (w : World) (hT : T w) (hbz : b.size ≤ 140737488355328) :
    Calls Tryd.prog 3 #[.agg #[.int .i64 k, .string b], .string s, .int .i64 i] w fun e w' => e = .returned (.bool true) ∧ Below w.heap.size w w' := by
  have HI := Lib.hid hI
  have HT := Lib.hid hT
  clear hI hT
  have h0 : Below w.heap.size w (w.alloc (.cells #[.int .i64 k, .string b] 23)) := (Below.refl _ _).alloc (Nat.le_refl _) _
  by_cases hb5 : (5000 : Int) < (b.size : Int)
  · have HA := Lib.hid (awake_any HI.out _ (HI.out.next HT.out h0))
    have H0 := Lib.hid h0
    clear h0
    go_enter Tryd.func3, Tryd.ntmps3
    go_wp2_with (go_at_call 8; (with_reducible refine HA.out.mono ?_); rintro e w1 ⟨rfl, hb1⟩)
    go_ret
    exact ⟨rfl, H0.out.trans (hb1.mono H0.out.size)⟩
  by_cases hs5 : (5000 : Int) < (s.size : Int)
  · have HA := Lib.hid (awake_any HI.out _ (HI.out.next HT.out h0))
    have H0 := Lib.hid h0
    clear h0
    go_enter Tryd.func3, Tryd.ntmps3
    go_wp2_with (go_at_call 8; (with_reducible refine HA.out.mono ?_); rintro e w1 ⟨rfl, hb1⟩)
    go_ret
    exact ⟨rfl, H0.out.trans (hb1.mono H0.out.size)⟩
  have hbl : b.data.toList.length = b.size := Array.length_toList
  have hbe : oct.tx b.data.toList = b := oct.tx_eta b
  obtain ⟨bl, hble⟩ : ∃ l, l = b.data.toList := ⟨_, rfl⟩
  rw [← hble] at hbl hbe
  have hsz := put_size k bl
  have HP1 := Lib.hid fun u (h : T u) => HI.out.put k bl u h (by omega)
  have HP2 := Lib.hid fun u => put_ref k bl (by omega) u
  simp only [recv] at HP1 HP2
  rw [hbe] at HP1 HP2
  obtain ⟨pl, e, hP⟩ : ∃ pl e, putR ⟨k, bl⟩ = (pl, e) := ⟨_, _, rfl⟩
  rw [hP] at HP1 HP2 hsz
  simp only at HP1 HP2 hsz
  obtain ⟨A, hA⟩ : ∃ A, A = oct.tx pl := ⟨_, rfl⟩
  have hAs : A.size = pl.length := by rw [hA, oct.tx_size]
  rw [← hA] at HP1 HP2
  rw [← hAs, hbl] at hsz
  have HN1 := Lib.hid fun u (h : T u) => HI.out.nxt s i u h (by omega)
  have HN2 := Lib.hid fun u => next_ref s i (by omega) u
  obtain ⟨rc, n, f, hX⟩ : ∃ rc n f, nextR s.data.toList i = (rc, n, f) := ⟨_, _, _, rfl⟩
  obtain ⟨rk, rb⟩ := rc
  rw [hX] at HN1 HN2
  simp only [nextV, recv] at HN1 HN2
  obtain ⟨rB, hrB⟩ : ∃ B, B = oct.tx rb := ⟨_, rfl⟩
  rw [← hrB] at HN1 HN2
  have HZ := Lib.hid fun u (h : T u) => HI.out.size (b.size : Int) u h (by omega)
  have HZ1 := Lib.hid fun u (h : T u) => HI.out.size (-1) u h (by omega)
  rw [show sizeR (-1) = 0 from rfl] at HZ1
  obtain ⟨z, hz⟩ : ∃ z, z = sizeR (b.size : Int) := ⟨_, rfl⟩
  rw [← hz] at HZ hsz
  have H0 := Lib.hid h0
  have HB0 := Lib.hid (Blk.new w 23 #[.int .i64 k, .string b])
  obtain ⟨w0, hw0⟩ : ∃ u, u = w.alloc (.cells #[.int .i64 k, .string b] 23) := ⟨_, rfl⟩
  have HW0 := Lib.hid hw0
  rw [← hw0] at H0 HB0
  have hlt0 : w.heap.size < w0.heap.size := by rw [hw0]; simp
  clear h0 hbl hbe hble hP hA hAs hX hrB hz hw0
  have HPW1 : Hid (∀ u u', Below w.heap.size w u → w.heap.size < u.heap.size → Blk u w.heap.size 23 #[.int .i64 k, .string b] → Below u.heap.size u u' → Below w.heap.size w u' ∧ T u' ∧ w.heap.size < u'.heap.size ∧ Blk u' w.heap.size 23 #[.int .i64 k, .string b]) := Lib.hid fun u u' h1 h2 h3 h4 => by
    have h5 := h1.trans (h4.mono h1.size)
    exact ⟨h5, HI.out.next HT.out h5, Nat.lt_of_lt_of_le h2 h4.size, h3.below h4 h2⟩
  by_cases he : e = 0
  case neg =>
    have hd : (e == 0) = false := by simpa using he
    have hd2 : (e != 0) = true := by simpa using he
    clear he hsz
    go_enter Tryd.func3, Tryd.ntmps3
    go_upto_region 3 with fail
    rw [← HW0.out]
    have q0 := HB0.out.cell 0
    have q1 := HB0.out.cell 1
    go_upto_region 7 with (first
      | (go_at_call 9; (with_reducible refine (HP1.out _ (HI.out.next HT.out H0.out)).mono ?_); rintro e w1 ⟨rfl, hb1⟩; obtain ⟨b1, t1, l1, k1⟩ := HPW1.out _ _ H0.out hlt0 HB0.out hb1; have K1 := Lib.hid k1; have B1 := Lib.hid b1; have q0' := k1.cell 0; have q1' := k1.cell 1; clear k1 b1 t1 hb1)
      | (go_at_call 10; (with_reducible refine (HP2.out _).mono ?_); rintro e w2 ⟨rfl, hb2⟩; obtain ⟨b2, t2, l2, k2⟩ := HPW1.out _ _ B1.out l1 K1.out hb2; have K2 := Lib.hid k2; have B2 := Lib.hid b2; have T2 := Lib.hid t2; clear k2 b2 t2 hb2)
      | (go_at_call 11; (with_reducible refine (HN1.out _ T2.out).mono ?_); rintro e w3 ⟨rfl, hb3⟩; obtain ⟨b3, t3, l3, k3⟩ := HPW1.out _ _ B2.out l2 K2.out hb3; have K3 := Lib.hid k3; have B3 := Lib.hid (b3.alloc (Nat.le_of_lt l3) (.cells #[.int .i64 rk, .string rB] 23)); clear k3 b3 t3 hb3)
      | (go_at_call 12; (with_reducible refine (HN2.out _).mono ?_); rintro e w4 ⟨rfl, hb4⟩; obtain ⟨b4, t4, l4, k4⟩ := HPW1.out _ _ B3.out (by simp; omega) (K3.out.alloc _) hb4; have B4 := Lib.hid (b4.alloc (Nat.le_of_lt l4) (.cells #[.int .i64 rk, .string rB] 23)); have q1'' : w4.cell? ⟨w.heap.size, 1, none⟩ = some (.string b) := k4.cell 1; have kr := (Blk.new w3 23 #[.int .i64 rk, .string rB]).below hb4 (by simp); have r0 : w4.cell? ⟨w3.heap.size, 0, none⟩ = some (.int .i64 rk) := kr.cell 0; have r1 : w4.cell? ⟨w3.heap.size, 1, none⟩ = some (.string rB) := kr.cell 1; have l34 : w3.heap.size < w4.heap.size := kr.lt; clear k4 b4 t4 hb4 kr))
    go_wp2_with (first
      | (go_at_call 8; (with_reducible refine (awake_any HI.out _ (HI.out.next HT.out B5.out)).mono ?_); rintro e w6 ⟨rfl, hb6⟩)
      | (go_at_call 13; (with_reducible refine (HZ1.out _ (HI.out.next HT.out B4.out)).mono ?_); rintro e w5 ⟨rfl, hb5⟩; have B5 := Lib.hid (B4.out.trans (hb5.mono B4.out.size)); clear hb5))
    go_ret
    exact ⟨rfl, B5.out.trans (hb6.mono B5.out.size)⟩
  · subst he
    have hzz : ((A.size : Int) == z) = true := by rw [hsz rfl]; exact beq_self_eq_true _
    clear hsz
    go_enter Tryd.func3, Tryd.ntmps3
    go_upto_region 3 with fail
    rw [← HW0.out]
    have q0 := HB0.out.cell 0
    have q1 := HB0.out.cell 1
    go_upto_region 7 with (first
      | (go_at_call 9; (with_reducible refine (HP1.out _ (HI.out.next HT.out H0.out)).mono ?_); rintro e w1 ⟨rfl, hb1⟩; obtain ⟨b1, t1, l1, k1⟩ := HPW1.out _ _ H0.out hlt0 HB0.out hb1; have K1 := Lib.hid k1; have B1 := Lib.hid b1; have q0' := k1.cell 0; have q1' := k1.cell 1; clear k1 b1 t1 hb1)
      | (go_at_call 10; (with_reducible refine (HP2.out _).mono ?_); rintro e w2 ⟨rfl, hb2⟩; obtain ⟨b2, t2, l2, k2⟩ := HPW1.out _ _ B1.out l1 K1.out hb2; have K2 := Lib.hid k2; have B2 := Lib.hid b2; have T2 := Lib.hid t2; clear k2 b2 t2 hb2)
      | (go_at_call 11; (with_reducible refine (HN1.out _ T2.out).mono ?_); rintro e w3 ⟨rfl, hb3⟩; obtain ⟨b3, t3, l3, k3⟩ := HPW1.out _ _ B2.out l2 K2.out hb3; have K3 := Lib.hid k3; have B3 := Lib.hid (b3.alloc (Nat.le_of_lt l3) (.cells #[.int .i64 rk, .string rB] 23)); clear k3 b3 t3 hb3)
      | (go_at_call 12; (with_reducible refine (HN2.out _).mono ?_); rintro e w4 ⟨rfl, hb4⟩; obtain ⟨b4, t4, l4, k4⟩ := HPW1.out _ _ B3.out (by simp; omega) (K3.out.alloc _) hb4; have B4 := Lib.hid (b4.alloc (Nat.le_of_lt l4) (.cells #[.int .i64 rk, .string rB] 23)); have q1'' : w4.cell? ⟨w.heap.size, 1, none⟩ = some (.string b) := k4.cell 1; have kr := (Blk.new w3 23 #[.int .i64 rk, .string rB]).below hb4 (by simp); have r0 : w4.cell? ⟨w3.heap.size, 0, none⟩ = some (.int .i64 rk) := kr.cell 0; have r1 : w4.cell? ⟨w3.heap.size, 1, none⟩ = some (.string rB) := kr.cell 1; have l34 : w3.heap.size < w4.heap.size := kr.lt; clear k4 b4 t4 hb4 kr))
    go_wp2_with (first
      | (go_at_call 8; (with_reducible refine (awake_any HI.out _ (HI.out.next HT.out B6.out)).mono ?_); rintro e w7 ⟨rfl, hb7⟩)
      | (go_at_call 13; (with_reducible refine (HZ1.out _ (HI.out.next HT.out B5.out)).mono ?_); rintro e w6 ⟨rfl, hb6⟩; have B6 := Lib.hid (B5.out.trans (hb6.mono B5.out.size)); clear hb6)
      | (go_at_call 13; (with_reducible refine (HZ.out _ (HI.out.next HT.out B4.out)).mono ?_); rintro e w5 ⟨rfl, hb5⟩; have B5 := Lib.hid (B4.out.trans (hb5.mono B4.out.size)); clear hb5))
    go_ret
    exact ⟨rfl, B6.out.trans (hb7.mono B6.out.size)⟩
set_option maxHeartbeats 4000000 in
set_option maxRecDepth 100000 in
theorem all_walk (hI : RcIs T) (s : ByteArray) (w : World) (hT : T w) :
    Calls Tryd.prog 4 #[.string s] w fun e w' => e = .returned (.bool true) ∧ Below w.heap.size w w' := by
  have HI := Lib.hid hI
  have HT := Lib.hid hT
  clear hI hT
  by_cases hs5 : (5000 : Int) < (s.size : Int)
  · have HA := Lib.hid (awake_any HI.out _ HT.out)
    go_enter Tryd.func4, Tryd.ntmps4
    go_wp2_with (go_at_call 8; (with_reducible refine HA.out.mono ?_); rintro e w1 ⟨rfl, hb1⟩)
    go_ret
    exact ⟨rfl, hb1⟩
  have HA1 := Lib.hid (HI.out.all s w HT.out (by omega))
  have HA2 := Lib.hid fun u => all_ref s (by omega) u
  have hlen : (allT s.data.toList).1.length ≤ 1000000 := by
    have := allT_len s.data.toList
    have hl : s.data.toList.length = s.size := Array.length_toList
    omega
  obtain ⟨L, n, f, hX⟩ : ∃ L n f, allT s.data.toList = (L, n, f) := ⟨_, _, _, rfl⟩
  rw [hX] at HA1 HA2 hlen
  simp only at HA1 HA2 hlen
  clear hX
  go_enter Tryd.func4, Tryd.ntmps4
  go_wp2_with (first
    | (go_at_call 8; (with_reducible refine (awake_any HI.out _ (HI.out.next HT.out B3.out)).mono ?_); rintro e w4 ⟨rfl, hb4⟩)
    | (go_at_call 14; (with_reducible refine HA1.out.mono ?_); rintro e w1 ⟨v1, rfl, hO1, hb1⟩; have O1 := Lib.hid hO1; have B1 := Lib.hid hb1; clear hO1 hb1)
    | (go_at_call 15; (with_reducible refine (HA2.out _).mono ?_); rintro e w2 ⟨v2, rfl, hO2, hb2⟩; have HS := Lib.hid (same_eq (OwnR.rcv (OwnK.next O1.out hb2)) (OwnR.rcv hO2) hlen); have B2 := Lib.hid (B1.out.trans (hb2.mono B1.out.size)); clear hO2 hb2)
    | (go_at_call 16; (with_reducible refine HS.out.mono ?_); rintro e w3 ⟨rfl, hb3⟩; have B3 := Lib.hid (B2.out.trans (hb3.mono B2.out.size)); clear hb3))
  go_ret
  exact ⟨rfl, B3.out.trans (hb4.mono B3.out.size)⟩
end
end Go.Proofs.YtdnkbgiellhfnaaDoor.rcd
