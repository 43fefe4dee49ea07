/-
  The landed vault: open, write, number, isSealed, bodies.
-/
import Derived.Test.YtkbbeioednhefaaGreatDoorRdle
namespace Go.Proofs.YtkbbeioednhefaaGreatDoor.vt
open Go.RowKit Go.Proofs.YtkbbeioednhefaaGreatDoor.mem Go.Proofs.YtkbbeioednhefaaGreatDoor.sha Go.Proofs.YtkbbeioednhefaaGreatDoor.strx Go.Proofs.YtkbbeioednhefaaGreatDoor.rows Go.Proofs.YtkbbeioednhefaaGreatDoor.ids Go.Proofs.YtkbbeioednhefaaGreatDoor.rcd Go.Proofs.YtkbbeioednhefaaGreatDoor.jn Go.Proofs.YtkbbeioednhefaaGreatDoor.txl
open Go.Proofs.YtkbbeioednhefaaGreatDoor.opn (b4 rdN endE RdL lnum4_s lend_s)

set_option maxHeartbeats 4000000 in
theorem vopen_any (t : ByteArray) (hs : t.size ≤ 100000) (w : World) (hT : crc.Tab w) : Calls Tryz.prog 49 #[.string t] w fun e w' =>
    ∃ p b v G', e = .returned (.tuple #[p, v]) ∧ JnL G' w' p b (openJ t.data.toList) ∧ New G' w' ∧ (∀ k, G' k → w.heap.size ≤ k) ∧ OwnR w' (fun k => w.heap.size ≤ k ∧ ¬ G' k) v (openJ t.data.toList).l ∧ Below w.heap.size w w' := by
  have htl : t.data.toList.length ≤ 100000 := by rw [← size_list]; exact hs
  have HB := Lib.hid (jn_a.bnew w hT)
  have HW := Lib.hid fun b u (hb : Below w.heap.size w u) (h : BkL (w.heap.size ≤ ·) u b []) => jn_a.bwrite (w.heap.size ≤ ·) b [] t u (jn_a.next hT hb) (fun k hk => Nat.le_trans hb.size hk) h (by simpa using hs)
  simp only [List.nil_append] at HW
  have HO := Lib.hid fun b u (hb : Below w.heap.size w u) (h : BkL (w.heap.size ≤ ·) u b t.data.toList) => jn_a.open_ (w.heap.size ≤ ·) b t.data.toList u (jn_a.next hT hb) (fun k hk => Nat.le_trans hb.size hk) h htl
  obtain ⟨J, hJ⟩ : ∃ J, J = openJ t.data.toList := ⟨_, rfl⟩
  rw [← hJ] at HO ⊢
  clear hT hs htl hJ
  go_enter Tryz.func49, Tryz.ntmps49
  go_wp2_with (first
    | (go_at_call 72; (with_reducible refine HB.out.mono ?_); rintro e w1 ⟨b, rfl, hk1, hb1⟩; have HK1 := Lib.hid hk1; have HB1 := Lib.hid hb1; clear hk1 hb1)
    | (go_at_call 56; (with_reducible refine (HW.out _ _ HB1.out HK1.out).mono ?_); rintro e w2 ⟨rfl, hk2, ht2⟩; have HK2 := Lib.hid hk2; have HB2 := Lib.hid (HB1.out.trans (ht2.below (B := w.heap.size) fun k h => h)); clear hk2 ht2)
    | (go_at_call 73; (with_reducible refine (HO.out _ _ HB2.out HK2.out).mono ?_); rintro e w3 ⟨p, v, G', rfl, hj, hn, hg, ho, ht⟩))
  refine bodyPost_ret (results_tmp2 rfl _ _ _) rfl ⟨p, b, v, G', rfl, hj, hn, hg, ho.place fun k hk => ?_, HB2.out.trans (ht.below (B := w.heap.size) fun k h => h)⟩
  have h1 := ho.2.2 k hk
  exact ⟨Nat.le_trans HB2.out.size h1.1, h1.2⟩
set_option maxHeartbeats 4000000 in
theorem vwrite_any (F : Nat → Prop) (p b : Value) (j : Jr) (k : Int) (t : ByteArray) (w : World) (hT : crc.Tab w) (hn : New F w) (h : JnL F w p b j) (hs : j.s.length ≤ 100000) (hc : checkR ⟨k, t.data.toList⟩ = 0) (ht : t.size ≤ 300) :
    Calls Tryz.prog 50 #[p, .agg #[.int .i64 k, .string t]] w fun e w' => e = .returned (.tuple #[]) ∧ JnL F w' p b (appJ j ⟨k, t.data.toList⟩).1 ∧ Turn F w w' := by
  obtain ⟨w1, hw1⟩ : ∃ u, u = w.alloc (.cells #[.int .i64 k, .string t] 66) := ⟨_, rfl⟩
  have hB1 : Below w.heap.size w w1 := by rw [hw1]; exact (Below.refl _ w).alloc (Nat.le_refl _) _
  have hR1 : Blk w1 w.heap.size 66 #[.int .i64 k, .string t] := by rw [hw1]; exact Blk.new w _ _
  have r0 : w1.cell? ⟨w.heap.size, 0, none⟩ = some (.int .i64 k) := hR1.cell 0
  have r1 : w1.cell? ⟨w.heap.size, 1, none⟩ = some (.string t) := hR1.cell 1
  have htl : t.data.toList.length ≤ 300 := by rw [← size_list]; exact ht
  have htx : oct.tx t.data.toList = t := by unfold oct.tx; rfl
  have hA := jn_a.append F p b j ⟨k, t.data.toList⟩ w1 (jn_a.next hT hB1) (hn.of hB1.size) (jn_a.turn h (Turn.ofBelow hB1) fun _ hk _ => Nat.not_le.2 hk) hs htl
  simp only [recv, htx] at hA
  rw [show (appJ j ⟨k, t.data.toList⟩).2 = 0 by unfold appJ; rw [if_neg (by rw [hc]; exact fun h => h rfl)]] at hA
  have HA := Lib.hid hA
  have HT := Lib.hid (Turn.fresh hB1 hn)
  have HW := Lib.hid hw1
  obtain ⟨J, hJ⟩ : ∃ J, J = (appJ j ⟨k, t.data.toList⟩).1 := ⟨_, rfl⟩
  rw [← hJ] at HA ⊢
  clear hB1 hR1 htl htx hA hw1 hT hn h hs hc ht hJ
  go_enter Tryz.func50, Tryz.ntmps50
  go_upto_region 1 with fail
  refine wp_at HW.out.symm ?_
  clear HW
  go_wp2_with (go_at_call 29; (with_reducible refine HA.out.mono ?_); rintro e w3 ⟨rfl, hj, ht⟩)
  go_end0
  exact ⟨rfl, hj, HT.out.trans ht⟩
theorem any2_snoc (L : List Rc) (i : Nat) (h : i < L.length) : (L.take (i + 1)).any (fun x => decide (x.k = 2)) = ((L.take i).any (fun x => decide (x.k = 2)) || decide ((L.getD i zrc).k = 2)) := by
  rw [List.take_succ_eq_append_getElem h, List.any_append, List.getD_eq_getElem?_getD, List.getElem?_eq_getElem h]
  simp
set_option maxHeartbeats 4000000 in
set_option maxRecDepth 100000 in
theorem vsealed_any {v : Value} {L : List Rc} {w : World} (hR : RcV w v L) (hl : L.length ≤ 1000000) : Calls Tryz.prog 88 #[v] w fun e w' => e = .returned (.bool (L.any (fun x => decide (x.k = 2)))) ∧ Below w.heap.size w w' := by
  obtain ⟨ad, cap, rfl, hC⟩ := hR
  obtain ⟨n, hn⟩ : ∃ n, n = L.length := ⟨_, rfl⟩
  have HN := Lib.hid hn
  have HC := Lib.hid hC
  rw [← hn] at hl ⊢
  have n0 : (0 : Int) ≤ (n : Int) := Int.natCast_nonneg _
  obtain ⟨a, ha⟩ : ∃ a, a = L.any (fun x => decide (x.k = 2)) := ⟨_, rfl⟩
  rw [← ha]
  have HA := Lib.hid ha
  clear hn hC ha
  go_enter Tryz.func88, Tryz.ntmps88
  go_wp2_with fail
  go_loopg [7] (n + 1) (fun gk s7 wr => ∃ i : Nat, s7 = .int .i64 i ∧ i ≤ n ∧ n - i < gk ∧ Hid ((L.take i).any (fun x => decide (x.k = 2)) = false) ∧ Hid (Below w.heap.size w wr))
  case atStart => exact ⟨0, rfl, Nat.zero_le _, by omega, Lib.hid rfl, Lib.hid (Below.refl _ _)⟩
  case round =>
    obtain ⟨i, rfl, hi, hgk, HE, HB⟩ := hrel
    have i0 : (0 : Int) ≤ (i : Int) := Int.natCast_nonneg _
    by_cases hlt : i < n
    · have hltz : (i : Int) < (n : Int) := by omega
      obtain ⟨b, off, rfl, hbl, c0, c1⟩ := HC.out i (by have := HN.out; omega)
      replace c0 := (HB.out.cell (p := ⟨b, off + i * 2, none⟩) hbl).trans c0
      replace c1 := (HB.out.cell (p := ⟨b, off + i * 2 + 1, none⟩) hbl).trans c1
      obtain ⟨ki, hki⟩ : ∃ k, k = (L.getD i zrc).k := ⟨_, rfl⟩
      obtain ⟨ti, hti⟩ : ∃ k, k = oct.tx (L.getD i zrc).body := ⟨_, rfl⟩
      rw [← hki] at c0
      rw [← hti] at c1
      have hsu := any2_snoc L i (by have := HN.out; omega)
      rw [HE.out, Bool.false_or, ← hki] at hsu
      have HB' := Lib.hid (HB.out.alloc HB.out.size (.cells #[.int .i64 ki, .string ti] 66))
      by_cases hk2 : ki = 2
      · have HS := Lib.hid (show a = true by
          rw [HA.out]
          obtain ⟨x, hx, hfx⟩ := List.any_eq_true.1 (hsu.trans (decide_eq_true hk2))
          exact List.any_eq_true.2 ⟨x, List.mem_of_mem_take hx, hfx⟩)
        subst hk2
        clear hki hti hsu
        go_wp2_with fail
        go_ret
        exact ⟨by rw [HS.out]; rfl, HB'.out⟩
      · have hk2' : (ki == 2) = false := by simpa using hk2
        have HS := Lib.hid (hsu.trans (decide_eq_false hk2))
        clear hki hti hsu hk2
        go_wp2_with fail
        go_roundg (n - i)
        case measure => omega
        case rel => exact ⟨i + 1, by go_num, hlt, by omega, HS, HB'⟩
    · have hlt' : ¬ (i : Int) < (n : Int) := by omega
      have HS := Lib.hid (show a = false by
        rw [HA.out]
        have h1 := HE.out
        rw [List.take_of_length_le (by have := HN.out; omega)] at h1
        exact h1)
      go_wp2_with fail
      go_ret
      exact ⟨by rw [HS.out]; rfl, HB.out⟩
set_option maxHeartbeats 4000000 in
set_option maxRecDepth 100000 in
theorem vnumber_any {v : Value} {L : List Rc} {w : World} (hR : RcV w v L) (hok : allOk L) (hl : L.length ≤ 1000000) : Calls Tryz.prog 60 #[v] w fun e w' => ∃ n, e = .returned (.tuple #[.int .i64 n, .bool (decide (0 ≤ numV L))]) ∧ (0 ≤ numV L → n = numV L) ∧ Below w.heap.size w w' := by
  have hR0 := hR
  obtain ⟨ad, cap, rfl, hC⟩ := hR
  cases L with
  | nil =>
    have hd : decide (0 ≤ numV []) = false := by decide
    rw [hd]
    clear hR0 hC
    go_enter Tryz.func60, Tryz.ntmps60
    go_wp2_with fail
    refine bodyPost_ret (results_tmp2 rfl _ _ _) rfl ⟨_, rfl, fun h => absurd h (by decide), Below.refl _ _⟩
  | cons r t =>
    obtain ⟨b, off, rfl, hbl, a0, a1⟩ := hC 0 (by simp)
    simp only [List.getD_cons_zero] at a0 a1
    rw [Nat.zero_mul, Nat.add_zero] at a0 a1
    have HRV := Lib.hid fun u (hb : Below w.heap.size w u) => vsealed_any (RcV.next hR0 hb) hl
    have hbody : r.body.length ≤ 1048576 := (checkR_ok (hok r List.mem_cons_self)).2.2
    obtain ⟨n, hn⟩ : ∃ n, n = (r :: t).length := ⟨_, rfl⟩
    have hn1 : 1 ≤ n := by rw [hn]; simp
    rw [← hn] at HRV hl ⊢
    have n0 : ¬ (n : Int) = 0 := by omega
    have n1 : (0 : Int) < (n : Int) := by omega
    have hn0 : ((n : Int) == 0) = false := by simpa using n0
    have hans2 : numV (r :: t) = (if r.k ≠ 1 then (-1 : Int) else if endE (rdN 4 (r.body, 0)).2 ≠ 0 then -1 else if (r :: t).any (fun x => decide (x.k = 2)) = true then (rdN 4 (r.body, 0)).1 else -1) := rfl
    obtain ⟨ans, hans⟩ : ∃ a, a = numV (r :: t) := ⟨_, rfl⟩
    rw [← hans] at hans2 ⊢
    clear hans hn hC hR0 hok
    by_cases hk : r.k = 1
    case neg =>
      have HA := Lib.hid (show ans = -1 by rw [hans2, if_pos hk])
      have hd : decide (0 ≤ ans) = false := by rw [HA.out]; decide
      rw [hd]
      obtain ⟨rk, hrk⟩ : ∃ x, x = r.k := ⟨_, rfl⟩
      rw [← hrk] at hk a0
      have hk1 : (rk == 1) = false := by simpa using hk
      have hk2 : (rk != 1) = true := by simpa using hk
      clear hans2 hrk hk n0 hd HRV
      go_enter Tryz.func60, Tryz.ntmps60
      go_wp2_with fail
      refine bodyPost_ret (results_tmp2 rfl _ _ _) rfl ⟨_, rfl, fun h => absurd h (by rw [HA.out]; decide), Below.refl _ _⟩
    rw [if_neg (by simpa using hk)] at hans2
    rw [hk] at a0
    obtain ⟨x, hx⟩ : ∃ x, x = oct.tx r.body := ⟨_, rfl⟩
    rw [← hx] at a1
    have HO := Lib.hid fun u => oct.open_any x u
    have HRD := Lib.hid fun u (h : oct.RBlk u w.heap.size x 0) => (show RdL u w.heap.size (r.body, 0) from ⟨_, _, h, ⟨rfl, fun _ => hx⟩, by rw [hx, oct.tx_size]; omega⟩)
    have HNM := Lib.hid fun u (hb : Below w.heap.size w u) (h : RdL u w.heap.size (r.body, 0)) => lnum4_s (w.heap.size ≤ ·) w.heap.size (r.body, 0) u h (Nat.le_refl _) (fun k hk => Nat.le_trans hb.size hk)
    have HEN := Lib.hid fun u (h : RdL u w.heap.size (rdN 4 (r.body, 0)).2) => lend_s w.heap.size _ u h
    have hq0 : 0 ≤ (rdN 4 (r.body, 0)).1 := opn.rdN_nonneg 4 _
    obtain ⟨q, hq⟩ : ∃ q, q = (rdN 4 (r.body, 0)).1 := ⟨_, rfl⟩
    obtain ⟨f, hf⟩ : ∃ f, f = endE (rdN 4 (r.body, 0)).2 := ⟨_, rfl⟩
    rw [← hq] at HNM hans2 hq0
    rw [← hf] at HEN hans2
    obtain ⟨sl, hsl⟩ : ∃ s, s = (r :: t).any (fun x => decide (x.k = 2)) := ⟨_, rfl⟩
    rw [← hsl] at HRV hans2
    have HANS := Lib.hid hans2
    have HQ0 := Lib.hid hq0
    clear hans2 hx hq hf hk n0 hsl hq0 hbody
    by_cases hf : f = 0
    case neg =>
      have HA := Lib.hid (show ans = -1 by rw [HANS.out, if_pos hf])
      have hd : decide (0 ≤ ans) = false := by rw [HA.out]; decide
      rw [hd]
      have hf1 : (f == 0) = false := by simpa using hf
      have hf2 : (f != 0) = true := by simpa using hf
      clear hf hd HRV
      go_enter Tryz.func60, Tryz.ntmps60
      go_wp2_with (first
        | (go_at_call 85; (with_reducible refine (HO.out _).mono ?_); rintro e w1 ⟨rfl, hr1, hb1⟩; have HR1 := Lib.hid (HRD.out _ hr1); have HB1 := Lib.hid hb1; clear hr1 hb1)
        | (go_at_call 86; (with_reducible refine (HNM.out _ HB1.out HR1.out).mono ?_); rintro e w2 ⟨rfl, hr2, ht2⟩; have HR2 := Lib.hid hr2; have HB2 := Lib.hid (HB1.out.trans (ht2.below (B := w.heap.size) fun k h => h)); clear hr2 ht2)
        | (go_at_call 87; (with_reducible refine (HEN.out _ HR2.out).mono ?_); rintro e w3 ⟨rfl, rfl⟩))
      refine bodyPost_ret (results_tmp2 rfl _ _ _) rfl ⟨_, rfl, fun h => absurd h (by rw [HA.out]; decide), HB2.out⟩
    have HAN := Lib.hid (show ans = if sl = true then q else -1 by rw [HANS.out, if_neg (fun h => h hf)])
    have hd : decide (0 ≤ ans) = sl := by
      rw [HAN.out]
      cases sl
      · rfl
      · exact decide_eq_true HQ0.out
    rw [hd]
    rw [hf] at HEN
    have HA2 := Lib.hid (show 0 ≤ ans → q = ans by
      intro h
      rw [HAN.out] at h ⊢
      cases sl
      · exact absurd h (by simp)
      · rfl)
    clear hd hf HAN HANS
    cases sl
    all_goals
      go_enter Tryz.func60, Tryz.ntmps60
      go_wp2_with (first
        | (go_at_call 85; (with_reducible refine (HO.out _).mono ?_); rintro e w1 ⟨rfl, hr1, hb1⟩; have HR1 := Lib.hid (HRD.out _ hr1); have HB1 := Lib.hid hb1; clear hr1 hb1)
        | (go_at_call 86; (with_reducible refine (HNM.out _ HB1.out HR1.out).mono ?_); rintro e w2 ⟨rfl, hr2, ht2⟩; have HR2 := Lib.hid hr2; have HB2 := Lib.hid (HB1.out.trans (ht2.below (B := w.heap.size) fun k h => h)); clear hr2 ht2)
        | (go_at_call 87; (with_reducible refine (HEN.out _ HR2.out).mono ?_); rintro e w3 ⟨rfl, rfl⟩)
        | (go_at_call 88; (with_reducible refine (HRV.out _ HB2.out).mono ?_); rintro e w4 ⟨rfl, hb4⟩; have HB4 := Lib.hid (HB2.out.trans (hb4.mono HB2.out.size)); clear hb4))
      refine bodyPost_ret (results_tmp2 rfl _ _ _) rfl ⟨_, rfl, HA2.out, HB4.out⟩
theorem heldV_snoc (L : List Rc) (i : Nat) (h : i < L.length) : heldV (L.take (i + 1)) = heldV (L.take i) ++ (if (L.getD i zrc).k = 3 then [(L.getD i zrc).body] else []) := by
  unfold heldV
  rw [List.take_succ_eq_append_getElem h, List.filter_append, List.map_append, List.getD_eq_getElem?_getD, List.getElem?_eq_getElem h]
  congr 1
  by_cases h3 : (L[i]).k = 3 <;> simp [List.filter, h3]
set_option maxHeartbeats 4000000 in
set_option maxRecDepth 100000 in
theorem vbodies_any {v : Value} {L : List Rc} {w : World} (hR : RcV w v L) (hl : L.length ≤ 100000) : Calls Tryz.prog 61 #[v] w fun e w' => ∃ m, e = .returned m ∧ OwnT w' (w.heap.size ≤ ·) m (heldV L) ∧ Below w.heap.size w w' := by
  obtain ⟨ad, cap, rfl, hC⟩ := hR
  obtain ⟨n, hn⟩ : ∃ n, n = L.length := ⟨_, rfl⟩
  have HN := Lib.hid hn
  have HC := Lib.hid hC
  rw [← hn] at hl ⊢
  have n0 : (0 : Int) ≤ (n : Int) := Int.natCast_nonneg _
  clear hn hC
  go_enter Tryz.func61, Tryz.ntmps61
  go_wp2_with fail
  go_loopg [3, 8] (n + 1) (fun gk s3 s8 wr => ∃ i : Nat, s8 = .int .i64 i ∧ i ≤ n ∧ n - i < gk ∧ Hid (OwnT wr (w.heap.size ≤ ·) s3 (heldV (L.take i))) ∧ Hid (Below w.heap.size w wr))
  case atStart => exact ⟨0, rfl, Nat.zero_le _, by omega, Lib.hid (OwnK.nil _ _ _ _), Lib.hid (Below.refl _ _)⟩
  case round =>
    obtain ⟨i, rfl, hi, hgk, HO, HB⟩ := hrel
    have i0 : (0 : Int) ≤ (i : Int) := Int.natCast_nonneg _
    by_cases hlt : i < n
    · have hltz : (i : Int) < (n : Int) := by omega
      obtain ⟨b, off, rfl, hbl, a0, a1⟩ := HC.out i (by have := HN.out; omega)
      replace a0 := (HB.out.cell (p := ⟨b, off + i * 2, none⟩) hbl).trans a0
      replace a1 := (HB.out.cell (p := ⟨b, off + i * 2 + 1, none⟩) hbl).trans a1
      have hsn := heldV_snoc L i (by have := HN.out; omega)
      obtain ⟨ki, hki⟩ : ∃ k, k = (L.getD i zrc).k := ⟨_, rfl⟩
      obtain ⟨bi, hbi⟩ : ∃ k, k = (L.getD i zrc).body := ⟨_, rfl⟩
      rw [← hki] at a0 hsn
      rw [← hbi] at a1 hsn
      obtain ⟨t, ht⟩ : ∃ t, t = oct.tx bi := ⟨_, rfl⟩
      have htb : t.data.toList = bi := by rw [ht, oct.tx_list]
      rw [← ht] at a1
      obtain ⟨u, hu⟩ : ∃ u, u = wr.alloc (.cells #[.int .i64 ki, .string t] 66) := ⟨_, rfl⟩
      have hub : Below wr.heap.size wr u := by rw [hu]; exact (Below.refl _ _).alloc (Nat.le_refl _) _
      have hR1 : Blk u wr.heap.size 66 #[.int .i64 ki, .string t] := by rw [hu]; exact Blk.new wr _ _
      have r0 : u.cell? ⟨wr.heap.size, 0, none⟩ = some (.int .i64 ki) := hR1.cell 0
      have r1 : u.cell? ⟨wr.heap.size, 1, none⟩ = some (.string t) := hR1.cell 1
      have HOu := Lib.hid (OwnK.next HO.out hub)
      have HBu := Lib.hid (HB.out.trans (hub.mono HB.out.size))
      have HU := Lib.hid hu
      by_cases hk3 : ki = 3
      · subst hk3
        rw [if_pos rfl] at hsn
        have hln : (heldV (L.take i)).length < 1000000 := by
          have h1 : (heldV (L.take i)).length ≤ (L.take i).length := by unfold heldV; rw [List.length_map]; exact List.length_filter_le _ _
          rw [List.length_take] at h1
          omega
        obtain ⟨v', w', hrun, hO', hT'⟩ := push_tx HOu.out t hln
        rw [htb, ← hsn] at hO'
        have HO' := Lib.hid (OwnK.place hO' (G := (w.heap.size ≤ ·)) fun k hk => (hO'.2.2 k hk).elim (fun e => HOu.out.2.2 k e) (fun e => Nat.le_trans HBu.out.size e))
        have HB' := Lib.hid (HBu.out.trans (hT'.below (B := w.heap.size) fun k hk => hk.elim (fun e => HOu.out.2.2 k e) (fun e => Nat.le_trans HBu.out.size e)))
        clear hki hbi ht htb hsn hln hO' hT' hub hR1 hu
        go_upto_region 5 with fail
        refine wp_at HU.out.symm ?_
        clear HU
        go_wp2_with ((with_reducible refine step_append (s := .tmp 15) (x := .tmp 18) (t := 33) (vs := ?as1) (vx := ?ax1) (v' := ?av1) (w' := ?aw1) ?ag1 ?ao1 ?ap1 ?aq1 ?ar1 ?ah1); (case ag1 => rfl); (case ao1 => rfl); (case ap1 => rfl); (case aq1 => rfl); (case ar1 => exact hrun))
        go_roundg (n - i)
        case measure => omega
        case rel => exact ⟨i + 1, by go_num, hlt, by omega, HO', HB'⟩
      · have hk3' : (ki == 3) = false := by simpa using hk3
        rw [if_neg hk3, List.append_nil] at hsn
        have HO' := HOu
        rw [← hsn] at HO'
        clear hki hbi ht htb hsn hk3 hub hR1 hu
        go_upto_region 5 with fail
        refine wp_at HU.out.symm ?_
        clear HU
        go_wp2_with fail
        go_roundg (n - i)
        case measure => omega
        case rel => exact ⟨i + 1, by go_num, hlt, by omega, HO', HBu⟩
    · have hlt' : ¬ (i : Int) < (n : Int) := by omega
      have HO' := HO
      rw [List.take_of_length_le (by have := HN.out; omega)] at HO'
      go_wp2_with fail
      go_ret
      exact ⟨_, rfl, HO'.out, HB.out⟩
end Go.Proofs.YtkbbeioednhefaaGreatDoor.vt
