/-
  petrelref01.Reader.End.
  petrelref13.number, held, gen.
-/
import Derived.Test.YtkbbeioednhefaaGreatDoorRdx
import Derived.Test.YtkbbeioednhefaaGreatDoorVtp
import Derived.Test.YtkbbeioednhefaaGreatDoorOpentx
import Derived.Test.YtkbbeioednhefaaGreatDoorRcaa
namespace Go.Proofs.YtkbbeioednhefaaGreatDoor.oct
open Go.RowKit Go.Proofs.YtkbbeioednhefaaGreatDoor.mem

def xEnd (st : ByteArray × Int) : Int := if st.2 ≠ 0 then st.2 else if 0 < st.1.size then 4 else 0
theorem xend_any (g : Nat) (s : ByteArray) (err : Int) (w : World) (h : XBlk w g s err) :
    Calls Tryz.prog 67 #[.pointer (some ⟨g, 0, none⟩)] w fun e w' => e = .returned (.int .i64 (xEnd (s, err))) ∧ w = w' := by
  have c0 := h.c0
  have c1 := h.c1
  by_cases he : err = 0
  · subst he
    by_cases hs : 0 < s.size
    · have e2 : xEnd (s, 0) = 4 := by unfold xEnd; rw [if_neg (by simp), if_pos hs]
      rw [e2]
      clear e2
      go_enter Tryz.func67, Tryz.ntmps67
      go_wp2
      go_ret
      exact ⟨rfl, rfl⟩
    · have e2 : xEnd (s, 0) = 0 := by unfold xEnd; rw [if_neg (by simp), if_neg hs]
      rw [e2]
      clear e2
      go_enter Tryz.func67, Tryz.ntmps67
      go_wp2
      go_ret
      exact ⟨rfl, rfl⟩
  · have e2 : xEnd (s, err) = err := by unfold xEnd; rw [if_pos he]
    rw [e2]
    have hd : (err == 0) = false := by simpa using he
    clear e2 he
    go_enter Tryz.func67, Tryz.ntmps67
    go_wp2
    go_ret
    exact ⟨rfl, rfl⟩
end Go.Proofs.YtkbbeioednhefaaGreatDoor.oct

namespace Go.Proofs.YtkbbeioednhefaaGreatDoor.vt
open Go.RowKit Go.Proofs.YtkbbeioednhefaaGreatDoor.mem Go.Proofs.YtkbbeioednhefaaGreatDoor.sha Go.Proofs.YtkbbeioednhefaaGreatDoor.strx Go.Proofs.YtkbbeioednhefaaGreatDoor.rows Go.Proofs.YtkbbeioednhefaaGreatDoor.ids Go.Proofs.YtkbbeioednhefaaGreatDoor.rcd Go.Proofs.YtkbbeioednhefaaGreatDoor.jn Go.Proofs.YtkbbeioednhefaaGreatDoor.txl
open Go.Proofs.YtkbbeioednhefaaGreatDoor.opn (b4 rdN endE RdrS Sr num4_s num4_r)

theorem sr_end {x : ByteArray × Int} {st : opn.St} (h : Sr x st) : oct.xEnd x = endE st := by
  obtain ⟨s, e⟩ := x
  obtain ⟨l, k⟩ := st
  obtain ⟨h1, h2⟩ := h
  simp only at h1 h2
  subst h1
  unfold oct.xEnd endE
  by_cases h0 : k = 0
  · subst h0
    rw [h2 rfl]
    simp only [oct.tx_size]
    by_cases hl : l = []
    · subst hl; rfl
    · have : 0 < l.length := List.length_pos_iff.2 hl
      simp [this, hl]
  · simp [h0]
theorem end_s {w : World} {g : Nat} {st : opn.St} (h : RdrS w g st) : Calls Tryz.prog 67 #[.pointer (some ⟨g, 0, none⟩)] w fun e w' => e = .returned (.int .i64 (endE st)) ∧ w = w' := by
  obtain ⟨s, e, hb, hs⟩ := h
  rw [← sr_end hs]
  exact oct.xend_any g s e w hb
theorem any2_succ (L : List Rc) (i : Nat) (h : i < L.length) : (L.take (i + 1)).any (fun x => decide (x.k = 2)) = ((L.take i).any (fun x => decide (x.k = 2)) || decide ((L.getD i zrc).k = 2)) := by
  rw [List.take_succ_eq_append_getElem h, List.any_append, List.getD_eq_getElem?_getD, List.getElem?_eq_getElem h]
  simp
set_option maxHeartbeats 4000000 in
set_option maxRecDepth 100000 in
theorem number_ref {v : Value} {L : List Rc} {w : World} (hR : RcV w v L) (hl : L.length ≤ 1000000) : Calls Tryz.prog 44 #[v] w fun e w' => e = .returned (.int .i64 (numV L)) ∧ Below w.heap.size w w' := by
  obtain ⟨ad, cap, rfl, hC⟩ := hR
  cases L with
  | nil =>
    go_enter Tryz.func44, Tryz.ntmps44
    go_wp2_with fail
    go_ret
    exact ⟨rfl, Below.refl _ _⟩
  | cons r t =>
    obtain ⟨b, off, rfl, hbl, a0, a1⟩ := hC 0 (by simp)
    simp only [List.getD_cons_zero] at a0 a1
    rw [Nat.zero_mul, Nat.add_zero] at a0 a1
    obtain ⟨n, hn⟩ : ∃ n, n = (r :: t).length := ⟨_, rfl⟩
    have hn1 : 1 ≤ n := by rw [hn]; simp
    have HN := Lib.hid hn
    have HC := Lib.hid hC
    rw [← hn] at hl ⊢
    have n0 : ¬ (n : Int) = 0 := by omega
    have n1 : (0 : Int) < (n : Int) := by omega
    obtain ⟨ans, hans⟩ : ∃ a, a = numV (r :: t) := ⟨_, rfl⟩
    rw [← hans]
    have hans2 : ans = (if r.k ≠ 1 then (-1 : Int) else if endE (rdN 4 (r.body, 0)).2 ≠ 0 then -1 else if (r :: t).any (fun x => decide (x.k = 2)) = true then (rdN 4 (r.body, 0)).1 else -1) := hans
    clear hans hn hC
    by_cases hk : r.k = 1
    case neg =>
      have HA := Lib.hid (show ans = -1 by rw [hans2, if_pos hk])
      obtain ⟨rk, hrk⟩ : ∃ x, x = r.k := ⟨_, rfl⟩
      rw [← hrk] at hk a0
      have hk1 : (rk == 1) = false := by simpa using hk
      have hk2 : (rk != 1) = true := by simpa using hk
      have hn0 : ((n : Int) == 0) = false := by simpa using n0
      clear hans2 hrk hk n0
      go_enter Tryz.func44, Tryz.ntmps44
      go_wp2_with fail
      go_ret
      exact ⟨by rw [HA.out]; rfl, Below.refl _ _⟩
    rw [if_neg (by simpa using hk)] at hans2
    rw [hk] at a0
    obtain ⟨x, hx⟩ : ∃ x, x = oct.tx r.body := ⟨_, rfl⟩
    rw [← hx] at a1
    have hb1 : Below w.heap.size w (w.alloc (.cells #[.string x, .int .i64 0] 112)) := (Below.refl _ w).alloc (Nat.le_refl _) _
    have hRS : RdrS (w.alloc (.cells #[.string x, .int .i64 0] 112)) w.heap.size (r.body, 0) := ⟨x, 0, Blk.new w _ _, rfl, fun _ => hx⟩
    obtain ⟨u, hu⟩ : ∃ u, u = w.alloc (.cells #[.string x, .int .i64 0] 112) := ⟨_, rfl⟩
    rw [← hu] at hb1 hRS
    have HU := Lib.hid hu
    have HB1 := Lib.hid hb1
    have HNM := Lib.hid (num4_s w.heap.size (r.body, 0) u hRS)
    have HEN := Lib.hid fun u1 (h : RdrS u1 w.heap.size (rdN 4 (r.body, 0)).2) => end_s h
    obtain ⟨q, hq⟩ : ∃ q, q = (rdN 4 (r.body, 0)).1 := ⟨_, rfl⟩
    obtain ⟨f, hf⟩ : ∃ f, f = endE (rdN 4 (r.body, 0)).2 := ⟨_, rfl⟩
    rw [← hq] at HNM hans2
    rw [← hf] at HEN hans2
    have HANS := Lib.hid hans2
    have HRK := Lib.hid hk
    have hn0 : ((n : Int) == 0) = false := by simpa using n0
    have hX0 : oct.XBlk u w.heap.size x 0 := by rw [hu]; exact Blk.new w _ _
    clear hans2 hu hb1 hRS hx hq hf hk n0 hX0
    go_enter Tryz.func44, Tryz.ntmps44
    go_upto_region 4 with fail
    rw [← HU.out]
    go_upto_region 5 with (go_at_call 66; (with_reducible refine HNM.out.mono ?_); rintro e w1 ⟨rfl, hRS1, hT1⟩; have HRS1 := Lib.hid hRS1; have HT1 := Lib.hid hT1; clear hRS1 hT1)
    have HB2 := Lib.hid (HB1.out.trans (HT1.out.below (B := w.heap.size) fun k hk => by rw [hk]; exact Nat.le_refl _))
    by_cases hf : f = 0
    case neg =>
      have HA := Lib.hid (show ans = -1 by rw [HANS.out, if_pos hf])
      have hf1 : (f == 0) = false := by simpa using hf
      have hf2 : (f != 0) = true := by simpa using hf
      clear hf
      go_wp2_with (go_at_call 67; (with_reducible refine (HEN.out _ HRS1.out).mono ?_); rintro e w2 ⟨rfl, rfl⟩)
      go_ret
      exact ⟨by rw [HA.out]; rfl, HB2.out⟩
    have HF := Lib.hid hf
    rw [hf] at HEN
    clear hf
    go_wp2_with (go_at_call 67; (with_reducible refine (HEN.out _ HRS1.out).mono ?_); rintro e w2 ⟨rfl, rfl⟩)
    go_loopg [5] (n + 1) (fun gk s5 wr => w1 = wr ∧ ∃ i : Nat, s5 = .int .i64 i ∧ i ≤ n ∧ n - i < gk ∧ Hid (((r :: t).take i).any (fun x => decide (x.k = 2)) = false))
    case atStart => exact ⟨rfl, 0, rfl, Nat.zero_le _, by omega, Lib.hid rfl⟩
    case round =>
      obtain ⟨rfl, i, rfl, hi, hgk, HE⟩ := hrel
      have i0 : (0 : Int) ≤ (i : Int) := Int.natCast_nonneg _
      by_cases hlt : i < n
      · have hltz : (i : Int) < (n : Int) := by omega
        obtain ⟨b2, off2, e2, hbl2, c0, c1⟩ := HC.out i (by have := HN.out; omega)
        cases e2
        replace c0 := (HB2.out.cell (p := ⟨b, off + i * 2, none⟩) hbl).trans c0
        obtain ⟨ki, hki⟩ : ∃ k, k = ((r :: t).getD i zrc).k := ⟨_, rfl⟩
        rw [← hki] at c0
        have hsu := any2_succ (r :: t) i (by have := HN.out; omega)
        rw [HE.out, Bool.false_or, ← hki] at hsu
        by_cases hk2 : ki = 2
        · have HA := Lib.hid (show ans = q by
            rw [HANS.out, if_neg (by rw [HF.out]; simp), if_pos]
            obtain ⟨x, hx, hfx⟩ := List.any_eq_true.1 (hsu.trans (decide_eq_true hk2))
            exact List.any_eq_true.2 ⟨x, List.mem_of_mem_take hx, hfx⟩)
          subst hk2
          clear hki hsu c1
          go_wp2_with fail
          go_ret
          exact ⟨by rw [HA.out]; rfl, HB2.out⟩
        · have hk2' : (ki == 2) = false := by simpa using hk2
          have HS := Lib.hid (hsu.trans (decide_eq_false hk2))
          clear hki hsu c1 hk2
          go_wp2_with fail
          go_roundg (n - i)
          case measure => omega
          case rel => exact ⟨rfl, i + 1, by go_num, hlt, by omega, HS⟩
      · have hlt' : ¬ (i : Int) < (n : Int) := by omega
        have HA := Lib.hid (show ans = -1 by
          rw [HANS.out, if_neg (by rw [HF.out]; simp), if_neg]
          have h1 := HE.out
          rw [List.take_of_length_le (by have := HN.out; omega)] at h1
          rw [h1]; simp)
        go_wp2_with fail
        go_ret
        exact ⟨by rw [HA.out]; rfl, HB2.out⟩
/-- one record as the answer -/
theorem results_rec {fn : Func} {p : Tmp} (h : fn.results = #[.cell p 66]) (tmps : Array Value) (w : World) (g : Nat) (r : Rc)
    (hp : tmps.getD p undef = .pointer (some ⟨g, 0, none⟩)) (hg : Blk w g 66 #[.int .i64 r.k, .string (oct.tx r.body)]) :
    (results fn tmps).run Tryz.prog w = .ok (recv r) w := by
  have hp' : tmps[p]?.getD undef = .pointer (some ⟨g, 0, none⟩) := by simpa using hp
  have hl := run_loadVar_row w g 66 66 #[.int .i64 r.k, .string (oct.tx r.body)] (0, 0) _ hg Tryz.underlying66 rfl (by kernel_rfl)
  simp [results, h, hp', asAddr, hl, recv]
set_option maxHeartbeats 4000000 in
set_option maxRecDepth 100000 in
theorem gen_ref (n : Int) (h0 : 0 ≤ n) (h1 : n < 4294967296) (w : World) : Calls Tryz.prog 26 #[.int .i64 n] w fun e w' => e = .returned (recv (genR n)) ∧ Below w.heap.size w w' := by
  have HN := Lib.hid fun u => num4_r n h0 h1 u
  obtain ⟨t, ht⟩ : ∃ t, t = oct.tx (b4 n) := ⟨_, rfl⟩
  rw [← ht] at HN
  have HT := Lib.hid ht
  have hb1 : Below w.heap.size w (w.alloc (.cells #[.int .i64 0, .string ⟨#[]⟩] 66)) := (Below.refl _ w).alloc (Nat.le_refl _) _
  have hB := Blk.new w 66 #[.int .i64 0, .string ⟨#[]⟩]
  obtain ⟨u, hu⟩ : ∃ u, u = w.alloc (.cells #[.int .i64 0, .string ⟨#[]⟩] 66) := ⟨_, rfl⟩
  rw [← hu] at hb1 hB
  have HU := Lib.hid hu
  have HB := Lib.hid hb1
  have HBL := Lib.hid hB
  clear ht hu hb1 hB h0 h1
  go_enter Tryz.func26, Tryz.ntmps26
  go_upto_region 1 with fail
  rw [← HU.out]
  go_wp2_with (go_at_call 53; (with_reducible refine (HN.out _).mono ?_); rintro e w1 ⟨rfl, hb2⟩; have hB1 := Blk.below HBL.out hb2 (Blk.lt HBL.out); have c0 : w1.cell? ⟨w.heap.size, 0, none⟩ = some (.int .i64 0) := hB1.cell 0; have c1 : w1.cell? ⟨w.heap.size, 1, none⟩ = some (.string ⟨#[]⟩) := hB1.cell 1; have f0 := hB1.frozen 0; have f1 := hB1.frozen 1; have HB1 := Lib.hid hB1; have HB2 := Lib.hid hb2; clear hB1 hb2)
  have hfin := ((Blk.set_ HB1.out 0 (.int .i64 1)).set_ 1 (.string t))
  refine bodyPost_ret (results_rec rfl _ _ w.heap.size (genR n) rfl (by rw [show oct.tx (genR n).body = t from HT.out.symm]; exact hfin)) rfl ⟨rfl, ?_⟩
  have h2 := HB.out.trans (HB2.out.mono HB.out.size)
  exact (h2.setCell (p := ⟨w.heap.size, 0, none⟩) (Nat.le_refl _) _).setCell (p := ⟨w.heap.size, 1, none⟩) (Nat.le_refl _) _
theorem held_snoc (L : List Rc) (i : Nat) (h : i < L.length) : heldV (L.take (i + 1)) = heldV (L.take i) ++ (if (L.getD i zrc).k = 3 then [(L.getD i zrc).body] else []) := by
  unfold heldV
  rw [List.take_succ_eq_append_getElem h, List.filter_append, List.map_append, List.getD_eq_getElem?_getD, List.getElem?_eq_getElem h]
  congr 1
  by_cases h3 : (L[i]).k = 3 <;> simp [List.filter, h3]
set_option maxHeartbeats 4000000 in
set_option maxRecDepth 100000 in
theorem held_ref {v : Value} {L : List Rc} {w : World} (hR : RcV w v L) (hl : L.length ≤ 100000) : Calls Tryz.prog 45 #[v] w fun e w' => ∃ m, e = .returned m ∧ OwnT w' (w.heap.size ≤ ·) m (heldV L) ∧ Below w.heap.size w w' := by
  obtain ⟨ad, cap, rfl, hC⟩ := hR
  obtain ⟨n, hn⟩ : ∃ n, n = L.length := ⟨_, rfl⟩
  have HN := Lib.hid hn
  have HC := Lib.hid hC
  rw [← hn] at hl ⊢
  have n0 : (0 : Int) ≤ (n : Int) := Int.natCast_nonneg _
  clear hn hC
  go_enter Tryz.func45, Tryz.ntmps45
  go_wp2_with fail
  go_loopg [3, 4] (n + 1) (fun gk s3 s4 wr => ∃ i : Nat, s4 = .int .i64 i ∧ i ≤ n ∧ n - i < gk ∧ Hid (OwnT wr (w.heap.size ≤ ·) s3 (heldV (L.take i))) ∧ Hid (Below w.heap.size w wr))
  case atStart => exact ⟨0, rfl, Nat.zero_le _, by omega, Lib.hid (OwnK.nil _ _ _ _), Lib.hid (Below.refl _ _)⟩
  case round =>
    obtain ⟨i, rfl, hi, hgk, HO, HB⟩ := hrel
    have i0 : (0 : Int) ≤ (i : Int) := Int.natCast_nonneg _
    by_cases hlt : i < n
    · have hltz : (i : Int) < (n : Int) := by omega
      obtain ⟨b, off, rfl, hbl, a0, a1⟩ := HC.out i (by have := HN.out; omega)
      replace a0 := (HB.out.cell (p := ⟨b, off + i * 2, none⟩) hbl).trans a0
      replace a1 := (HB.out.cell (p := ⟨b, off + i * 2 + 1, none⟩) hbl).trans a1
      have hsn := held_snoc L i (by have := HN.out; omega)
      obtain ⟨ki, hki⟩ : ∃ k, k = (L.getD i zrc).k := ⟨_, rfl⟩
      obtain ⟨bi, hbi⟩ : ∃ k, k = (L.getD i zrc).body := ⟨_, rfl⟩
      rw [← hki] at a0 hsn
      rw [← hbi] at a1 hsn
      obtain ⟨t, ht⟩ : ∃ t, t = oct.tx bi := ⟨_, rfl⟩
      have htb : t.data.toList = bi := by rw [ht, oct.tx_list]
      rw [← ht] at a1
      by_cases hk3 : ki = 3
      · subst hk3
        rw [if_pos rfl] at hsn
        have hln : (heldV (L.take i)).length < 1000000 := by
          have h1 : (heldV (L.take i)).length ≤ (L.take i).length := by unfold heldV; rw [List.length_map]; exact List.length_filter_le _ _
          rw [List.length_take] at h1
          omega
        obtain ⟨v', w', hrun, hO', hT'⟩ := push_tx HO.out t hln
        rw [htb, ← hsn] at hO'
        have HO' := Lib.hid (OwnK.place hO' (G := (w.heap.size ≤ ·)) fun k hk => (hO'.2.2 k hk).elim (fun e => HO.out.2.2 k e) (fun e => Nat.le_trans HB.out.size e))
        have HB' := Lib.hid (HB.out.trans (hT'.below (B := w.heap.size) fun k hk => hk.elim (fun e => HO.out.2.2 k e) (fun e => Nat.le_trans HB.out.size e)))
        clear hki hbi ht htb hsn hln hO' hT'
        go_wp2_with ((with_reducible refine step_append (s := .tmp 17) (x := .tmp 23) (t := 33) (vs := ?as1) (vx := ?ax1) (v' := ?av1) (w' := ?aw1) ?ag1 ?ao1 ?ap1 ?aq1 ?ar1 ?ah1); (case ag1 => rfl); (case ao1 => rfl); (case ap1 => rfl); (case aq1 => rfl); (case ar1 => exact hrun))
        go_roundg (n - i)
        case measure => omega
        case rel => exact ⟨i + 1, by go_num, hlt, by omega, HO', HB'⟩
      · have hk3' : (ki == 3) = false := by simpa using hk3
        rw [if_neg hk3, List.append_nil] at hsn
        have HO' := HO
        rw [← hsn] at HO'
        clear hki hbi ht htb hsn hk3
        go_wp2_with fail
        go_roundg (n - i)
        case measure => omega
        case rel => exact ⟨i + 1, by go_num, hlt, by omega, HO', HB⟩
    · have hlt' : ¬ (i : Int) < (n : Int) := by omega
      have HO' := HO
      rw [List.take_of_length_le (by have := HN.out; omega)] at HO'
      go_wp2_with fail
      go_ret
      exact ⟨_, rfl, HO'.out, HB.out⟩
end Go.Proofs.YtkbbeioednhefaaGreatDoor.vt
