/-
  The landed header: Check.
-/
import Derived.Test.YtmaolmogccknbaaDoorHld0
import Derived.WalkMore
import Derived.Laws.EntriesVeiled
namespace Go.Proofs.YtmaolmogccknbaaDoor.hdr
open Go.RowKit Go.Proofs.YtmaolmogccknbaaDoor.mem Go.Proofs.YtmaolmogccknbaaDoor.sha Go.Proofs.YtmaolmogccknbaaDoor.ids
open Go.Proofs.YtmaolmogccknbaaDoor.opn (b1 b2 b4 num txt idl byte rd rdN rdT rdI rdS rdL St Reads Stays endE zid mkId)

set_option maxHeartbeats 4000000 in
set_option maxRecDepth 100000 in
theorem lcheck_any (h : Hd) (v : Value) (w : World) (hT : Tabs w) (hr : h.commit.length = 32) (hv : RdV w v h.parents) (hm : h.parents.length ≤ 1000) (hs : h.topic.length ≤ 140737488351232) :
    Calls Tryd.prog 27 #[hdv h v] w fun e w' => e = .returned (.int .i64 (checkH h)) ∧ Below w.heap.size w w' := by
  obtain ⟨X, hX⟩ : ∃ S, S = w.heap.size := ⟨_, rfl⟩
  obtain ⟨w1, hw1⟩ : ∃ u, u = w.alloc (.cells (hdc h v).toArray 46) := ⟨_, rfl⟩
  have hb1 : Blk w1 X 46 (hdc h v).toArray := by rw [hw1, hX]; exact Blk.new w _ _
  have hbl : Below w.heap.size w w1 := by rw [hw1]; exact (Below.refl _ _).alloc (Nat.le_refl _) _
  have hld := run_load_hd hb1 hr
  have hfl := flaws_any h v w1
  obtain ⟨S, hS⟩ : ∃ S, S = w1.heap.size := ⟨_, rfl⟩
  rw [← hS] at hfl
  obtain ⟨w2, hw2⟩ : ∃ u, u = (w1.alloc (.cells (hdc h v).toArray 46)).alloc (.cells (flawsV S).toArray 96) := ⟨_, rfl⟩
  rw [← hw2] at hfl
  have hb2 : Below w1.heap.size w1 w2 := by rw [hw2]; exact ((Below.refl _ _).alloc (Nat.le_refl _) _).alloc (by simp) _
  have hf : FlS h v w S (S + 1) w2 := by
    refine ⟨(hT.next hbl).next hb2, ?_, ?_, (hv.next hbl).next hb2, hbl.trans (hb2.mono hbl.size)⟩
    · rw [hw2, hS]; exact (Blk.new w1 _ _).alloc _
    · rw [hw2, hS]; exact Blk.at_ (by simp) _ _
  have HF := Lib.hid hf
  have HFL := Lib.hid hfl
  have HW := Lib.hid hw1
  have HXX := Lib.hid hX
  clear hT hv hb1 hbl hfl hS hw2 hb2 hf hw1 hX
  unfold hdv
  obtain ⟨c, hc⟩ : ∃ c, c = (hdc h v).toArray := ⟨_, rfl⟩
  have HC := Lib.hid hc
  rw [← hc] at HW
  unfold hdv at hld HFL
  rw [← hc] at hld HFL ⊢
  clear hc
  go_enter Tryd.func27, Tryd.ntmps27
  go_upto_region 1 with fail
  refine wp_at HW.out.symm ?_
  rw [← HXX.out]
  clear HW
  go_step3
  go_wp2_with fail
  go_step3
  go_wp2_with (first
    | ((with_reducible refine step_load (t := 46) (x := .tmp 1) (p := ?lp1) (v := ?lv1) ?lg1 ?lo1 ?lx1 ?lr1 ?lh1); (case lg1 => rfl); (case lo1 => rfl); (case lx1 => rfl); (case lr1 => exact hld))
    | (go_at_call 68; (with_reducible refine HFL.out.mono ?_); rintro e w3 ⟨rfl, rfl⟩))
  clear hld HFL
  go_loopw [3, 9] (fun e i wr => ∃ k : Int, 0 ≤ k ∧ k ≤ 8 ∧ e = .int .i64 0 ∧ i = .int .i64 k ∧ FlS h v w S (S + 1) wr ∧ ∀ j : Nat, (j : Int) < k → flawB h j = false) (fun _ i _ => 8 - (intOf i).toNat)
  case atStart => exact ⟨0, by decide, by decide, rfl, rfl, HF.out, fun j hj => by omega⟩
  case round =>
    clear HF
    obtain ⟨k, h0, h8, rfl, rfl, hf, hno⟩ := hrel
    have HF := Lib.hid hf
    have HNO := Lib.hid hno
    have c0 := fun j => hf.cell j
    clear hf hno
    by_cases hlt : k < 8
    · rcases (show k = 0 ∨ k = 1 ∨ k = 2 ∨ k = 3 ∨ k = 4 ∨ k = 5 ∨ k = 6 ∨ k = 7 by omega) with rfl | rfl | rfl | rfl | rfl | rfl | rfl | rfl
      · have d0 : wr.cell? ⟨S + 1, 0, none⟩ = some (.int .i64 6) := c0 0
        have d1 : wr.cell? ⟨S + 1, 1, none⟩ = some (.func (.func 92) #[] #[.pointer (some ⟨S, 0, none⟩)]) := c0 1
        have f4 : FlS h v w S (S + 1) (wr.alloc (.cells #[.int .i64 6, .func (.func 92) #[] #[.pointer (some ⟨S, 0, none⟩)]] 96)) := HF.out.next ((Below.refl _ _).alloc (Nat.le_refl _) _)
        have hk4 : Blk (wr.alloc (.cells #[.int .i64 6, .func (.func 92) #[] #[.pointer (some ⟨S, 0, none⟩)]] 96)) wr.heap.size 96 #[.int .i64 6, .func (.func 92) #[] #[.pointer (some ⟨S, 0, none⟩)]] := Blk.new wr _ _
        have HK := Lib.hid (flaw1 h v _ S f4.hd hr f4.rd)
        have F4 := Lib.hid f4
        have K4 := Lib.hid hk4
        unfold ptr at HK
        clear c0 f4 hk4 HF
        cases hq : flawB h 0 with
        | true =>
          have HE := Lib.hid (checkH_0 h HNO.out hq)
          rw [hq] at HK
          clear hq
          go_wp2_with (go_at_call 92; (with_reducible refine HK.out.mono ?_); rintro e w5 ⟨rfl, hb5⟩; have d5 : w5.cell? ⟨wr.heap.size, 0, none⟩ = some (.int .i64 6) := (K4.out.below hb5 K4.out.lt).cell 0; have F5 := Lib.hid (F4.out.next hb5); clear hb5)
          rw [Exit.noGoto_ret]
          go_ret
          exact ⟨by rw [HE.out]; rfl, F5.out.below⟩
        | false =>
          rw [hq] at HK
          have HQ := Lib.hid hq
          clear hq
          go_wp2_with (go_at_call 92; (with_reducible refine HK.out.mono ?_); rintro e w5 ⟨rfl, hb5⟩; have F5 := Lib.hid (F4.out.next hb5); clear hb5)
          go_roundw
          case rel => exact ⟨1, by decide, by decide, rfl, rfl, F5.out, fun j hj => by
            by_cases hj2 : j = 0
            · rw [hj2]; exact HQ.out
            · exact HNO.out j (by omega)⟩
          case measure => simp [intOf]
      · have d0 : wr.cell? ⟨S + 1, 2, none⟩ = some (.int .i64 4) := c0 2
        have d1 : wr.cell? ⟨S + 1, 3, none⟩ = some (.func (.func 93) #[] #[.pointer (some ⟨S, 0, none⟩)]) := c0 3
        have f4 : FlS h v w S (S + 1) (wr.alloc (.cells #[.int .i64 4, .func (.func 93) #[] #[.pointer (some ⟨S, 0, none⟩)]] 96)) := HF.out.next ((Below.refl _ _).alloc (Nat.le_refl _) _)
        have hk4 : Blk (wr.alloc (.cells #[.int .i64 4, .func (.func 93) #[] #[.pointer (some ⟨S, 0, none⟩)]] 96)) wr.heap.size 96 #[.int .i64 4, .func (.func 93) #[] #[.pointer (some ⟨S, 0, none⟩)]] := Blk.new wr _ _
        have HK := Lib.hid (flaw2 h v _ S f4.hd hr f4.rd hm)
        have F4 := Lib.hid f4
        have K4 := Lib.hid hk4
        unfold ptr at HK
        clear c0 f4 hk4 HF
        cases hq : flawB h 1 with
        | true =>
          have HE := Lib.hid (checkH_1 h HNO.out hq)
          rw [hq] at HK
          clear hq
          go_wp2_with (go_at_call 93; (with_reducible refine HK.out.mono ?_); rintro e w5 ⟨rfl, hb5⟩; have d5 : w5.cell? ⟨wr.heap.size, 0, none⟩ = some (.int .i64 4) := (K4.out.below hb5 K4.out.lt).cell 0; have F5 := Lib.hid (F4.out.next hb5); clear hb5)
          rw [Exit.noGoto_ret]
          go_ret
          exact ⟨by rw [HE.out]; rfl, F5.out.below⟩
        | false =>
          rw [hq] at HK
          have HQ := Lib.hid hq
          clear hq
          go_wp2_with (go_at_call 93; (with_reducible refine HK.out.mono ?_); rintro e w5 ⟨rfl, hb5⟩; have F5 := Lib.hid (F4.out.next hb5); clear hb5)
          go_roundw
          case rel => exact ⟨2, by decide, by decide, rfl, rfl, F5.out, fun j hj => by
            by_cases hj2 : j = 1
            · rw [hj2]; exact HQ.out
            · exact HNO.out j (by omega)⟩
          case measure => simp [intOf]
      · have d0 : wr.cell? ⟨S + 1, 4, none⟩ = some (.int .i64 12) := c0 4
        have d1 : wr.cell? ⟨S + 1, 5, none⟩ = some (.func (.func 94) #[] #[.pointer (some ⟨S, 0, none⟩)]) := c0 5
        have f4 : FlS h v w S (S + 1) (wr.alloc (.cells #[.int .i64 12, .func (.func 94) #[] #[.pointer (some ⟨S, 0, none⟩)]] 96)) := HF.out.next ((Below.refl _ _).alloc (Nat.le_refl _) _)
        have hk4 : Blk (wr.alloc (.cells #[.int .i64 12, .func (.func 94) #[] #[.pointer (some ⟨S, 0, none⟩)]] 96)) wr.heap.size 96 #[.int .i64 12, .func (.func 94) #[] #[.pointer (some ⟨S, 0, none⟩)]] := Blk.new wr _ _
        have HK := Lib.hid (flaw3 h v _ S f4.hd hr)
        have F4 := Lib.hid f4
        have K4 := Lib.hid hk4
        unfold ptr at HK
        clear c0 f4 hk4 HF
        cases hq : flawB h 2 with
        | true =>
          have HE := Lib.hid (checkH_2 h HNO.out hq)
          rw [hq] at HK
          clear hq
          go_wp2_with (go_at_call 94; (with_reducible refine HK.out.mono ?_); rintro e w5 ⟨rfl, hb5⟩; have d5 : w5.cell? ⟨wr.heap.size, 0, none⟩ = some (.int .i64 12) := (K4.out.below hb5 K4.out.lt).cell 0; have F5 := Lib.hid (F4.out.next hb5); clear hb5)
          rw [Exit.noGoto_ret]
          go_ret
          exact ⟨by rw [HE.out]; rfl, F5.out.below⟩
        | false =>
          rw [hq] at HK
          have HQ := Lib.hid hq
          clear hq
          go_wp2_with (go_at_call 94; (with_reducible refine HK.out.mono ?_); rintro e w5 ⟨rfl, hb5⟩; have F5 := Lib.hid (F4.out.next hb5); clear hb5)
          go_roundw
          case rel => exact ⟨3, by decide, by decide, rfl, rfl, F5.out, fun j hj => by
            by_cases hj2 : j = 2
            · rw [hj2]; exact HQ.out
            · exact HNO.out j (by omega)⟩
          case measure => simp [intOf]
      · have d0 : wr.cell? ⟨S + 1, 6, none⟩ = some (.int .i64 12) := c0 6
        have d1 : wr.cell? ⟨S + 1, 7, none⟩ = some (.func (.func 95) #[] #[.pointer (some ⟨S, 0, none⟩)]) := c0 7
        have f4 : FlS h v w S (S + 1) (wr.alloc (.cells #[.int .i64 12, .func (.func 95) #[] #[.pointer (some ⟨S, 0, none⟩)]] 96)) := HF.out.next ((Below.refl _ _).alloc (Nat.le_refl _) _)
        have hk4 : Blk (wr.alloc (.cells #[.int .i64 12, .func (.func 95) #[] #[.pointer (some ⟨S, 0, none⟩)]] 96)) wr.heap.size 96 #[.int .i64 12, .func (.func 95) #[] #[.pointer (some ⟨S, 0, none⟩)]] := Blk.new wr _ _
        have HK := Lib.hid (flaw4 h v _ S f4.hd hr f4.rd)
        have F4 := Lib.hid f4
        have K4 := Lib.hid hk4
        unfold ptr at HK
        clear c0 f4 hk4 HF
        cases hq : flawB h 3 with
        | true =>
          have HE := Lib.hid (checkH_3 h HNO.out hq)
          rw [hq] at HK
          clear hq
          go_wp2_with (go_at_call 95; (with_reducible refine HK.out.mono ?_); rintro e w5 ⟨rfl, hb5⟩; have d5 : w5.cell? ⟨wr.heap.size, 0, none⟩ = some (.int .i64 12) := (K4.out.below hb5 K4.out.lt).cell 0; have F5 := Lib.hid (F4.out.next hb5); clear hb5)
          rw [Exit.noGoto_ret]
          go_ret
          exact ⟨by rw [HE.out]; rfl, F5.out.below⟩
        | false =>
          rw [hq] at HK
          have HQ := Lib.hid hq
          clear hq
          go_wp2_with (go_at_call 95; (with_reducible refine HK.out.mono ?_); rintro e w5 ⟨rfl, hb5⟩; have F5 := Lib.hid (F4.out.next hb5); clear hb5)
          go_roundw
          case rel => exact ⟨4, by decide, by decide, rfl, rfl, F5.out, fun j hj => by
            by_cases hj2 : j = 3
            · rw [hj2]; exact HQ.out
            · exact HNO.out j (by omega)⟩
          case measure => simp [intOf]
      · have d0 : wr.cell? ⟨S + 1, 8, none⟩ = some (.int .i64 9) := c0 8
        have d1 : wr.cell? ⟨S + 1, 9, none⟩ = some (.func (.func 96) #[] #[.pointer (some ⟨S, 0, none⟩)]) := c0 9
        have f4 : FlS h v w S (S + 1) (wr.alloc (.cells #[.int .i64 9, .func (.func 96) #[] #[.pointer (some ⟨S, 0, none⟩)]] 96)) := HF.out.next ((Below.refl _ _).alloc (Nat.le_refl _) _)
        have hk4 : Blk (wr.alloc (.cells #[.int .i64 9, .func (.func 96) #[] #[.pointer (some ⟨S, 0, none⟩)]] 96)) wr.heap.size 96 #[.int .i64 9, .func (.func 96) #[] #[.pointer (some ⟨S, 0, none⟩)]] := Blk.new wr _ _
        have HK := Lib.hid (flaw5 h v _ S f4.t.2 f4.hd hr hs)
        have F4 := Lib.hid f4
        have K4 := Lib.hid hk4
        unfold ptr at HK
        clear c0 f4 hk4 HF
        cases hq : flawB h 4 with
        | true =>
          have HE := Lib.hid (checkH_4 h HNO.out hq)
          rw [hq] at HK
          clear hq
          go_wp2_with (go_at_call 96; (with_reducible refine HK.out.mono ?_); rintro e w5 ⟨rfl, hb5⟩; have d5 : w5.cell? ⟨wr.heap.size, 0, none⟩ = some (.int .i64 9) := (K4.out.below hb5 K4.out.lt).cell 0; have F5 := Lib.hid (F4.out.next hb5); clear hb5)
          rw [Exit.noGoto_ret]
          go_ret
          exact ⟨by rw [HE.out]; rfl, F5.out.below⟩
        | false =>
          rw [hq] at HK
          have HQ := Lib.hid hq
          clear hq
          go_wp2_with (go_at_call 96; (with_reducible refine HK.out.mono ?_); rintro e w5 ⟨rfl, hb5⟩; have F5 := Lib.hid (F4.out.next hb5); clear hb5)
          go_roundw
          case rel => exact ⟨5, by decide, by decide, rfl, rfl, F5.out, fun j hj => by
            by_cases hj2 : j = 4
            · rw [hj2]; exact HQ.out
            · exact HNO.out j (by omega)⟩
          case measure => simp [intOf]
      · have d0 : wr.cell? ⟨S + 1, 10, none⟩ = some (.int .i64 5) := c0 10
        have d1 : wr.cell? ⟨S + 1, 11, none⟩ = some (.func (.func 98) #[] #[.pointer (some ⟨S, 0, none⟩)]) := c0 11
        have f4 : FlS h v w S (S + 1) (wr.alloc (.cells #[.int .i64 5, .func (.func 98) #[] #[.pointer (some ⟨S, 0, none⟩)]] 96)) := HF.out.next ((Below.refl _ _).alloc (Nat.le_refl _) _)
        have hk4 : Blk (wr.alloc (.cells #[.int .i64 5, .func (.func 98) #[] #[.pointer (some ⟨S, 0, none⟩)]] 96)) wr.heap.size 96 #[.int .i64 5, .func (.func 98) #[] #[.pointer (some ⟨S, 0, none⟩)]] := Blk.new wr _ _
        have HK := Lib.hid (flaw6 h v _ S f4.hd hr)
        have F4 := Lib.hid f4
        have K4 := Lib.hid hk4
        unfold ptr at HK
        clear c0 f4 hk4 HF
        cases hq : flawB h 5 with
        | true =>
          have HE := Lib.hid (checkH_5 h HNO.out hq)
          rw [hq] at HK
          clear hq
          go_wp2_with (go_at_call 98; (with_reducible refine HK.out.mono ?_); rintro e w5 ⟨rfl, hb5⟩; have d5 : w5.cell? ⟨wr.heap.size, 0, none⟩ = some (.int .i64 5) := (K4.out.below hb5 K4.out.lt).cell 0; have F5 := Lib.hid (F4.out.next hb5); clear hb5)
          rw [Exit.noGoto_ret]
          go_ret
          exact ⟨by rw [HE.out]; rfl, F5.out.below⟩
        | false =>
          rw [hq] at HK
          have HQ := Lib.hid hq
          clear hq
          go_wp2_with (go_at_call 98; (with_reducible refine HK.out.mono ?_); rintro e w5 ⟨rfl, hb5⟩; have F5 := Lib.hid (F4.out.next hb5); clear hb5)
          go_roundw
          case rel => exact ⟨6, by decide, by decide, rfl, rfl, F5.out, fun j hj => by
            by_cases hj2 : j = 5
            · rw [hj2]; exact HQ.out
            · exact HNO.out j (by omega)⟩
          case measure => simp [intOf]
      · have d0 : wr.cell? ⟨S + 1, 12, none⟩ = some (.int .i64 5) := c0 12
        have d1 : wr.cell? ⟨S + 1, 13, none⟩ = some (.func (.func 99) #[] #[.pointer (some ⟨S, 0, none⟩)]) := c0 13
        have f4 : FlS h v w S (S + 1) (wr.alloc (.cells #[.int .i64 5, .func (.func 99) #[] #[.pointer (some ⟨S, 0, none⟩)]] 96)) := HF.out.next ((Below.refl _ _).alloc (Nat.le_refl _) _)
        have hk4 : Blk (wr.alloc (.cells #[.int .i64 5, .func (.func 99) #[] #[.pointer (some ⟨S, 0, none⟩)]] 96)) wr.heap.size 96 #[.int .i64 5, .func (.func 99) #[] #[.pointer (some ⟨S, 0, none⟩)]] := Blk.new wr _ _
        have HK := Lib.hid (flaw7 h v _ S f4.hd hr)
        have F4 := Lib.hid f4
        have K4 := Lib.hid hk4
        unfold ptr at HK
        clear c0 f4 hk4 HF
        cases hq : flawB h 6 with
        | true =>
          have HE := Lib.hid (checkH_6 h HNO.out hq)
          rw [hq] at HK
          clear hq
          go_wp2_with (go_at_call 99; (with_reducible refine HK.out.mono ?_); rintro e w5 ⟨rfl, hb5⟩; have d5 : w5.cell? ⟨wr.heap.size, 0, none⟩ = some (.int .i64 5) := (K4.out.below hb5 K4.out.lt).cell 0; have F5 := Lib.hid (F4.out.next hb5); clear hb5)
          rw [Exit.noGoto_ret]
          go_ret
          exact ⟨by rw [HE.out]; rfl, F5.out.below⟩
        | false =>
          rw [hq] at HK
          have HQ := Lib.hid hq
          clear hq
          go_wp2_with (go_at_call 99; (with_reducible refine HK.out.mono ?_); rintro e w5 ⟨rfl, hb5⟩; have F5 := Lib.hid (F4.out.next hb5); clear hb5)
          go_roundw
          case rel => exact ⟨7, by decide, by decide, rfl, rfl, F5.out, fun j hj => by
            by_cases hj2 : j = 6
            · rw [hj2]; exact HQ.out
            · exact HNO.out j (by omega)⟩
          case measure => simp [intOf]
      · have d0 : wr.cell? ⟨S + 1, 14, none⟩ = some (.int .i64 5) := c0 14
        have d1 : wr.cell? ⟨S + 1, 15, none⟩ = some (.func (.func 100) #[] #[.pointer (some ⟨S, 0, none⟩)]) := c0 15
        have f4 : FlS h v w S (S + 1) (wr.alloc (.cells #[.int .i64 5, .func (.func 100) #[] #[.pointer (some ⟨S, 0, none⟩)]] 96)) := HF.out.next ((Below.refl _ _).alloc (Nat.le_refl _) _)
        have hk4 : Blk (wr.alloc (.cells #[.int .i64 5, .func (.func 100) #[] #[.pointer (some ⟨S, 0, none⟩)]] 96)) wr.heap.size 96 #[.int .i64 5, .func (.func 100) #[] #[.pointer (some ⟨S, 0, none⟩)]] := Blk.new wr _ _
        have HK := Lib.hid (flaw8 h v _ S f4.hd hr)
        have F4 := Lib.hid f4
        have K4 := Lib.hid hk4
        unfold ptr at HK
        clear c0 f4 hk4 HF
        cases hq : flawB h 7 with
        | true =>
          have HE := Lib.hid (checkH_7 h HNO.out hq)
          rw [hq] at HK
          clear hq
          go_wp2_with (go_at_call 100; (with_reducible refine HK.out.mono ?_); rintro e w5 ⟨rfl, hb5⟩; have d5 : w5.cell? ⟨wr.heap.size, 0, none⟩ = some (.int .i64 5) := (K4.out.below hb5 K4.out.lt).cell 0; have F5 := Lib.hid (F4.out.next hb5); clear hb5)
          rw [Exit.noGoto_ret]
          go_ret
          exact ⟨by rw [HE.out]; rfl, F5.out.below⟩
        | false =>
          rw [hq] at HK
          have HQ := Lib.hid hq
          clear hq
          go_wp2_with (go_at_call 100; (with_reducible refine HK.out.mono ?_); rintro e w5 ⟨rfl, hb5⟩; have F5 := Lib.hid (F4.out.next hb5); clear hb5)
          go_roundw
          case rel => exact ⟨8, by decide, by decide, rfl, rfl, F5.out, fun j hj => by
            by_cases hj2 : j = 7
            · rw [hj2]; exact HQ.out
            · exact HNO.out j (by omega)⟩
          case measure => simp [intOf]
    · obtain rfl : k = 8 := by omega
      have HE := Lib.hid (checkH_none h HNO.out)
      clear hlt c0
      go_wp2_with fail
      try rw [Exit.noGoto_ret]
      go_ret
      exact ⟨by rw [HE.out]; rfl, HF.out.below⟩
end Go.Proofs.YtmaolmogccknbaaDoor.hdr
