/-
  The landed msg: Put.
-/
import Derived.Test.YtbfjljbllfjicaaMlc
import Derived.Test.YtbfjljbllfjicaaWiw
import Derived.Test.YtbfjljbllfjicaaOctxt
import Derived.Test.YtbfjljbllfjicaaMsof
import Derived.Deep.RegionHeld3
namespace Go.Proofs.Ytbfjljbllfjicaa.msg
open Go.RowKit Go.Proofs.Ytbfjljbllfjicaa.mem Go.Proofs.Ytbfjljbllfjicaa.sha Go.Proofs.Ytbfjljbllfjicaa.ids
open Go.Proofs.Ytbfjljbllfjicaa.opn (b1 b2 b4 num txt idl byte rd rdN rdT rdI rdS rdL St Reads Stays endE zid mkId wids_s wnum1_s WrIs.new b1_len b2_len)

theorem wtext2_s (F : Nat → Prop) (g : Nat) (out : List UInt8) (l : List UInt8) (w : World) (h : oct.WrIs w F g out 0) (hn : New F w) (hl : out.length ≤ 100000) (hs : l.length ≤ 65535) :
    Calls Try.prog 22 #[.pointer (some ⟨g, 0, none⟩), .string (oct.tx l)] w fun e w' => e = .returned (.pointer (some ⟨g, 0, none⟩)) ∧ oct.WrIs w' F g (out ++ txt2 l) 0 ∧ Turn F w w' := by
  have e : oct.textBytes (oct.tx l) = txt2 l := by
    unfold oct.textBytes txt2
    rw [oct.tx_size, oct.tx_list]
    rfl
  have := oct.text_good F g out (oct.tx l) w h hn (by rw [oct.tx_size]; omega) (by rw [oct.tx_size]; omega)
  rw [e] at this
  exact this
/-- what stands while a part is written: the message's box, the Writer behind it -/
structure MwP (S g : Nat) (m : Mg) (v : Value) (w0 : World) (out : List UInt8) (w : World) : Prop where
  mg : Blk w S 24 #[.int .i64 m.k, v, .string (oct.tx m.body)]
  wr : oct.WrIs w (g ≤ ·) g out 0
  turn : Turn (g ≤ ·) w0 w
  new : New (g ≤ ·) w
  Sg : S < g
section
variable {S g : Nat} {m : Mg} {v : Value} {w0 : World} {out out2 : List UInt8} {w w2 : World}
theorem MwP.next (p : MwP S g m v w0 out w) (ht : Turn (g ≤ ·) w w2) (hw : oct.WrIs w2 (g ≤ ·) g out2 0) : MwP S g m v w0 out2 w2 :=
  ⟨p.mg.turn ht (Nat.not_le.2 p.Sg), hw, p.turn.trans ht, p.new.turn ht, p.Sg⟩
theorem mw_num1 (p : MwP S g m v w0 out w) (hl : out.length ≤ 1000) (n : Int) (h0 : 0 ≤ n) (h1 : n < 256) :
    Calls Try.prog 19 #[.pointer (some ⟨g, 0, none⟩), .int .i64 n, .int .i64 1] w fun e w' => e = .returned (.pointer (some ⟨g, 0, none⟩)) ∧ MwP S g m v w0 (out ++ b1 n) w' := by
  refine (wnum1_s (g ≤ ·) g out n h0 h1 w p.wr p.new (by omega)).mono ?_
  rintro e w2 ⟨rfl, h2, ht⟩
  exact ⟨rfl, p.next ht h2⟩
theorem mw_ids (p : MwP S g m v w0 out w) (hl : out.length ≤ 1000) (L : List (List UInt8)) (hL : L.length ≤ 255) (hv : ∀ u, Turn (g ≤ ·) w0 u → RdV u v L) :
    Calls Try.prog 21 #[.pointer (some ⟨g, 0, none⟩), v] w fun e w' => e = .returned (.tuple #[]) ∧ MwP S g m v w0 (out ++ idl L) w' := by
  refine (wids_s (g ≤ ·) g out L v w p.wr p.new hl hL (fun u ht => hv u (p.turn.trans ht))).mono ?_
  rintro e w2 ⟨rfl, h2, ht⟩
  exact ⟨rfl, p.next ht h2⟩
theorem mw_text (p : MwP S g m v w0 out w) (hl : out.length ≤ 1000) (l : List UInt8) (hk : l.length ≤ 65535) :
    Calls Try.prog 22 #[.pointer (some ⟨g, 0, none⟩), .string (oct.tx l)] w fun e w' => e = .returned (.pointer (some ⟨g, 0, none⟩)) ∧ MwP S g m v w0 (out ++ txt2 l) w' := by
  refine (wtext2_s (g ≤ ·) g out l w p.wr p.new (by omega) hk).mono ?_
  rintro e w2 ⟨rfl, h2, ht⟩
  exact ⟨rfl, p.next ht h2⟩
end
set_option maxHeartbeats 4000000 in
set_option maxRecDepth 100000 in
theorem lput_any (m : Mg) (v : Value) (w : World) (hv : RdV w v m.ids) (hb : m.body.length ≤ 140737488351232) :
    Calls Try.prog 8 #[mgv m v] w fun e w' => e = .returned (.tuple #[.string (oct.tx (putM m).1), .int .i64 (putM m).2]) ∧ Below w.heap.size w w' := by
  obtain ⟨w1, hw1⟩ : ∃ u, u = w.alloc (.cells #[.int .i64 m.k, v, .string (oct.tx m.body)] 24) := ⟨_, rfl⟩
  obtain ⟨S, hS⟩ : ∃ S, S = w.heap.size := ⟨_, rfl⟩
  have hX : Blk w1 S 24 #[.int .i64 m.k, v, .string (oct.tx m.body)] := by rw [hw1, hS]; exact Blk.new w _ _
  have hB : Below w.heap.size w w1 := by rw [hw1]; exact (Below.refl _ _).alloc (Nat.le_refl _) _
  have hv1 := hv.next hB
  have hck := lcheck_any m v w1 hv1 hb
  have hld := run_load_mg hX
  obtain ⟨c, hc⟩ : ∃ c, checkM m = c := ⟨_, rfl⟩
  rw [hc] at hck
  obtain ⟨ad, cap, hvf⟩ := hv1.form
  have HVF := Lib.hid hvf
  have HX := Lib.hid hX
  have HB := Lib.hid hB
  have HS := Lib.hid hS
  have HW := Lib.hid hw1
  have HV := Lib.hid hv1
  have HCK := Lib.hid hck
  have HC := Lib.hid hc
  have HLD := Lib.hid hld
  have c0 := (MgBlk.of hX).k
  have c1 := (MgBlk.of hX).ids
  have c2 := (MgBlk.of hX).body
  have HH := Lib.hid (fun u => has_any m.k u)
  clear hX hB hw1 hS hv hv1 hck hc hb hld hvf
  by_cases h0 : c = 0
  · subst h0
    have h2 := check_two HC.out
    obtain ⟨o1, ho1⟩ : ∃ o, o = b1 m.k := ⟨_, rfl⟩
    have hl1 : o1.length ≤ 1 := by rw [ho1, b1_len]; exact Nat.le_refl _
    obtain ⟨k, hk⟩ : ∃ k, k = m.k := ⟨_, rfl⟩
    have hk0 : 0 ≤ k ∧ k < 256 := by rw [hk]; rcases h2 with ⟨_, a, b, _⟩ | ⟨_, a, b, _⟩ <;> omega
    have HK := Lib.hid hk0
    have HL1 := Lib.hid hl1
    have HO1 := Lib.hid ho1
    have HKK := Lib.hid hk
    clear hk0 hl1 ho1
    rcases h2 with ⟨a, -, -, d, e⟩ | ⟨a, -, -, d, e⟩
    · have HE : Hid (putM m = (o1 ++ idl m.ids, 0)) := Lib.hid (by rw [put_ok HC.out, HO1.out]; unfold enM tailM; rw [if_pos a])
      have HN := Lib.hid e
      rw [a] at HH
      clear a d e
      go_enter Try.func8, Try.ntmps8
      go_upto_region 1 with fail
      refine wp_at HW.out.symm ?_
      rw [← HS.out]
      clear HW
      go_upto_region 4 with (first
        | ((with_reducible refine step_load (t := 24) (x := .tmp 1) (p := ?lpq) (v := ?lvq) ?lgq ?loq ?lxq ?lrq ?lhq); (case lgq => rfl); (case loq => rfl); (case lxq => rfl); (case lrq => exact HLD.out))
        | (go_at_call 10; (with_reducible refine HCK.out.mono ?_); rintro e w2 ⟨rfl, hb2⟩))
      have hX2 := HX.out.below hb2 HX.out.lt
      have HX2 := Lib.hid hX2
      have HV2 := Lib.hid (HV.out.next hb2)
      have HB2 := Lib.hid (HB.out.trans (hb2.mono HB.out.size))
      clear hX2 hb2 c0 c1 c2
      refine wp_region_held_drew (S := fun u => Blk u S 24 #[.int .i64 m.k, v, .string (oct.tx m.body)]) (by kernel_rfl) ?_ (fun hHeld => ?_)
      · exact HX2.out
      refine' wpAnyH_take (i := 1) ?hiwq1 (by kernel_rfl) (by kernel_rfl) (by kernel_rfl) ?hqwq1 (Or.inl ⟨?hwwq1, ?hywq1⟩) (by assumption) ?hrwq1
      case hiwq1 => (simp only [List.getElem?_toArray, List.getElem?_cons_succ, List.getElem?_cons_zero]; rfl)
      case hqwq1 => exact fun _ _ _ h => h
      case hwwq1 => rfl
      case hywq1 => (intro w0 hSw; (try dsimp only at hSw); go_simp; try with_reducible rfl)
      (try simp only [Act.put, List.setIfInBounds_toArray, List.set_cons_zero, List.set_cons_succ])
      refine' wpAnyH_take (i := 2) ?hiwq2 (by kernel_rfl) (by kernel_rfl) (by kernel_rfl) ?hqwq2 (Or.inl ⟨?hwwq2, ?hywq2⟩) (by assumption) ?hrwq2
      case hiwq2 => (simp only [List.getElem?_toArray, List.getElem?_cons_succ, List.getElem?_cons_zero]; rfl)
      case hqwq2 => exact fun _ _ _ h => h
      case hwwq2 => rfl
      case hywq2 => exact fun w0 hSw => by have hc := (MgBlk.of hSw).k; go_simp; try with_reducible rfl
      (try simp only [Act.put, List.setIfInBounds_toArray, List.set_cons_zero, List.set_cons_succ])
      refine wpAnyH_ready (rs := [0]) (by kernel_rfl) (by simp) ?_
      refine' AllReadyH.cons ?hiwq0 (fun K hK => ?hrwq0) AllReadyH.nil
      case hiwq0 => (simp only [List.getElem?_toArray, List.getElem?_cons_succ, List.getElem?_cons_zero]; rfl)
      go_simp
      (with_reducible refine (oct.new_any _).mono ?_)
      rintro e w3 ⟨rfl, hw3, hb3⟩
      obtain ⟨g, hg⟩ : ∃ g, g = w2.heap.size := ⟨_, rfl⟩
      have hgd : w2.drew.heap.size = g := hg.symm
      rw [hgd] at hw3 hb3 ⊢
      have HG := Lib.hid hg
      have hp0 : MwP S g m v w2 [] w3 := ⟨(show Blk w2.drew S _ _ from HX2.out).below hb3 (by have := HX2.out.lt; omega), WrIs.new hw3 (Nat.le_refl _), (show Turn (g ≤ ·) w2 w2.drew from (Turn.refl _ w2).drewN 1).trans (Turn.fresh (by rw [hgd]; exact hb3) (fun b hb => by rw [hgd] at hb; exact hb)), fun b hb => by have := hb3.size; omega, by have := HX2.out.lt; omega⟩
      have hq := mw_num1 hp0 (by simp) k HK.out.1 HK.out.2
      rw [List.nil_append, HKK.out, ← HO1.out] at hq
      have HP0 := Lib.hid hp0
      have HQ := Lib.hid hq
      clear hq hp0 hw3 hb3 hg
      refine hK.out _ _ ?_ (fun hHeld => ?_)
      · exact HP0.out.mg
      clear hK K
      (try simp only [Act.put, List.setIfInBounds_toArray, List.set_cons_zero, List.set_cons_succ])
      refine wpAnyH_ready (rs := [3]) (by kernel_rfl) (by simp) ?_
      refine' AllReadyH.cons ?hiwq3 (fun K hK => ?hrwq3) AllReadyH.nil
      case hiwq3 => (simp only [List.getElem?_toArray, List.getElem?_cons_succ, List.getElem?_cons_zero]; rfl)
      go_simp
      (with_reducible refine HQ.out.mono ?_)
      rintro e w4 ⟨rfl, hp1⟩
      have HP1 := Lib.hid hp1
      clear hp1 HQ
      refine hK.out _ _ ?_ (fun hHeld => ?_)
      · exact HP1.out.mg
      clear hK K
      (try simp only [Act.put, List.setIfInBounds_toArray, List.set_cons_zero, List.set_cons_succ])
      refine' wpAnyH_take (i := 4) ?hiwq4 (by kernel_rfl) (by kernel_rfl) (by kernel_rfl) ?hqwq4 (Or.inl ⟨?hwwq4, ?hywq4⟩) (by assumption) ?hrwq4
      case hiwq4 => (simp only [List.getElem?_toArray, List.getElem?_cons_succ, List.getElem?_cons_zero]; rfl)
      case hqwq4 => exact fun _ _ _ h => h
      case hwwq4 => rfl
      case hywq4 => (intro w0 hSw; (try dsimp only at hSw); go_simp; try with_reducible rfl)
      (try simp only [Act.put, List.setIfInBounds_toArray, List.set_cons_zero, List.set_cons_succ])
      refine wpAnyH_done (by kernel_rfl) ?_ _
      clear hHeld
      have hk1 := (MgBlk.of HP1.out.mg).k
      have hi1 := (MgBlk.of HP1.out.mg).ids
      have hb1 := (MgBlk.of HP1.out.mg).body
      rw [HVF.out] at hi1
      have hvt : ∀ u, Turn (g ≤ ·) w2 u → RdV u v m.ids := fun u ht => by have h2 := HV2.out; rw [HVF.out] at h2 ⊢; exact h2.turn ht (fun b off _ hb hh => by have := HG.out; omega)
      have hq := mw_ids HP1.out (by have := HL1.out; omega) m.ids (Nat.le_trans HN.out (by decide)) hvt
      rw [HVF.out] at hq
      have HQ2 := Lib.hid hq
      clear hq hvt
      go_wp2_with (first
        | (go_at_call 20; (with_reducible refine (HH.out _).mono ?_); rintro e w5 ⟨rfl, rfl⟩)
        | (go_at_call 21; (with_reducible refine HQ2.out.mono ?_); rintro e w6 ⟨rfl, hp2⟩; have HP2 := Lib.hid hp2; have HD := Lib.hid (oct.done_good (g ≤ ·) g _ w6 hp2.wr); clear hp2)
        | (go_at_call 23; (with_reducible refine HD.out.mono ?_); rintro e w7 ⟨rfl, rfl⟩))
      go_ret2
      refine ⟨by rw [HE.out]; rfl, HB2.out.trans (HP2.out.turn.below fun b hb => ?_)⟩
      have := HB2.out.size
      have := HG.out
      omega
    · have HE : Hid (putM m = (o1 ++ txt2 m.body, 0)) := Lib.hid (by rw [put_ok HC.out, HO1.out]; unfold enM tailM; rw [if_neg (by rw [a]; decide)])
      have HN := Lib.hid e
      rw [a] at HH
      clear a d e
      go_enter Try.func8, Try.ntmps8
      go_upto_region 1 with fail
      refine wp_at HW.out.symm ?_
      rw [← HS.out]
      clear HW
      go_upto_region 4 with (first
        | ((with_reducible refine step_load (t := 24) (x := .tmp 1) (p := ?lpr) (v := ?lvr) ?lgr ?lor ?lxr ?lrr ?lhr); (case lgr => rfl); (case lor => rfl); (case lxr => rfl); (case lrr => exact HLD.out))
        | (go_at_call 10; (with_reducible refine HCK.out.mono ?_); rintro e w2 ⟨rfl, hb2⟩))
      have hX2 := HX.out.below hb2 HX.out.lt
      have HX2 := Lib.hid hX2
      have HV2 := Lib.hid (HV.out.next hb2)
      have HB2 := Lib.hid (HB.out.trans (hb2.mono HB.out.size))
      clear hX2 hb2 c0 c1 c2
      refine wp_region_held_drew (S := fun u => Blk u S 24 #[.int .i64 m.k, v, .string (oct.tx m.body)]) (by kernel_rfl) ?_ (fun hHeld => ?_)
      · exact HX2.out
      refine' wpAnyH_take (i := 1) ?hiwr1 (by kernel_rfl) (by kernel_rfl) (by kernel_rfl) ?hqwr1 (Or.inl ⟨?hwwr1, ?hywr1⟩) (by assumption) ?hrwr1
      case hiwr1 => (simp only [List.getElem?_toArray, List.getElem?_cons_succ, List.getElem?_cons_zero]; rfl)
      case hqwr1 => exact fun _ _ _ h => h
      case hwwr1 => rfl
      case hywr1 => (intro w0 hSw; (try dsimp only at hSw); go_simp; try with_reducible rfl)
      (try simp only [Act.put, List.setIfInBounds_toArray, List.set_cons_zero, List.set_cons_succ])
      refine' wpAnyH_take (i := 2) ?hiwr2 (by kernel_rfl) (by kernel_rfl) (by kernel_rfl) ?hqwr2 (Or.inl ⟨?hwwr2, ?hywr2⟩) (by assumption) ?hrwr2
      case hiwr2 => (simp only [List.getElem?_toArray, List.getElem?_cons_succ, List.getElem?_cons_zero]; rfl)
      case hqwr2 => exact fun _ _ _ h => h
      case hwwr2 => rfl
      case hywr2 => exact fun w0 hSw => by have hc := (MgBlk.of hSw).k; go_simp; try with_reducible rfl
      (try simp only [Act.put, List.setIfInBounds_toArray, List.set_cons_zero, List.set_cons_succ])
      refine wpAnyH_ready (rs := [0]) (by kernel_rfl) (by simp) ?_
      refine' AllReadyH.cons ?hiwr0 (fun K hK => ?hrwr0) AllReadyH.nil
      case hiwr0 => (simp only [List.getElem?_toArray, List.getElem?_cons_succ, List.getElem?_cons_zero]; rfl)
      go_simp
      (with_reducible refine (oct.new_any _).mono ?_)
      rintro e w3 ⟨rfl, hw3, hb3⟩
      obtain ⟨g, hg⟩ : ∃ g, g = w2.heap.size := ⟨_, rfl⟩
      have hgd : w2.drew.heap.size = g := hg.symm
      rw [hgd] at hw3 hb3 ⊢
      have HG := Lib.hid hg
      have hp0 : MwP S g m v w2 [] w3 := ⟨(show Blk w2.drew S _ _ from HX2.out).below hb3 (by have := HX2.out.lt; omega), WrIs.new hw3 (Nat.le_refl _), (show Turn (g ≤ ·) w2 w2.drew from (Turn.refl _ w2).drewN 1).trans (Turn.fresh (by rw [hgd]; exact hb3) (fun b hb => by rw [hgd] at hb; exact hb)), fun b hb => by have := hb3.size; omega, by have := HX2.out.lt; omega⟩
      have hq := mw_num1 hp0 (by simp) k HK.out.1 HK.out.2
      rw [List.nil_append, HKK.out, ← HO1.out] at hq
      have HP0 := Lib.hid hp0
      have HQ := Lib.hid hq
      clear hq hp0 hw3 hb3 hg
      refine hK.out _ _ ?_ (fun hHeld => ?_)
      · exact HP0.out.mg
      clear hK K
      (try simp only [Act.put, List.setIfInBounds_toArray, List.set_cons_zero, List.set_cons_succ])
      refine wpAnyH_ready (rs := [3]) (by kernel_rfl) (by simp) ?_
      refine' AllReadyH.cons ?hiwr3 (fun K hK => ?hrwr3) AllReadyH.nil
      case hiwr3 => (simp only [List.getElem?_toArray, List.getElem?_cons_succ, List.getElem?_cons_zero]; rfl)
      go_simp
      (with_reducible refine HQ.out.mono ?_)
      rintro e w4 ⟨rfl, hp1⟩
      have HP1 := Lib.hid hp1
      clear hp1 HQ
      refine hK.out _ _ ?_ (fun hHeld => ?_)
      · exact HP1.out.mg
      clear hK K
      (try simp only [Act.put, List.setIfInBounds_toArray, List.set_cons_zero, List.set_cons_succ])
      refine' wpAnyH_take (i := 4) ?hiwr4 (by kernel_rfl) (by kernel_rfl) (by kernel_rfl) ?hqwr4 (Or.inl ⟨?hwwr4, ?hywr4⟩) (by assumption) ?hrwr4
      case hiwr4 => (simp only [List.getElem?_toArray, List.getElem?_cons_succ, List.getElem?_cons_zero]; rfl)
      case hqwr4 => exact fun _ _ _ h => h
      case hwwr4 => rfl
      case hywr4 => (intro w0 hSw; (try dsimp only at hSw); go_simp; try with_reducible rfl)
      (try simp only [Act.put, List.setIfInBounds_toArray, List.set_cons_zero, List.set_cons_succ])
      refine wpAnyH_done (by kernel_rfl) ?_ _
      clear hHeld
      have hk1 := (MgBlk.of HP1.out.mg).k
      have hi1 := (MgBlk.of HP1.out.mg).ids
      have hb1 := (MgBlk.of HP1.out.mg).body
      rw [HVF.out] at hi1
      have hq := mw_text HP1.out (by have := HL1.out; omega) m.body (Nat.le_trans HN.out (by decide))
      have HQ2 := Lib.hid hq
      clear hq
      go_wp2_with (first
        | (go_at_call 20; (with_reducible refine (HH.out _).mono ?_); rintro e w5 ⟨rfl, rfl⟩)
        | (go_at_call 22; (with_reducible refine HQ2.out.mono ?_); rintro e w6 ⟨rfl, hp2⟩; have HP2 := Lib.hid hp2; have HD := Lib.hid (oct.done_good (g ≤ ·) g _ w6 hp2.wr); clear hp2)
        | (go_at_call 23; (with_reducible refine HD.out.mono ?_); rintro e w7 ⟨rfl, rfl⟩))
      go_ret2
      refine ⟨by rw [HE.out]; rfl, HB2.out.trans (HP2.out.turn.below fun b hb => ?_)⟩
      have := HB2.out.size
      have := HG.out
      omega
  · have hne : (c != 0) = true := bne_iff_ne.2 h0
    have HE : Hid (putM m = ([], c)) := Lib.hid (by rw [put_no (by rw [HC.out]; exact h0), HC.out])
    clear h0
    go_enter Try.func8, Try.ntmps8
    go_upto_region 1 with fail
    refine wp_at HW.out.symm ?_
    rw [← HS.out]
    clear HW
    go_wp2_with (first
      | ((with_reducible refine step_load (t := 24) (x := .tmp 1) (p := ?lpp3) (v := ?lvp3) ?lgp3 ?lop3 ?lxp3 ?lrp3 ?lhp3); (case lgp3 => rfl); (case lop3 => rfl); (case lxp3 => rfl); (case lrp3 => exact HLD.out))
      | (go_at_call 10; (with_reducible refine HCK.out.mono ?_); rintro e w2 ⟨rfl, hb2⟩))
    go_ret2
    exact ⟨by rw [HE.out]; rfl, HB.out.trans (hb2.mono HB.out.size)⟩
end Go.Proofs.Ytbfjljbllfjicaa.msg
