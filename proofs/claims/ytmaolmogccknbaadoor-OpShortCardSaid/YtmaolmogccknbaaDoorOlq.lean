/-
  The landed op: Put; what the package answers.
-/
import Derived.Test.YtmaolmogccknbaaDoorOlpa
import Derived.Test.YtmaolmogccknbaaDoorOlpc
import Derived.Test.YtmaolmogccknbaaDoorOlf
import Derived.Test.YtmaolmogccknbaaDoorOls
namespace Go.Proofs.YtmaolmogccknbaaDoor.opn
open Go.RowKit Go.Proofs.YtmaolmogccknbaaDoor.mem Go.Proofs.YtmaolmogccknbaaDoor.sha Go.Proofs.YtmaolmogccknbaaDoor.ids

theorem write_any (B g : Nat) (out : List UInt8) (o : Opn) (v : Value) (w : World) (hc : check rise o = 0) (h : oct.WrIs w (B ≤ ·) g out 0) (hn : New (B ≤ ·) w) (hl : out.length ≤ 10) (hr : o.ref.length = 32) (hv : ∀ u, Turn (B ≤ ·) w u → RdV u v o.refs) :
    Calls Tryd.prog 38 #[.pointer (some ⟨g, 0, none⟩), opv o v] w fun e w' => e = .returned (.tuple #[]) ∧ oct.WrIs w' (B ≤ ·) g (out ++ encs o (has o.k)) 0 ∧ Turn (B ≤ ·) w w' := by
  obtain ⟨hh, pN, pK, pV, pR, pS, lk, lv, n1, n2, n4, lr, -⟩ := check_parts hc
  have hN : Part.N ∈ has o.k → 0 ≤ o.n + off o.k ∧ o.n + off o.k < 4294967296 := fun hm => (fits_of hc hr (hv w (Turn.refl _ _)).ok (.inl hm)).n
  rcases kind_of hh with e | e | e | e | e | e | e
  · exact write1 B g out o v w e h hn hl hr lk lv lr hN hv
  · exact write2 B g out o v w e h hn hl hr lk lv lr hN hv
  · exact write3 B g out o v w e h hn hl hr lk lv lr hN hv
  · exact write4 B g out o v w e h hn hl hr lk lv lr hN hv
  · exact write5 B g out o v w e h hn hl hr lk lv lr hN hv
  · exact write6 B g out o v w e h hn hl hr lk lv lr hN hv
  · exact write7 B g out o v w e h hn hl hr lk lv lr hN hv

set_option maxHeartbeats 4000000 in
set_option maxRecDepth 100000 in
theorem lput_any (o : Opn) (v : Value) (w : World) (hT : Tab w) (hr : o.ref.length = 32) (hv : RdV w v o.refs) (hm : o.refs.length ≤ 1000) :
    Calls Tryd.prog 12 #[opv o v] w fun e w' => e = .returned (.tuple #[.string (oct.tx (put rise o).1), .int .i64 (put rise o).2]) ∧ Below w.heap.size w w' := by
  obtain ⟨w1, hw1⟩ : ∃ u, u = w.alloc (.cells (opc o v).toArray 26) := ⟨_, rfl⟩
  obtain ⟨S, hS⟩ : ∃ S, S = w.heap.size := ⟨_, rfl⟩
  have hX : Blk w1 S 26 (opc o v).toArray := by rw [hw1, hS]; exact Blk.new w _ _
  have hB : Below w.heap.size w w1 := by rw [hw1]; exact (Below.refl _ _).alloc (Nat.le_refl _) _
  have hld := run_load_op hX hr
  have hv1 := hv.next hB
  have hck := lcheck_any o v w1 (hT.next hB) hr hv1 hm
  have hput : put rise o = if check rise o ≠ 0 then ([], check rise o) else (b1 o.k ++ encs o (has o.k), 0) := rfl
  obtain ⟨c, hc⟩ : ∃ c, check rise o = c := ⟨_, rfl⟩
  rw [hc] at hck hput
  have HV := Lib.hid hv1
  have HB := Lib.hid hB
  have HS := Lib.hid hS
  have HW := Lib.hid hw1
  have HX := Lib.hid hX
  have HCK := Lib.hid hck
  have HR := Lib.hid hr
  have HC := Lib.hid hc
  have HP := Lib.hid hput
  clear hX hB hw1 hS hv hv1 hck hm hc hput hr hT
  unfold opv
  by_cases h0 : c = 0
  · subst h0
    have HE : Hid (put rise o = (b1 o.k ++ encs o (has o.k), 0)) := Lib.hid (by rw [HP.out, if_neg (by simp)])
    obtain ⟨k, hk⟩ : ∃ k, o.k = k := ⟨_, rfl⟩
    have hkk : 1 ≤ k ∧ k < 256 := by have := kind_of (check_parts HC.out).1; omega
    have HK := Lib.hid hk
    have HKK := Lib.hid hkk
    clear hk hkk HP
    go_enter Tryd.func12, Tryd.ntmps12
    go_upto_region 1 with fail
    refine wp_at HW.out.symm ?_
    rw [← HS.out]
    clear HW
    go_upto_region 4 with (first
      | ((with_reducible refine step_load (t := 26) (x := .tmp 1) (p := ?lplp1) (v := ?lvlp1) ?lglp1 ?lolp1 ?lxlp1 ?lrlp1 ?lhlp1); (case lglp1 => rfl); (case lolp1 => rfl); (case lxlp1 => rfl); (case lrlp1 => exact hld))
      | (go_at_call 14; (with_reducible refine HCK.out.mono ?_); rintro e w2 ⟨rfl, hb2⟩; have hX2 := HX.out.below hb2 HX.out.lt; have HX2 := Lib.hid hX2; have HV2 := Lib.hid (HV.out.next hb2); have HB2 := Lib.hid (HB.out.trans (hb2.mono HB.out.size)); clear hX2 hb2))
    clear hld HCK HX HV HB
    have HN1 : Hid (∀ (u : World) (g : Nat), oct.WrIs u (g ≤ ·) g [] 0 → New (g ≤ ·) u → Calls Tryd.prog 37 #[.pointer (some ⟨g, 0, none⟩), .int .i64 k, .int .i64 1] u fun e w' => e = .returned (.pointer (some ⟨g, 0, none⟩)) ∧ oct.WrIs w' (g ≤ ·) g (b1 k) 0 ∧ Turn (g ≤ ·) u w') := Lib.hid fun u g hu hn => by
      have := wnum1_s (g ≤ ·) g [] k (by have := HKK.out; omega) (by have := HKK.out; omega) u hu hn (by simp)
      rw [List.nil_append] at this
      exact this
    refine wp_region_held_drew (S := fun u => Blk u S 26 (opc o v).toArray) (by kernel_rfl) ?_ (fun hHeld => ?_)
    · exact HX2.out
    refine' wpAnyH_take (i := 1) ?hip1 (by kernel_rfl) (by kernel_rfl) (by kernel_rfl) ?hqp1 (Or.inl ⟨?hwp1, ?hyp1⟩) (by assumption) ?hrp1
    case hip1 => (simp only [List.getElem?_toArray, List.getElem?_cons_succ, List.getElem?_cons_zero]; rfl)
    case hqp1 => exact fun _ _ _ h => h
    case hwp1 => rfl
    case hyp1 => (intro w0 hSw; (try dsimp only at hSw); go_simp; try with_reducible rfl)
    (try simp only [Act.put, List.setIfInBounds_toArray, List.set_cons_zero, List.set_cons_succ])
    refine' wpAnyH_take (i := 2) ?hip2 (by kernel_rfl) (by kernel_rfl) (by kernel_rfl) ?hqp2 (Or.inl ⟨?hwp2, ?hyp2⟩) (by assumption) ?hrp2
    case hip2 => (simp only [List.getElem?_toArray, List.getElem?_cons_succ, List.getElem?_cons_zero]; rfl)
    case hqp2 => exact fun _ _ _ h => h
    case hwp2 => rfl
    case hyp2 => exact fun w0 hSw => by have hc := (OpBlk.of hSw HR.out).k; rw [HK.out] at hc; go_simp; try with_reducible rfl
    (try simp only [Act.put, List.setIfInBounds_toArray, List.set_cons_zero, List.set_cons_succ])
    refine wpAnyH_ready (rs := [0]) (by kernel_rfl) (by simp) ?_
    refine' AllReadyH.cons ?hip0 (fun K hK => ?hrp0) AllReadyH.nil
    case hip0 => (simp only [List.getElem?_toArray, List.getElem?_cons_succ, List.getElem?_cons_zero]; rfl)
    go_simp
    refine (oct.new_any _).mono ?_; rintro e w3 ⟨rfl, hw3, hb3⟩; have HW3 := Lib.hid hw3; have HB3 := Lib.hid hb3; clear hw3 hb3
    refine hK.out _ _ ?_ (fun hHeld => ?_)
    · exact hHeld.below HB3.out hHeld.lt
    clear hK K
    (try simp only [Act.put, List.setIfInBounds_toArray, List.set_cons_zero, List.set_cons_succ])
    refine wpAnyH_ready (rs := [3]) (by kernel_rfl) (by simp) ?_
    refine' AllReadyH.cons ?hip3 (fun K hK => ?hrp3) AllReadyH.nil
    case hip3 => (simp only [List.getElem?_toArray, List.getElem?_cons_succ, List.getElem?_cons_zero]; rfl)
    go_simp
    refine (HN1.out _ _ (WrIs.new HW3.out (Nat.le_refl _)) (fun b hb => Nat.le_trans HB3.out.size hb)).mono ?_; rintro e w4 ⟨rfl, hw4, ht4⟩; have HW4 := Lib.hid hw4; have HT4 := Lib.hid ht4; clear hw4 ht4
    refine hK.out _ _ ?_ (fun hHeld => ?_)
    · exact hHeld.turn HT4.out (Nat.not_le.2 HX2.out.lt)
    clear hK K
    (try simp only [Act.put, List.setIfInBounds_toArray, List.set_cons_zero, List.set_cons_succ])
    refine' wpAnyH_take (i := 4) ?hip4 (by kernel_rfl) (by kernel_rfl) (by kernel_rfl) ?hqp4 (Or.inl ⟨?hwp4, ?hyp4⟩) (by assumption) ?hrp4
    case hip4 => (simp only [List.getElem?_toArray, List.getElem?_cons_succ, List.getElem?_cons_zero]; rfl)
    case hqp4 => exact fun _ _ _ h => h
    case hwp4 => rfl
    case hyp4 => (intro w0 hSw; (try dsimp only at hSw); go_simp; try with_reducible rfl)
    (try simp only [Act.put, List.setIfInBounds_toArray, List.set_cons_zero, List.set_cons_succ])
    refine wpAnyH_done (by kernel_rfl) ?_ _
    obtain ⟨g, hg⟩ : ∃ g, g = w2.heap.size := ⟨_, rfl⟩
    have HW4 : Hid (oct.WrIs w4 (g ≤ ·) g (b1 k) 0) := by rw [hg]; exact HW4
    have HT4 : Hid (Turn (g ≤ ·) w3 w4) := by rw [hg]; exact HT4
    have HB3 : Hid (Below g w2.drew w3) := by rw [hg]; exact HB3
    rw [← hg]
    have hg2 := hg
    have ht24 : Turn (g ≤ ·) w2 w4 := ((show Turn (g ≤ ·) w2 w2.drew from (Turn.refl _ w2).drewN 1).trans (Turn.fresh (show Below w2.drew.heap.size w2.drew w3 from hg ▸ HB3.out) (fun b hb => show g ≤ b from hg ▸ hb))).trans HT4.out
    have hn4 : New (g ≤ ·) w4 := fun b hb => by have := ht24.size; omega
    have hvt : ∀ u, Turn (g ≤ ·) w4 u → RdV u v o.refs := fun u ht => by
      obtain ⟨ad, cap, hvf⟩ := HV2.out.form
      have h2 := HV2.out
      rw [hvf] at h2 ⊢
      exact h2.turn (ht24.trans ht) (fun b off _ hb hh => by omega)
    have hX4 : Blk w4 S 26 (opc o v).toArray := hHeld
    have HWR := Lib.hid (write_any g g (b1 k) o v w4 HC.out HW4.out hn4 (by rw [b1_len]; decide) HR.out hvt)
    have HL4 := Lib.hid (run_load_op hX4 HR.out)
    have HT24 := Lib.hid ht24
    have HG2 := Lib.hid hg2
    clear hHeld hg hg2 ht24 hn4 hvt hX4
    go_wp2_with (first
      | ((with_reducible refine step_load (t := 26) (x := .tmp 1) (p := ?lplp2) (v := ?lvlp2) ?lglp2 ?lolp2 ?lxlp2 ?lrlp2 ?lhlp2); (case lglp2 => rfl); (case lolp2 => rfl); (case lxlp2 => rfl); (case lrlp2 => exact HL4.out))
      | (go_at_call 38; (with_reducible refine HWR.out.mono ?_); rintro e w5 ⟨rfl, hw5, ht5⟩; have HD := Lib.hid (oct.done_good (g ≤ ·) g _ w5 hw5); have HT5 := Lib.hid ht5; clear hw5 ht5)
      | (go_at_call 39; (with_reducible refine HD.out.mono ?_); rintro e w6 ⟨rfl, rfl⟩))
    go_ret2
    refine ⟨by rw [HE.out, HK.out]; rfl, HB2.out.trans ((HT24.out.trans HT5.out).below fun b hb => ?_)⟩
    have := HB2.out.size
    have := HG2.out
    omega
  · have hne : (c != 0) = true := bne_iff_ne.2 h0
    have HE : Hid (put rise o = ([], c)) := Lib.hid (by rw [HP.out, if_pos h0])
    clear h0
    go_enter Tryd.func12, Tryd.ntmps12
    go_upto_region 1 with fail
    refine wp_at HW.out.symm ?_
    rw [← HS.out]
    clear HW
    go_wp2_with (first
      | ((with_reducible refine step_load (t := 26) (x := .tmp 1) (p := ?lplp3) (v := ?lvlp3) ?lglp3 ?lolp3 ?lxlp3 ?lrlp3 ?lhlp3); (case lglp3 => rfl); (case lolp3 => rfl); (case lxlp3 => rfl); (case lrlp3 => exact hld))
      | (go_at_call 14; (with_reducible refine HCK.out.mono ?_); rintro e w2 ⟨rfl, hb2⟩))
    go_ret2
    exact ⟨by rw [HE.out]; rfl, HB.out.trans (hb2.mono HB.out.size)⟩

theorem op_is : OpIs Tab where
  next := Tab.next
  check := fun o v w hT hr hv hm => lcheck_any o v w hT hr hv hm
  put := fun o v w hT hr hv hm => lput_any o v w hT hr hv hm
  of := fun s w hT hs => lof_any s w hT hs
  belongs := fun k w _ => (lbelongs_any k w).mono fun e w' ⟨h1, h2⟩ => ⟨h1, h2 ▸ Below.refl _ _⟩
  same := fun x y vx vy w _ hx hy hvx hvy => lsame_any x y vx vy w hx hy hvx hvy
end Go.Proofs.YtmaolmogccknbaaDoor.opn
