/-
 The landed header: Put.
-/
import Derived.Test.YtpeneeddfgmjpaaGreatDoorHld
import Derived.Test.YtpeneeddfgmjpaaGreatDoorWiwt
namespace Go.Proofs.YtpeneeddfgmjpaaGreatDoor.hdr
open Go.RowKit Go.Proofs.YtpeneeddfgmjpaaGreatDoor.mem Go.Proofs.YtpeneeddfgmjpaaGreatDoor.sha Go.Proofs.YtpeneeddfgmjpaaGreatDoor.ids
open Go.Proofs.YtpeneeddfgmjpaaGreatDoor.opn (b1 b2 b4 num txt idl byte rd rdN rdT rdI rdS rdL St Reads Stays endE zid mkId wids_s wid_s wtext_s wnum1_s wnum2_s wnum4_s WrIs.new b1_len b2_len b4_len)

/-- what stands while a part is written: the header's box, the Writer behind it -/
structure HwP (S g : Nat) (h : Hd) (v : Value) (w0 : World) (out : List UInt8) (w : World) : Prop where
 hd : Blk w S 26 (hdc h v).toArray
 wr : oct.WrIs w (g ≤ ·) g out 0
 turn : Turn (g ≤ ·) w0 w
 new : New (g ≤ ·) w
 Sg : S < g
section
variable {S g : Nat} {h : Hd} {v : Value} {w0 : World} {out out2 : List UInt8} {w w2 : World}
theorem HwP.next (p : HwP S g h v w0 out w) (ht : Turn (g ≤ ·) w w2) (hw : oct.WrIs w2 (g ≤ ·) g out2 0) : HwP S g h v w0 out2 w2 :=
 ⟨p.hd.turn ht (Nat.not_le.2 p.Sg), hw, p.turn.trans ht, p.new.turn ht, p.Sg⟩
theorem HwP.drew (p : HwP S g h v w0 out w) : HwP S g h v w0 out w.drew := p.next ((Turn.refl _ w).drewN 1) p.wr
theorem hw_text (p : HwP S g h v w0 out w) (hl : out.length ≤ 1000) (l : List UInt8) (hk : l.length ≤ 255) :
  Calls Tryz.prog 82 #[.pointer (some ⟨g, 0, none⟩), .string (oct.tx l)] w fun e w' => e = .returned (.tuple #[]) ∧ HwP S g h v w0 (out ++ txt l) w' := by
 refine (wtext_s (g ≤ ·) g out (oct.tx l) w p.wr p.new hl (by rw [oct.tx_size]; omega)).mono ?_
 rintro e w2 ⟨rfl, h2, ht⟩
 rw [oct.tx_list] at h2
 exact ⟨rfl, p.next ht h2⟩
theorem hw_num4 (p : HwP S g h v w0 out w) (hl : out.length ≤ 1000) (n : Int) (h0 : 0 ≤ n) (h1 : n < 4294967296) :
  Calls Tryz.prog 81 #[.pointer (some ⟨g, 0, none⟩), .int .i64 n, .int .i64 4] w fun e w' => e = .returned (.pointer (some ⟨g, 0, none⟩)) ∧ HwP S g h v w0 (out ++ b4 n) w' := by
 refine (wnum4_s (g ≤ ·) g out n h0 h1 w p.wr p.new (by omega)).mono ?_
 rintro e w2 ⟨rfl, h2, ht⟩
 exact ⟨rfl, p.next ht h2⟩
theorem hw_num2 (p : HwP S g h v w0 out w) (hl : out.length ≤ 1000) (n : Int) (h0 : 0 ≤ n) (h1 : n < 65536) :
  Calls Tryz.prog 81 #[.pointer (some ⟨g, 0, none⟩), .int .i64 n, .int .i64 2] w fun e w' => e = .returned (.pointer (some ⟨g, 0, none⟩)) ∧ HwP S g h v w0 (out ++ b2 n) w' := by
 refine (wnum2_s (g ≤ ·) g out n h0 h1 w p.wr p.new (by omega)).mono ?_
 rintro e w2 ⟨rfl, h2, ht⟩
 exact ⟨rfl, p.next ht h2⟩
theorem hw_num1 (p : HwP S g h v w0 out w) (hl : out.length ≤ 1000) (n : Int) (h0 : 0 ≤ n) (h1 : n < 256) :
  Calls Tryz.prog 81 #[.pointer (some ⟨g, 0, none⟩), .int .i64 n, .int .i64 1] w fun e w' => e = .returned (.pointer (some ⟨g, 0, none⟩)) ∧ HwP S g h v w0 (out ++ b1 n) w' := by
 refine (wnum1_s (g ≤ ·) g out n h0 h1 w p.wr p.new (by omega)).mono ?_
 rintro e w2 ⟨rfl, h2, ht⟩
 exact ⟨rfl, p.next ht h2⟩
theorem hw_id (p : HwP S g h v w0 out w) (hl : out.length ≤ 1000) (y : List UInt8) (hy : y.length = 32) :
  Calls Tryz.prog 83 #[.pointer (some ⟨g, 0, none⟩), idv y] w fun e w' => e = .returned (.tuple #[]) ∧ HwP S g h v w0 (out ++ y) w' := by
 refine (wid_s (g ≤ ·) g out y hy w p.wr p.new (by omega)).mono ?_
 rintro e w2 ⟨rfl, h2, ht⟩
 exact ⟨rfl, p.next ht h2⟩
theorem hw_ids (p : HwP S g h v w0 out w) (hl : out.length ≤ 1000) (L : List (List UInt8)) (hL : L.length ≤ 8) (hv : ∀ u, Turn (g ≤ ·) w0 u → RdV u v L) :
  Calls Tryz.prog 80 #[.pointer (some ⟨g, 0, none⟩), v] w fun e w' => e = .returned (.tuple #[]) ∧ HwP S g h v w0 (out ++ idl L) w' := by
 refine (wids_s (g ≤ ·) g out L v w p.wr p.new hl (by omega) (fun u ht => hv u (p.turn.trans ht))).mono ?_
 rintro e w2 ⟨rfl, h2, ht⟩
 exact ⟨rfl, p.next ht h2⟩
end
set_option maxHeartbeats 8000000 in
set_option maxRecDepth 100000 in
theorem lput_any (h : Hd) (v : Value) (w : World) (hT : Tabs w) (hr : h.commit.length = 32) (hv : RdV w v h.parents) (hm : h.parents.length ≤ 1000) (hs : h.topic.length ≤ 140737488351232) :
  Calls Tryz.prog 54 #[hdv h v] w fun e w' => e = .returned (.tuple #[.string (oct.tx (putH h).1), .int .i64 (putH h).2]) ∧ Below w.heap.size w w' := by
 obtain ⟨w1, hw1⟩ : ∃ u, u = w.alloc (.cells (hdc h v).toArray 26) := ⟨_, rfl⟩
 obtain ⟨S, hS⟩ : ∃ S, S = w.heap.size := ⟨_, rfl⟩
 have hX : Blk w1 S 26 (hdc h v).toArray := by rw [hw1, hS]; exact Blk.new w _ _
 have hB : Below w.heap.size w w1 := by rw [hw1]; exact (Below.refl _ _).alloc (Nat.le_refl _) _
 have hld := run_load_hd hX hr
 have hv1 := hv.next hB
 have hck := lcheck_any h v w1 (hT.next hB) hr hv1 hm hs
 obtain ⟨c, hc⟩ : ∃ c, checkH h = c := ⟨_, rfl⟩
 rw [hc] at hck
 have HOKP := Lib.hid hv.ok
 have HV := Lib.hid hv1
 have HB := Lib.hid hB
 have HS := Lib.hid hS
 have HW := Lib.hid hw1
 have HX := Lib.hid hX
 have HCK := Lib.hid hck
 have HR := Lib.hid hr
 have HC := Lib.hid hc
 obtain ⟨a, ha⟩ : ∃ a, a = (hdc h v).toArray := ⟨_, rfl⟩
 have HA := Lib.hid ha
 unfold hdv
 unfold hdv at hld HCK
 rw [← ha] at hld HCK HW ⊢
 clear hX hB hw1 hS hv hv1 hck hm hc hr hT hs ha
 by_cases h0 : c = 0
 ·
  subst h0
  obtain ⟨h4, -, hbh, hk0, hbr⟩ := check_parts HC.out
  have htop := (topic.kindOf_pos _ hk0).2.1
  have lp : (idl h.parents).length ≤ 129 := by unfold idl; rw [List.length_append, opn.b1_len, flatH HOKP.out]; omega
  have lt : (txt h.topic).length ≤ 13 := txt_len htop
  obtain ⟨o1, ho1⟩ : ∃ o, o = idl h.parents := ⟨_, rfl⟩
  obtain ⟨o2, ho2⟩ : ∃ o, o = o1 ++ b4 h.height := ⟨_, rfl⟩
  obtain ⟨o3, ho3⟩ : ∃ o, o = o2 ++ txt h.topic := ⟨_, rfl⟩
  obtain ⟨o4, ho4⟩ : ∃ o, o = o3 ++ b1 h.author := ⟨_, rfl⟩
  obtain ⟨o5, ho5⟩ : ∃ o, o = o4 ++ b4 h.seq := ⟨_, rfl⟩
  obtain ⟨o6, ho6⟩ : ∃ o, o = o5 ++ b2 h.size := ⟨_, rfl⟩
  obtain ⟨o7, ho7⟩ : ∃ o, o = o6 ++ h.commit := ⟨_, rfl⟩
  have HE : Hid (putH h = (o7, 0)) := Lib.hid (by rw [put_ok HC.out, ho7, ho6, ho5, ho4, ho3, ho2, ho1]; simp only [enH, List.append_assoc])
  have L1 : Hid (o1.length ≤ 129) := Lib.hid (by rw [ho1]; exact lp)
  have L2 : Hid (o2.length ≤ 133) := Lib.hid (by rw [ho2, List.length_append, b4_len]; have := L1.out; omega)
  have L3 : Hid (o3.length ≤ 146) := Lib.hid (by rw [ho3, List.length_append]; have := L2.out; omega)
  have L4 : Hid (o4.length ≤ 147) := Lib.hid (by rw [ho4, List.length_append, b1_len]; have := L3.out; omega)
  have L5 : Hid (o5.length ≤ 151) := Lib.hid (by rw [ho5, List.length_append, b4_len]; have := L4.out; omega)
  have L6 : Hid (o6.length ≤ 153) := Lib.hid (by rw [ho6, List.length_append, b2_len]; have := L5.out; omega)
  unfold badHeight at hbh
  unfold badRange at hbr
  have QH : Hid (0 ≤ h.height ∧ h.height < 4294967296) := Lib.hid (by omega)
  have QA : Hid (0 ≤ h.author ∧ h.author < 256) := Lib.hid (by omega)
  have QS : Hid (0 ≤ h.seq ∧ h.seq < 4294967296) := Lib.hid (by omega)
  have QZ : Hid (0 ≤ h.size ∧ h.size < 65536) := Lib.hid (by omega)
  have QT : Hid (h.topic.length ≤ 255) := Lib.hid (by omega)
  have QP : Hid (h.parents.length ≤ 8) := Lib.hid (by omega)
  have O1 := Lib.hid ho1
  have O2 := Lib.hid ho2
  have O3 := Lib.hid ho3
  have O4 := Lib.hid ho4
  have O5 := Lib.hid ho5
  have O6 := Lib.hid ho6
  have O7 := Lib.hid ho7
  clear h4 hbh hk0 hbr htop lp lt ho1 ho2 ho3 ho4 ho5 ho6 ho7 HOKP
  go_enter Tryz.func54, Tryz.ntmps54
  go_upto_region 1 with fail
  refine wp_at HW.out.symm ?_
  rw [← HS.out]
  clear HW
  go_upto_region 8 with (first
   | ((with_reducible refine step_load (t := 26) (x := .tmp 1) (p := ?lpp1) (v := ?lvp1) ?lgp1 ?lop1 ?lxp1 ?lrp1 ?lhp1); (case lgp1 => rfl); (case lop1 => rfl); (case lxp1 => rfl); (case lrp1 => exact hld))
   | (go_at_call 20; (with_reducible refine HCK.out.mono ?_); rintro e w2 ⟨rfl, hb2⟩; have hX2 := HX.out.below hb2 HX.out.lt; have HX2 := Lib.hid hX2; have HV2 := Lib.hid (HV.out.next hb2); have HB2 := Lib.hid (HB.out.trans (hb2.mono HB.out.size)); clear hX2 hb2 hld HCK HX HV HB)
   | (go_at_call 79; (with_reducible refine (oct.new_any _).mono ?_); rintro e w3 ⟨rfl, hw3, hb3⟩; obtain ⟨g, hg⟩ : ∃ g, g = w2.heap.size := ⟨_, rfl⟩; rw [← hg] at hw3 hb3 ⊢; have HG := Lib.hid hg; have hp0 : HwP S g h v w2 [] w3 := ⟨HX2.out.below hb3 (by have := HX2.out.lt; omega), WrIs.new hw3 (Nat.le_refl _), Turn.fresh (by rw [← HG.out]; exact hb3) (fun b hb => by have := HG.out; omega), fun b hb => by have := hb3.size; have := HG.out; omega, by have := HX2.out.lt; omega⟩; have HP0 := Lib.hid hp0; have HB := HdBlk.of hp0.hd HR.out; have c0 := HB.parents; have hvt : ∀ u, Turn (g ≤ ·) w2 u → RdV u v h.parents := (fun u ht => by obtain ⟨ad, cap, hvf⟩ := HV2.out.form; have h2 := HV2.out; rw [hvf] at h2 ⊢; exact h2.turn ht (fun b off _ hb hh => by have := HG.out; omega)); have hq := hw_ids hp0 (by simp) h.parents QP.out hvt; rw [List.nil_append, ← O1.out] at hq; have HQ1 := Lib.hid hq; clear hq hvt hp0 hw3 hb3 hg HB)
   | (go_at_call 82; (with_reducible refine HQ3.out.mono ?_); rintro e w13 ⟨rfl, hp3⟩; have HP3 := Lib.hid hp3; have HB := HdBlk.of hp3.hd HR.out; clear hp3 HB HQ3)
   | (go_at_call 81; (with_reducible refine HQ2.out.mono ?_); rintro e w12 ⟨rfl, hp2⟩; have HP2 := Lib.hid hp2; have HB := HdBlk.of hp2.hd HR.out; have c2 := HB.topic; have hq := hw_text hp2 (by have := L2.out; omega) h.topic QT.out; rw [← O3.out] at hq; have HQ3 := Lib.hid hq; clear hq; clear hp2 HB HQ2)
   | (go_at_call 80; (with_reducible refine HQ1.out.mono ?_); rintro e w11 ⟨rfl, hp1⟩; have HP1 := Lib.hid hp1; have HB := HdBlk.of hp1.hd HR.out; have c1 := HB.height; have hq := hw_num4 hp1 (by have := L1.out; omega) h.height QH.out.1 QH.out.2; rw [← O2.out] at hq; have HQ2 := Lib.hid hq; clear hq; clear hp1 HB HQ1))
  clear c0 c1 c2
  refine wp_region_held_drew (S := fun u => Blk u S 26 (hdc h v).toArray) (by kernel_rfl) ?_ (fun hHeld => ?_)
  ·
   exact HP3.out.hd
  refine' wpAnyH_take (i := 0) ?hihp0 (by kernel_rfl) (by kernel_rfl) (by kernel_rfl) ?hqhp0 (Or.inl ⟨?hwhp0, ?hyhp0⟩) (by assumption) ?hrhp0
  case hihp0 => (simp only [List.getElem?_toArray, List.getElem?_cons_succ, List.getElem?_cons_zero]; rfl)
  case hqhp0 => exact fun _ _ _ h => h
  case hwhp0 => rfl
  case hyhp0 => (intro w0 hSw; (try dsimp only at hSw); go_simp; try with_reducible rfl)
  (try simp only [Act.put, List.setIfInBounds_toArray, List.set_cons_zero, List.set_cons_succ])
  refine' wpAnyH_take (i := 1) ?hihp1 (by kernel_rfl) (by kernel_rfl) (by kernel_rfl) ?hqhp1 (Or.inl ⟨?hwhp1, ?hyhp1⟩) (by assumption) ?hrhp1
  case hihp1 => (simp only [List.getElem?_toArray, List.getElem?_cons_succ, List.getElem?_cons_zero]; rfl)
  case hqhp1 => exact fun _ _ _ h => h
  case hwhp1 => rfl
  case hyhp1 => (intro w0 hSw; (try dsimp only at hSw); go_simp; try with_reducible rfl)
  (try simp only [Act.put, List.setIfInBounds_toArray, List.set_cons_zero, List.set_cons_succ])
  refine' wpAnyH_take (i := 2) ?hihp2 (by kernel_rfl) (by kernel_rfl) (by kernel_rfl) ?hqhp2 (Or.inl ⟨?hwhp2, ?hyhp2⟩) (by assumption) ?hrhp2
  case hihp2 => (simp only [List.getElem?_toArray, List.getElem?_cons_succ, List.getElem?_cons_zero]; rfl)
  case hqhp2 => exact fun _ _ _ h => h
  case hwhp2 => rfl
  case hyhp2 => exact fun w0 hSw => by have hc := (HdBlk.of hSw HR.out).author; go_simp; try with_reducible rfl
  (try simp only [Act.put, List.setIfInBounds_toArray, List.set_cons_zero, List.set_cons_succ])
  refine' wpAnyH_take (i := 4) ?hihp4 (by kernel_rfl) (by kernel_rfl) (by kernel_rfl) ?hqhp4 (Or.inl ⟨?hwhp4, ?hyhp4⟩) (by assumption) ?hrhp4
  case hihp4 => (simp only [List.getElem?_toArray, List.getElem?_cons_succ, List.getElem?_cons_zero]; rfl)
  case hqhp4 => exact fun _ _ _ h => h
  case hwhp4 => rfl
  case hyhp4 => (intro w0 hSw; (try dsimp only at hSw); go_simp; try with_reducible rfl)
  (try simp only [Act.put, List.setIfInBounds_toArray, List.set_cons_zero, List.set_cons_succ])
  refine' wpAnyH_take (i := 5) ?hihp5 (by kernel_rfl) (by kernel_rfl) (by kernel_rfl) ?hqhp5 (Or.inl ⟨?hwhp5, ?hyhp5⟩) (by assumption) ?hrhp5
  case hihp5 => (simp only [List.getElem?_toArray, List.getElem?_cons_succ, List.getElem?_cons_zero]; rfl)
  case hqhp5 => exact fun _ _ _ h => h
  case hwhp5 => rfl
  case hyhp5 => exact fun w0 hSw => by have hc := (HdBlk.of hSw HR.out).seq; go_simp; try with_reducible rfl
  (try simp only [Act.put, List.setIfInBounds_toArray, List.set_cons_zero, List.set_cons_succ])
  refine' wpAnyH_take (i := 7) ?hihp7 (by kernel_rfl) (by kernel_rfl) (by kernel_rfl) ?hqhp7 (Or.inl ⟨?hwhp7, ?hyhp7⟩) (by assumption) ?hrhp7
  case hihp7 => (simp only [List.getElem?_toArray, List.getElem?_cons_succ, List.getElem?_cons_zero]; rfl)
  case hqhp7 => exact fun _ _ _ h => h
  case hwhp7 => rfl
  case hyhp7 => (intro w0 hSw; (try dsimp only at hSw); go_simp; try with_reducible rfl)
  (try simp only [Act.put, List.setIfInBounds_toArray, List.set_cons_zero, List.set_cons_succ])
  refine' wpAnyH_take (i := 8) ?hihp8 (by kernel_rfl) (by kernel_rfl) (by kernel_rfl) ?hqhp8 (Or.inl ⟨?hwhp8, ?hyhp8⟩) (by assumption) ?hrhp8
  case hihp8 => (simp only [List.getElem?_toArray, List.getElem?_cons_succ, List.getElem?_cons_zero]; rfl)
  case hqhp8 => exact fun _ _ _ h => h
  case hwhp8 => rfl
  case hyhp8 => exact fun w0 hSw => by have hc := (HdBlk.of hSw HR.out).size; go_simp; try with_reducible rfl
  (try simp only [Act.put, List.setIfInBounds_toArray, List.set_cons_zero, List.set_cons_succ])
  refine wpAnyH_ready (rs := [3]) (by kernel_rfl) (by simp) ?_
  refine' AllReadyH.cons ?hihp3 (fun K hK => ?hrhp3) AllReadyH.nil
  case hihp3 => (simp only [List.getElem?_toArray, List.getElem?_cons_succ, List.getElem?_cons_zero]; rfl)
  go_simp
  refine (hw_num1 (HP3.out.drew) (by have := L3.out; omega) h.author QA.out.1 QA.out.2).mono ?_; rintro e w14 ⟨rfl, hp4⟩; rw [← O4.out] at hp4; have HP4 := Lib.hid hp4; clear hp4
  refine hK.out _ _ ?_ (fun hHeld => ?_)
  ·
   exact HP4.out.hd
  clear hK K
  (try simp only [Act.put, List.setIfInBounds_toArray, List.set_cons_zero, List.set_cons_succ])
  refine wpAnyH_ready (rs := [6]) (by kernel_rfl) (by simp) ?_
  refine' AllReadyH.cons ?hihp6 (fun K hK => ?hrhp6) AllReadyH.nil
  case hihp6 => (simp only [List.getElem?_toArray, List.getElem?_cons_succ, List.getElem?_cons_zero]; rfl)
  go_simp
  refine (hw_num4 (HP4.out) (by have := L4.out; omega) h.seq QS.out.1 QS.out.2).mono ?_; rintro e w15 ⟨rfl, hp5⟩; rw [← O5.out] at hp5; have HP5 := Lib.hid hp5; clear hp5
  refine hK.out _ _ ?_ (fun hHeld => ?_)
  ·
   exact HP5.out.hd
  clear hK K
  (try simp only [Act.put, List.setIfInBounds_toArray, List.set_cons_zero, List.set_cons_succ])
  refine wpAnyH_ready (rs := [9]) (by kernel_rfl) (by simp) ?_
  refine' AllReadyH.cons ?hihp9 (fun K hK => ?hrhp9) AllReadyH.nil
  case hihp9 => (simp only [List.getElem?_toArray, List.getElem?_cons_succ, List.getElem?_cons_zero]; rfl)
  go_simp
  refine (hw_num2 (HP5.out) (by have := L5.out; omega) h.size QZ.out.1 QZ.out.2).mono ?_; rintro e w16 ⟨rfl, hp6⟩; rw [← O6.out] at hp6; have HP6 := Lib.hid hp6; clear hp6
  refine hK.out _ _ ?_ (fun hHeld => ?_)
  ·
   exact HP6.out.hd
  clear hK K
  (try simp only [Act.put, List.setIfInBounds_toArray, List.set_cons_zero, List.set_cons_succ])
  refine wpAnyH_done (by kernel_rfl) ?_ _
  have hq := hw_id HP6.out (by have := L6.out; omega) h.commit HR.out
  rw [← O7.out] at hq
  have HQ := Lib.hid hq
  have hlc := (HdBlk.of HP6.out.hd HR.out).commit 0
  clear hq hHeld
  go_wp2_with (first
   | ((with_reducible refine step_load (t := 24) (x := .tmp 35) (p := ?lpp2) (v := ?lvp2) ?lgp2 ?lop2 ?lxp2 ?lrp2 ?lhp2); (case lgp2 => rfl); (case lop2 => rfl); (case lxp2 => rfl); (case lrp2 => exact hlc))
   | (go_at_call 83; (with_reducible refine HQ.out.mono ?_); rintro e w17 ⟨rfl, hp7⟩; have HP7 := Lib.hid hp7; have HD := Lib.hid (oct.done_good (g ≤ ·) g _ w17 hp7.wr); clear hp7)
   | (go_at_call 84; (with_reducible refine HD.out.mono ?_); rintro e w18 ⟨rfl, rfl⟩))
  go_ret2
  refine ⟨by rw [HE.out]; rfl, HB2.out.trans (HP7.out.turn.below fun b hb => ?_)⟩
  have := HB2.out.size
  have := HG.out
  omega
 ·
  have hne : (c != 0) = true := bne_iff_ne.2 h0
  have HE : Hid (putH h = ([], c)) := Lib.hid (by rw [put_no (by rw [HC.out]; exact h0), HC.out])
  clear h0
  go_enter Tryz.func54, Tryz.ntmps54
  go_upto_region 1 with fail
  refine wp_at HW.out.symm ?_
  rw [← HS.out]
  clear HW
  go_wp2_with (first
   | ((with_reducible refine step_load (t := 26) (x := .tmp 1) (p := ?lpp3) (v := ?lvp3) ?lgp3 ?lop3 ?lxp3 ?lrp3 ?lhp3); (case lgp3 => rfl); (case lop3 => rfl); (case lxp3 => rfl); (case lrp3 => exact hld))
   | (go_at_call 20; (with_reducible refine HCK.out.mono ?_); rintro e w2 ⟨rfl, hb2⟩))
  go_ret2
  exact ⟨by rw [HE.out]; rfl, HB.out.trans (hb2.mono HB.out.size)⟩
end Go.Proofs.YtpeneeddfgmjpaaGreatDoor.hdr
