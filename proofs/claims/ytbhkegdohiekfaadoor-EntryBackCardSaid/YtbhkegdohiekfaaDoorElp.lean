/-
  The landed entry: Put.
-/
import Derived.Test.YtbhkegdohiekfaaDoorElc
import Derived.Test.YtbhkegdohiekfaaDoorWiwt
import Derived.Deep.RegionHeld3
namespace Go.Proofs.YtbhkegdohiekfaaDoor.ent
open Go.RowKit Go.Proofs.YtbhkegdohiekfaaDoor.mem Go.Proofs.YtbhkegdohiekfaaDoor.sha Go.Proofs.YtbhkegdohiekfaaDoor.ids
open Go.Proofs.YtbhkegdohiekfaaDoor.opn (b1 b2 b4 num txt idl byte rd rdN rdT rdI rdS rdL St Reads Stays endE zid mkId)
open Go.Proofs.YtbhkegdohiekfaaDoor.topic (kindOf)

theorem txt_len1 (l : List UInt8) : (txt l).length = l.length + 1 := by unfold txt; rw [List.length_append, opn.b1_len]; omega
open Go.Proofs.YtbhkegdohiekfaaDoor.opn (wtext_s wid_s wnum1_s WrIs.new b1_len)
theorem wbody_s (F : Nat → Prop) (g : Nat) (out : List UInt8) (l : List UInt8) (w : World) (h : oct.WrIs w F g out 0) (hn : New F w) (hl : out.length + l.length ≤ 140737488355328) :
    Calls Tryd.prog 22 #[.pointer (some ⟨g, 0, none⟩), .string (oct.tx l)] w fun e w' => e = .returned (.pointer (some ⟨g, 0, none⟩)) ∧ oct.WrIs w' F g (out ++ l) 0 ∧ Turn F w w' := by
  have := oct.raw_any F g out 0 (oct.tx l) w h hn (fun _ => by rw [oct.tx_size]; exact hl)
  rw [show oct.wRaw (out, 0) (oct.tx l) = (out ++ l, 0) by unfold oct.wRaw; rw [if_neg (fun h => h rfl), oct.tx_list]] at this
  exact this
/-- what stands while a part is written: the entry's box, the Writer behind it -/
structure EwP (S g : Nat) (e : En) (w0 : World) (out : List UInt8) (w : World) : Prop where
  en : Blk w S 25 (enc e).toArray
  wr : oct.WrIs w (g ≤ ·) g out 0
  turn : Turn (g ≤ ·) w0 w
  new : New (g ≤ ·) w
  Sg : S < g
section
variable {S g : Nat} {e : En} {w0 : World} {out out2 : List UInt8} {w w2 : World}
theorem EwP.next (p : EwP S g e w0 out w) (ht : Turn (g ≤ ·) w w2) (hw : oct.WrIs w2 (g ≤ ·) g out2 0) : EwP S g e w0 out2 w2 :=
  ⟨p.en.turn ht (Nat.not_le.2 p.Sg), hw, p.turn.trans ht, p.new.turn ht, p.Sg⟩
theorem ew_num1 (p : EwP S g e w0 out w) (hl : out.length ≤ 1000) (n : Int) (h0 : 0 ≤ n) (h1 : n < 256) :
    Calls Tryd.prog 18 #[.pointer (some ⟨g, 0, none⟩), .int .i64 n, .int .i64 1] w fun x w' => x = .returned (.pointer (some ⟨g, 0, none⟩)) ∧ EwP S g e w0 (out ++ b1 n) w' := by
  refine (wnum1_s (g ≤ ·) g out n h0 h1 w p.wr p.new (by omega)).mono ?_
  rintro x w2 ⟨rfl, h2, ht⟩
  exact ⟨rfl, p.next ht h2⟩
theorem ew_text (p : EwP S g e w0 out w) (hl : out.length ≤ 1000) (l : List UInt8) (hk : l.length < 256) :
    Calls Tryd.prog 20 #[.pointer (some ⟨g, 0, none⟩), .string (oct.tx l)] w fun x w' => x = .returned (.tuple #[]) ∧ EwP S g e w0 (out ++ txt l) w' := by
  have := wtext_s (g ≤ ·) g out (oct.tx l) w p.wr p.new hl (by rw [oct.tx_size]; exact hk)
  rw [oct.tx_list] at this
  refine this.mono ?_
  rintro x w2 ⟨rfl, h2, ht⟩
  exact ⟨rfl, p.next ht h2⟩
theorem ew_id (p : EwP S g e w0 out w) (hl : out.length ≤ 1000) (y : List UInt8) (hy : y.length = 32) :
    Calls Tryd.prog 21 #[.pointer (some ⟨g, 0, none⟩), idv y] w fun x w' => x = .returned (.tuple #[]) ∧ EwP S g e w0 (out ++ y) w' := by
  refine (wid_s (g ≤ ·) g out y hy w p.wr p.new (by omega)).mono ?_
  rintro x w2 ⟨rfl, h2, ht⟩
  exact ⟨rfl, p.next ht h2⟩
theorem ew_body (p : EwP S g e w0 out w) (l : List UInt8) (hl : out.length + l.length ≤ 140737488355328) :
    Calls Tryd.prog 22 #[.pointer (some ⟨g, 0, none⟩), .string (oct.tx l)] w fun x w' => x = .returned (.pointer (some ⟨g, 0, none⟩)) ∧ EwP S g e w0 (out ++ l) w' := by
  refine (wbody_s (g ≤ ·) g out l w p.wr p.new hl).mono ?_
  rintro x w2 ⟨rfl, h2, ht⟩
  exact ⟨rfl, p.next ht h2⟩
end
set_option maxHeartbeats 8000000 in
set_option maxRecDepth 100000 in
theorem lput_any (e : En) (w : World) (hT : topic.Tab w) (hr : e.commit.length = 32) (ht : e.topic.length ≤ 281474976710656) (hb : e.body.length ≤ 281474976710656) :
    Calls Tryd.prog 8 #[env e] w fun x w' => x = .returned (.tuple #[.string (oct.tx (putE e).1), .int .i64 (putE e).2]) ∧ Below w.heap.size w w' := by
  obtain ⟨w1, hw1⟩ : ∃ u, u = w.alloc (.cells (enc e).toArray 25) := ⟨_, rfl⟩
  obtain ⟨S, hS⟩ : ∃ S, S = w.heap.size := ⟨_, rfl⟩
  have hX : Blk w1 S 25 (enc e).toArray := by rw [hw1, hS]; exact Blk.new w _ _
  have hB : Below w.heap.size w w1 := by rw [hw1]; exact (Below.refl _ _).alloc (Nat.le_refl _) _
  have hck := lcheck_any e w1 (hT.next hB) hr ht hb
  have hld := run_load_en hX hr
  obtain ⟨c, hc⟩ : ∃ c, checkE e = c := ⟨_, rfl⟩
  rw [hc] at hck
  have HX := Lib.hid hX
  have HB := Lib.hid hB
  have HS := Lib.hid hS
  have HW := Lib.hid hw1
  have HR := Lib.hid hr
  have HCK := Lib.hid hck
  have HC := Lib.hid hc
  have HLD := Lib.hid hld
  have hhas := fun u => lhas_any e.k u
  clear hX hB hw1 hS hT hck hc hld ht hb
  unfold env at HLD HCK ⊢
  by_cases h0 : c = 0
  · subst h0
    obtain ⟨hk, hbl, h4⟩ := check_four HC.out
    have HPUT : Hid (putE e = (enE e, 0)) := Lib.hid (put_ok HC.out)
    have HK : Hid (0 ≤ e.k ∧ e.k < 256) := Lib.hid (by omega)
    have HBL := Lib.hid hbl
    clear hk hbl hr
    rcases h4 with ⟨a, ee⟩ | ⟨a, ee⟩ | ⟨a, ee, tl⟩ | ⟨a, ee, tl⟩
    · clear ee
      have HH : Hid (∀ u, Calls Tryd.prog 19 #[.int .i64 e.k] u fun x w' => x = .returned (.int .i64 4) ∧ u = w') := Lib.hid (by
        have e1 : hasK e.k = 4 := by unfold hasK; rw [if_pos a]
        rw [e1] at hhas
        exact hhas)
      have HE : Hid (enE e = b1 e.k ++ e.body) := Lib.hid (by unfold enE tailE; rw [if_pos a])
      clear a hhas
      go_enter Tryd.func8, Tryd.ntmps8
      go_upto_region 1 with fail
      refine wp_at HW.out.symm ?_
      rw [← HS.out]
      clear HW
      go_upto_region 4 with (first
        | ((with_reducible refine step_load (t := 25) (x := .tmp 1) (p := ?lpp1) (v := ?lvp1) ?lgp1 ?lop1 ?lxp1 ?lrp1 ?lhp1); (case lgp1 => rfl); (case lop1 => rfl); (case lxp1 => rfl); (case lrp1 => exact HLD.out))
        | (go_at_call 10; (with_reducible refine HCK.out.mono ?_); rintro x w2 ⟨rfl, hb2⟩))
      have hX2 := HX.out.below hb2 HX.out.lt
      have HX2 := Lib.hid hX2
      have HB2 := Lib.hid (HB.out.trans (hb2.mono HB.out.size))
      clear hX2 hb2
      refine wp_region_held_drew (S := fun u => Blk u S 25 (enc e).toArray) (by kernel_rfl) ?_ (fun hHeld => ?_)
      · exact HX2.out
      refine' wpAnyH_take (i := 1) ?hip11 (by kernel_rfl) (by kernel_rfl) (by kernel_rfl) ?hqp11 (Or.inl ⟨?hwp11, ?hyp11⟩) (by assumption) ?hrp11
      case hip11 => (simp only [List.getElem?_toArray, List.getElem?_cons_succ, List.getElem?_cons_zero]; rfl)
      case hqp11 => exact fun _ _ _ h => h
      case hwp11 => rfl
      case hyp11 => (intro w0 hSw; (try dsimp only at hSw); go_simp; try with_reducible rfl)
      (try simp only [Act.put, List.setIfInBounds_toArray, List.set_cons_zero, List.set_cons_succ])
      refine' wpAnyH_take (i := 2) ?hip12 (by kernel_rfl) (by kernel_rfl) (by kernel_rfl) ?hqp12 (Or.inl ⟨?hwp12, ?hyp12⟩) (by assumption) ?hrp12
      case hip12 => (simp only [List.getElem?_toArray, List.getElem?_cons_succ, List.getElem?_cons_zero]; rfl)
      case hqp12 => exact fun _ _ _ h => h
      case hwp12 => rfl
      case hyp12 => exact fun w0 hSw => by have hc := (EnBlk.of hSw HR.out).k; go_simp; try with_reducible rfl
      (try simp only [Act.put, List.setIfInBounds_toArray, List.set_cons_zero, List.set_cons_succ])
      refine wpAnyH_ready (rs := [0]) (by kernel_rfl) (by simp) ?_
      refine' AllReadyH.cons ?hip10 (fun K hK => ?hrp10) AllReadyH.nil
      case hip10 => (simp only [List.getElem?_toArray, List.getElem?_cons_succ, List.getElem?_cons_zero]; rfl)
      go_simp
      (with_reducible refine (oct.new_any _).mono ?_)
      rintro x w3 ⟨rfl, hw3, hb3⟩
      obtain ⟨g, hg⟩ : ∃ g, g = w2.heap.size := ⟨_, rfl⟩
      have hgd : w2.drew.heap.size = g := hg.symm
      rw [hgd] at hw3 hb3 ⊢
      have HG := Lib.hid hg
      have hp0 : EwP S g e w2 [] w3 := ⟨(show Blk w2.drew S _ _ from HX2.out).below hb3 (by have := HX2.out.lt; omega), WrIs.new hw3 (Nat.le_refl _), (show Turn (g ≤ ·) w2 w2.drew from (Turn.refl _ w2).drewN 1).trans (Turn.fresh (by rw [hgd]; exact hb3) (fun b hb => by rw [hgd] at hb; exact hb)), fun b hb => by have := hb3.size; omega, by have := HX2.out.lt; omega⟩
      have hq := ew_num1 hp0 (by simp) e.k HK.out.1 HK.out.2
      rw [List.nil_append] at hq
      have HP0 := Lib.hid hp0
      have HQ := Lib.hid hq
      clear hq hp0 hw3 hb3 hg
      refine hK.out _ _ ?_ (fun hHeld => ?_)
      · exact HP0.out.en
      clear hK K
      (try simp only [Act.put, List.setIfInBounds_toArray, List.set_cons_zero, List.set_cons_succ])
      refine wpAnyH_ready (rs := [3]) (by kernel_rfl) (by simp) ?_
      refine' AllReadyH.cons ?hip13 (fun K hK => ?hrp13) AllReadyH.nil
      case hip13 => (simp only [List.getElem?_toArray, List.getElem?_cons_succ, List.getElem?_cons_zero]; rfl)
      go_simp
      (with_reducible refine HQ.out.mono ?_)
      rintro x w4 ⟨rfl, hp1⟩
      have HP1 := Lib.hid hp1
      clear hp1 HQ
      refine hK.out _ _ ?_ (fun hHeld => ?_)
      · exact HP1.out.en
      clear hK K
      (try simp only [Act.put, List.setIfInBounds_toArray, List.set_cons_zero, List.set_cons_succ])
      refine' wpAnyH_take (i := 4) ?hip14 (by kernel_rfl) (by kernel_rfl) (by kernel_rfl) ?hqp14 (Or.inl ⟨?hwp14, ?hyp14⟩) (by assumption) ?hrp14
      case hip14 => (simp only [List.getElem?_toArray, List.getElem?_cons_succ, List.getElem?_cons_zero]; rfl)
      case hqp14 => exact fun _ _ _ h => h
      case hwp14 => rfl
      case hyp14 => (intro w0 hSw; (try dsimp only at hSw); go_simp; try with_reducible rfl)
      (try simp only [Act.put, List.setIfInBounds_toArray, List.set_cons_zero, List.set_cons_succ])
      refine wpAnyH_done (by kernel_rfl) ?_ _
      clear hHeld
      have hk1 := (EnBlk.of HP1.out.en HR.out).k
      have hbd := (EnBlk.of HP1.out.en HR.out).body
      have HQ3 := Lib.hid (ew_body HP1.out e.body (by rw [b1_len]; have := HBL.out; omega))
      go_wp2_with (first
        | (go_at_call 19; (with_reducible refine (HH.out _).mono ?_); rintro e w5 ⟨rfl, rfl⟩)
        | (go_at_call 22; (with_reducible refine HQ3.out.mono ?_); rintro e w7 ⟨rfl, hp3⟩; have HP3 := Lib.hid hp3; have HD := Lib.hid (oct.done_good (g ≤ ·) g _ w7 hp3.wr); clear hp3)
        | (go_at_call 23; (with_reducible refine HD.out.mono ?_); rintro e w8 ⟨rfl, rfl⟩))
      go_ret2
      refine ⟨by rw [HPUT.out, HE.out]; rfl, HB2.out.trans (HP3.out.turn.below fun b hb => ?_)⟩
      have := HB2.out.size
      have := HG.out
      omega
    · have HBE : Hid (e.body = []) := Lib.hid (by rw [ee])
      clear ee
      have HH : Hid (∀ u, Calls Tryd.prog 19 #[.int .i64 e.k] u fun x w' => x = .returned (.int .i64 2) ∧ u = w') := Lib.hid (by
        have e1 : hasK e.k = 2 := by unfold hasK; rw [if_neg (by omega), if_pos a]
        rw [e1] at hhas
        exact hhas)
      have HE : Hid (enE e = b1 e.k ++ e.commit ++ e.body) := Lib.hid (by unfold enE tailE; rw [if_neg (by omega), if_pos a, HBE.out, List.append_nil])
      clear a hhas
      go_enter Tryd.func8, Tryd.ntmps8
      go_upto_region 1 with fail
      refine wp_at HW.out.symm ?_
      rw [← HS.out]
      clear HW
      go_upto_region 4 with (first
        | ((with_reducible refine step_load (t := 25) (x := .tmp 1) (p := ?lpp2) (v := ?lvp2) ?lgp2 ?lop2 ?lxp2 ?lrp2 ?lhp2); (case lgp2 => rfl); (case lop2 => rfl); (case lxp2 => rfl); (case lrp2 => exact HLD.out))
        | (go_at_call 10; (with_reducible refine HCK.out.mono ?_); rintro x w2 ⟨rfl, hb2⟩))
      have hX2 := HX.out.below hb2 HX.out.lt
      have HX2 := Lib.hid hX2
      have HB2 := Lib.hid (HB.out.trans (hb2.mono HB.out.size))
      clear hX2 hb2
      refine wp_region_held_drew (S := fun u => Blk u S 25 (enc e).toArray) (by kernel_rfl) ?_ (fun hHeld => ?_)
      · exact HX2.out
      refine' wpAnyH_take (i := 1) ?hip21 (by kernel_rfl) (by kernel_rfl) (by kernel_rfl) ?hqp21 (Or.inl ⟨?hwp21, ?hyp21⟩) (by assumption) ?hrp21
      case hip21 => (simp only [List.getElem?_toArray, List.getElem?_cons_succ, List.getElem?_cons_zero]; rfl)
      case hqp21 => exact fun _ _ _ h => h
      case hwp21 => rfl
      case hyp21 => (intro w0 hSw; (try dsimp only at hSw); go_simp; try with_reducible rfl)
      (try simp only [Act.put, List.setIfInBounds_toArray, List.set_cons_zero, List.set_cons_succ])
      refine' wpAnyH_take (i := 2) ?hip22 (by kernel_rfl) (by kernel_rfl) (by kernel_rfl) ?hqp22 (Or.inl ⟨?hwp22, ?hyp22⟩) (by assumption) ?hrp22
      case hip22 => (simp only [List.getElem?_toArray, List.getElem?_cons_succ, List.getElem?_cons_zero]; rfl)
      case hqp22 => exact fun _ _ _ h => h
      case hwp22 => rfl
      case hyp22 => exact fun w0 hSw => by have hc := (EnBlk.of hSw HR.out).k; go_simp; try with_reducible rfl
      (try simp only [Act.put, List.setIfInBounds_toArray, List.set_cons_zero, List.set_cons_succ])
      refine wpAnyH_ready (rs := [0]) (by kernel_rfl) (by simp) ?_
      refine' AllReadyH.cons ?hip20 (fun K hK => ?hrp20) AllReadyH.nil
      case hip20 => (simp only [List.getElem?_toArray, List.getElem?_cons_succ, List.getElem?_cons_zero]; rfl)
      go_simp
      (with_reducible refine (oct.new_any _).mono ?_)
      rintro x w3 ⟨rfl, hw3, hb3⟩
      obtain ⟨g, hg⟩ : ∃ g, g = w2.heap.size := ⟨_, rfl⟩
      have hgd : w2.drew.heap.size = g := hg.symm
      rw [hgd] at hw3 hb3 ⊢
      have HG := Lib.hid hg
      have hp0 : EwP S g e w2 [] w3 := ⟨(show Blk w2.drew S _ _ from HX2.out).below hb3 (by have := HX2.out.lt; omega), WrIs.new hw3 (Nat.le_refl _), (show Turn (g ≤ ·) w2 w2.drew from (Turn.refl _ w2).drewN 1).trans (Turn.fresh (by rw [hgd]; exact hb3) (fun b hb => by rw [hgd] at hb; exact hb)), fun b hb => by have := hb3.size; omega, by have := HX2.out.lt; omega⟩
      have hq := ew_num1 hp0 (by simp) e.k HK.out.1 HK.out.2
      rw [List.nil_append] at hq
      have HP0 := Lib.hid hp0
      have HQ := Lib.hid hq
      clear hq hp0 hw3 hb3 hg
      refine hK.out _ _ ?_ (fun hHeld => ?_)
      · exact HP0.out.en
      clear hK K
      (try simp only [Act.put, List.setIfInBounds_toArray, List.set_cons_zero, List.set_cons_succ])
      refine wpAnyH_ready (rs := [3]) (by kernel_rfl) (by simp) ?_
      refine' AllReadyH.cons ?hip23 (fun K hK => ?hrp23) AllReadyH.nil
      case hip23 => (simp only [List.getElem?_toArray, List.getElem?_cons_succ, List.getElem?_cons_zero]; rfl)
      go_simp
      (with_reducible refine HQ.out.mono ?_)
      rintro x w4 ⟨rfl, hp1⟩
      have HP1 := Lib.hid hp1
      clear hp1 HQ
      refine hK.out _ _ ?_ (fun hHeld => ?_)
      · exact HP1.out.en
      clear hK K
      (try simp only [Act.put, List.setIfInBounds_toArray, List.set_cons_zero, List.set_cons_succ])
      refine' wpAnyH_take (i := 4) ?hip24 (by kernel_rfl) (by kernel_rfl) (by kernel_rfl) ?hqp24 (Or.inl ⟨?hwp24, ?hyp24⟩) (by assumption) ?hrp24
      case hip24 => (simp only [List.getElem?_toArray, List.getElem?_cons_succ, List.getElem?_cons_zero]; rfl)
      case hqp24 => exact fun _ _ _ h => h
      case hwp24 => rfl
      case hyp24 => (intro w0 hSw; (try dsimp only at hSw); go_simp; try with_reducible rfl)
      (try simp only [Act.put, List.setIfInBounds_toArray, List.set_cons_zero, List.set_cons_succ])
      refine wpAnyH_done (by kernel_rfl) ?_ _
      clear hHeld
      have hk1 := (EnBlk.of HP1.out.en HR.out).k
      have ht1 := (EnBlk.of HP1.out.en HR.out).commit 0
      have HQ2 := Lib.hid (ew_id HP1.out (by rw [b1_len]; decide) e.commit HR.out)
      go_wp2_with (first
        | (go_at_call 19; (with_reducible refine (HH.out _).mono ?_); rintro e w5 ⟨rfl, rfl⟩)
        | ((with_reducible refine step_load (t := 23) (x := .tmp 30) (p := ?lpp2x) (v := ?lvp2x) ?lgp2x ?lop2x ?lxp2x ?lrp2x ?lhp2x); (case lgp2x => rfl); (case lop2x => rfl); (case lxp2x => rfl); (case lrp2x => exact ht1))
        | (go_at_call 21; (with_reducible refine HQ2.out.mono ?_); rintro e w6 ⟨rfl, hp2⟩; have HP2 := Lib.hid hp2; have hbd := (EnBlk.of hp2.en HR.out).body; have HQ3 := Lib.hid (ew_body hp2 e.body (by rw [List.length_append, b1_len]; have := HR.out; have := HBL.out; omega)); clear hp2)
        | (go_at_call 22; (with_reducible refine HQ3.out.mono ?_); rintro e w7 ⟨rfl, hp3⟩; have HP3 := Lib.hid hp3; have HD := Lib.hid (oct.done_good (g ≤ ·) g _ w7 hp3.wr); clear hp3)
        | (go_at_call 23; (with_reducible refine HD.out.mono ?_); rintro e w8 ⟨rfl, rfl⟩))
      go_ret2
      refine ⟨by rw [HPUT.out, HE.out]; rfl, HB2.out.trans (HP3.out.turn.below fun b hb => ?_)⟩
      have := HB2.out.size
      have := HG.out
      omega
    · have HBE : Hid (e.body = []) := Lib.hid (by rw [ee])
      have HTL := Lib.hid tl
      clear ee tl
      have HH : Hid (∀ u, Calls Tryd.prog 19 #[.int .i64 e.k] u fun x w' => x = .returned (.int .i64 1) ∧ u = w') := Lib.hid (by
        have e1 : hasK e.k = 1 := by unfold hasK; rw [if_neg (by omega), if_neg (by omega), if_pos a]
        rw [e1] at hhas
        exact hhas)
      have HE : Hid (enE e = b1 e.k ++ txt e.topic ++ e.body) := Lib.hid (by unfold enE tailE; rw [if_neg (by omega), if_neg (by omega), if_pos a, HBE.out, List.append_nil])
      clear a hhas
      go_enter Tryd.func8, Tryd.ntmps8
      go_upto_region 1 with fail
      refine wp_at HW.out.symm ?_
      rw [← HS.out]
      clear HW
      go_upto_region 4 with (first
        | ((with_reducible refine step_load (t := 25) (x := .tmp 1) (p := ?lpp3) (v := ?lvp3) ?lgp3 ?lop3 ?lxp3 ?lrp3 ?lhp3); (case lgp3 => rfl); (case lop3 => rfl); (case lxp3 => rfl); (case lrp3 => exact HLD.out))
        | (go_at_call 10; (with_reducible refine HCK.out.mono ?_); rintro x w2 ⟨rfl, hb2⟩))
      have hX2 := HX.out.below hb2 HX.out.lt
      have HX2 := Lib.hid hX2
      have HB2 := Lib.hid (HB.out.trans (hb2.mono HB.out.size))
      clear hX2 hb2
      refine wp_region_held_drew (S := fun u => Blk u S 25 (enc e).toArray) (by kernel_rfl) ?_ (fun hHeld => ?_)
      · exact HX2.out
      refine' wpAnyH_take (i := 1) ?hip31 (by kernel_rfl) (by kernel_rfl) (by kernel_rfl) ?hqp31 (Or.inl ⟨?hwp31, ?hyp31⟩) (by assumption) ?hrp31
      case hip31 => (simp only [List.getElem?_toArray, List.getElem?_cons_succ, List.getElem?_cons_zero]; rfl)
      case hqp31 => exact fun _ _ _ h => h
      case hwp31 => rfl
      case hyp31 => (intro w0 hSw; (try dsimp only at hSw); go_simp; try with_reducible rfl)
      (try simp only [Act.put, List.setIfInBounds_toArray, List.set_cons_zero, List.set_cons_succ])
      refine' wpAnyH_take (i := 2) ?hip32 (by kernel_rfl) (by kernel_rfl) (by kernel_rfl) ?hqp32 (Or.inl ⟨?hwp32, ?hyp32⟩) (by assumption) ?hrp32
      case hip32 => (simp only [List.getElem?_toArray, List.getElem?_cons_succ, List.getElem?_cons_zero]; rfl)
      case hqp32 => exact fun _ _ _ h => h
      case hwp32 => rfl
      case hyp32 => exact fun w0 hSw => by have hc := (EnBlk.of hSw HR.out).k; go_simp; try with_reducible rfl
      (try simp only [Act.put, List.setIfInBounds_toArray, List.set_cons_zero, List.set_cons_succ])
      refine wpAnyH_ready (rs := [0]) (by kernel_rfl) (by simp) ?_
      refine' AllReadyH.cons ?hip30 (fun K hK => ?hrp30) AllReadyH.nil
      case hip30 => (simp only [List.getElem?_toArray, List.getElem?_cons_succ, List.getElem?_cons_zero]; rfl)
      go_simp
      (with_reducible refine (oct.new_any _).mono ?_)
      rintro x w3 ⟨rfl, hw3, hb3⟩
      obtain ⟨g, hg⟩ : ∃ g, g = w2.heap.size := ⟨_, rfl⟩
      have hgd : w2.drew.heap.size = g := hg.symm
      rw [hgd] at hw3 hb3 ⊢
      have HG := Lib.hid hg
      have hp0 : EwP S g e w2 [] w3 := ⟨(show Blk w2.drew S _ _ from HX2.out).below hb3 (by have := HX2.out.lt; omega), WrIs.new hw3 (Nat.le_refl _), (show Turn (g ≤ ·) w2 w2.drew from (Turn.refl _ w2).drewN 1).trans (Turn.fresh (by rw [hgd]; exact hb3) (fun b hb => by rw [hgd] at hb; exact hb)), fun b hb => by have := hb3.size; omega, by have := HX2.out.lt; omega⟩
      have hq := ew_num1 hp0 (by simp) e.k HK.out.1 HK.out.2
      rw [List.nil_append] at hq
      have HP0 := Lib.hid hp0
      have HQ := Lib.hid hq
      clear hq hp0 hw3 hb3 hg
      refine hK.out _ _ ?_ (fun hHeld => ?_)
      · exact HP0.out.en
      clear hK K
      (try simp only [Act.put, List.setIfInBounds_toArray, List.set_cons_zero, List.set_cons_succ])
      refine wpAnyH_ready (rs := [3]) (by kernel_rfl) (by simp) ?_
      refine' AllReadyH.cons ?hip33 (fun K hK => ?hrp33) AllReadyH.nil
      case hip33 => (simp only [List.getElem?_toArray, List.getElem?_cons_succ, List.getElem?_cons_zero]; rfl)
      go_simp
      (with_reducible refine HQ.out.mono ?_)
      rintro x w4 ⟨rfl, hp1⟩
      have HP1 := Lib.hid hp1
      clear hp1 HQ
      refine hK.out _ _ ?_ (fun hHeld => ?_)
      · exact HP1.out.en
      clear hK K
      (try simp only [Act.put, List.setIfInBounds_toArray, List.set_cons_zero, List.set_cons_succ])
      refine' wpAnyH_take (i := 4) ?hip34 (by kernel_rfl) (by kernel_rfl) (by kernel_rfl) ?hqp34 (Or.inl ⟨?hwp34, ?hyp34⟩) (by assumption) ?hrp34
      case hip34 => (simp only [List.getElem?_toArray, List.getElem?_cons_succ, List.getElem?_cons_zero]; rfl)
      case hqp34 => exact fun _ _ _ h => h
      case hwp34 => rfl
      case hyp34 => (intro w0 hSw; (try dsimp only at hSw); go_simp; try with_reducible rfl)
      (try simp only [Act.put, List.setIfInBounds_toArray, List.set_cons_zero, List.set_cons_succ])
      refine wpAnyH_done (by kernel_rfl) ?_ _
      clear hHeld
      have hk1 := (EnBlk.of HP1.out.en HR.out).k
      have ht1 := (EnBlk.of HP1.out.en HR.out).topic
      have HQ2 := Lib.hid (ew_text HP1.out (by rw [b1_len]; decide) e.topic (by have := HTL.out; omega))
      go_wp2_with (first
        | (go_at_call 19; (with_reducible refine (HH.out _).mono ?_); rintro e w5 ⟨rfl, rfl⟩)
        | (go_at_call 20; (with_reducible refine HQ2.out.mono ?_); rintro e w6 ⟨rfl, hp2⟩; have HP2 := Lib.hid hp2; have hbd := (EnBlk.of hp2.en HR.out).body; have HQ3 := Lib.hid (ew_body hp2 e.body (by rw [List.length_append, b1_len]; have := txt_len1 e.topic; have := HTL.out; have := HBL.out; omega)); clear hp2)
        | (go_at_call 22; (with_reducible refine HQ3.out.mono ?_); rintro e w7 ⟨rfl, hp3⟩; have HP3 := Lib.hid hp3; have HD := Lib.hid (oct.done_good (g ≤ ·) g _ w7 hp3.wr); clear hp3)
        | (go_at_call 23; (with_reducible refine HD.out.mono ?_); rintro e w8 ⟨rfl, rfl⟩))
      go_ret2
      refine ⟨by rw [HPUT.out, HE.out]; rfl, HB2.out.trans (HP3.out.turn.below fun b hb => ?_)⟩
      have := HB2.out.size
      have := HG.out
      omega
    · have HTL := Lib.hid tl
      clear ee tl
      have HH : Hid (∀ u, Calls Tryd.prog 19 #[.int .i64 e.k] u fun x w' => x = .returned (.int .i64 5) ∧ u = w') := Lib.hid (by
        have e1 : hasK e.k = 5 := by unfold hasK; rw [if_neg (by omega), if_neg (by omega), if_neg (by omega), if_pos a]
        rw [e1] at hhas
        exact hhas)
      have HE : Hid (enE e = b1 e.k ++ txt e.topic ++ e.body) := Lib.hid (by unfold enE tailE; rw [if_neg (by omega), if_neg (by omega), if_neg (by omega), List.append_assoc])
      clear a hhas
      go_enter Tryd.func8, Tryd.ntmps8
      go_upto_region 1 with fail
      refine wp_at HW.out.symm ?_
      rw [← HS.out]
      clear HW
      go_upto_region 4 with (first
        | ((with_reducible refine step_load (t := 25) (x := .tmp 1) (p := ?lpp4) (v := ?lvp4) ?lgp4 ?lop4 ?lxp4 ?lrp4 ?lhp4); (case lgp4 => rfl); (case lop4 => rfl); (case lxp4 => rfl); (case lrp4 => exact HLD.out))
        | (go_at_call 10; (with_reducible refine HCK.out.mono ?_); rintro x w2 ⟨rfl, hb2⟩))
      have hX2 := HX.out.below hb2 HX.out.lt
      have HX2 := Lib.hid hX2
      have HB2 := Lib.hid (HB.out.trans (hb2.mono HB.out.size))
      clear hX2 hb2
      refine wp_region_held_drew (S := fun u => Blk u S 25 (enc e).toArray) (by kernel_rfl) ?_ (fun hHeld => ?_)
      · exact HX2.out
      refine' wpAnyH_take (i := 1) ?hip41 (by kernel_rfl) (by kernel_rfl) (by kernel_rfl) ?hqp41 (Or.inl ⟨?hwp41, ?hyp41⟩) (by assumption) ?hrp41
      case hip41 => (simp only [List.getElem?_toArray, List.getElem?_cons_succ, List.getElem?_cons_zero]; rfl)
      case hqp41 => exact fun _ _ _ h => h
      case hwp41 => rfl
      case hyp41 => (intro w0 hSw; (try dsimp only at hSw); go_simp; try with_reducible rfl)
      (try simp only [Act.put, List.setIfInBounds_toArray, List.set_cons_zero, List.set_cons_succ])
      refine' wpAnyH_take (i := 2) ?hip42 (by kernel_rfl) (by kernel_rfl) (by kernel_rfl) ?hqp42 (Or.inl ⟨?hwp42, ?hyp42⟩) (by assumption) ?hrp42
      case hip42 => (simp only [List.getElem?_toArray, List.getElem?_cons_succ, List.getElem?_cons_zero]; rfl)
      case hqp42 => exact fun _ _ _ h => h
      case hwp42 => rfl
      case hyp42 => exact fun w0 hSw => by have hc := (EnBlk.of hSw HR.out).k; go_simp; try with_reducible rfl
      (try simp only [Act.put, List.setIfInBounds_toArray, List.set_cons_zero, List.set_cons_succ])
      refine wpAnyH_ready (rs := [0]) (by kernel_rfl) (by simp) ?_
      refine' AllReadyH.cons ?hip40 (fun K hK => ?hrp40) AllReadyH.nil
      case hip40 => (simp only [List.getElem?_toArray, List.getElem?_cons_succ, List.getElem?_cons_zero]; rfl)
      go_simp
      (with_reducible refine (oct.new_any _).mono ?_)
      rintro x w3 ⟨rfl, hw3, hb3⟩
      obtain ⟨g, hg⟩ : ∃ g, g = w2.heap.size := ⟨_, rfl⟩
      have hgd : w2.drew.heap.size = g := hg.symm
      rw [hgd] at hw3 hb3 ⊢
      have HG := Lib.hid hg
      have hp0 : EwP S g e w2 [] w3 := ⟨(show Blk w2.drew S _ _ from HX2.out).below hb3 (by have := HX2.out.lt; omega), WrIs.new hw3 (Nat.le_refl _), (show Turn (g ≤ ·) w2 w2.drew from (Turn.refl _ w2).drewN 1).trans (Turn.fresh (by rw [hgd]; exact hb3) (fun b hb => by rw [hgd] at hb; exact hb)), fun b hb => by have := hb3.size; omega, by have := HX2.out.lt; omega⟩
      have hq := ew_num1 hp0 (by simp) e.k HK.out.1 HK.out.2
      rw [List.nil_append] at hq
      have HP0 := Lib.hid hp0
      have HQ := Lib.hid hq
      clear hq hp0 hw3 hb3 hg
      refine hK.out _ _ ?_ (fun hHeld => ?_)
      · exact HP0.out.en
      clear hK K
      (try simp only [Act.put, List.setIfInBounds_toArray, List.set_cons_zero, List.set_cons_succ])
      refine wpAnyH_ready (rs := [3]) (by kernel_rfl) (by simp) ?_
      refine' AllReadyH.cons ?hip43 (fun K hK => ?hrp43) AllReadyH.nil
      case hip43 => (simp only [List.getElem?_toArray, List.getElem?_cons_succ, List.getElem?_cons_zero]; rfl)
      go_simp
      (with_reducible refine HQ.out.mono ?_)
      rintro x w4 ⟨rfl, hp1⟩
      have HP1 := Lib.hid hp1
      clear hp1 HQ
      refine hK.out _ _ ?_ (fun hHeld => ?_)
      · exact HP1.out.en
      clear hK K
      (try simp only [Act.put, List.setIfInBounds_toArray, List.set_cons_zero, List.set_cons_succ])
      refine' wpAnyH_take (i := 4) ?hip44 (by kernel_rfl) (by kernel_rfl) (by kernel_rfl) ?hqp44 (Or.inl ⟨?hwp44, ?hyp44⟩) (by assumption) ?hrp44
      case hip44 => (simp only [List.getElem?_toArray, List.getElem?_cons_succ, List.getElem?_cons_zero]; rfl)
      case hqp44 => exact fun _ _ _ h => h
      case hwp44 => rfl
      case hyp44 => (intro w0 hSw; (try dsimp only at hSw); go_simp; try with_reducible rfl)
      (try simp only [Act.put, List.setIfInBounds_toArray, List.set_cons_zero, List.set_cons_succ])
      refine wpAnyH_done (by kernel_rfl) ?_ _
      clear hHeld
      have hk1 := (EnBlk.of HP1.out.en HR.out).k
      have ht1 := (EnBlk.of HP1.out.en HR.out).topic
      have HQ2 := Lib.hid (ew_text HP1.out (by rw [b1_len]; decide) e.topic (by have := HTL.out; omega))
      go_wp2_with (first
        | (go_at_call 19; (with_reducible refine (HH.out _).mono ?_); rintro e w5 ⟨rfl, rfl⟩)
        | (go_at_call 20; (with_reducible refine HQ2.out.mono ?_); rintro e w6 ⟨rfl, hp2⟩; have HP2 := Lib.hid hp2; have hbd := (EnBlk.of hp2.en HR.out).body; have HQ3 := Lib.hid (ew_body hp2 e.body (by rw [List.length_append, b1_len]; have := txt_len1 e.topic; have := HTL.out; have := HBL.out; omega)); clear hp2)
        | (go_at_call 22; (with_reducible refine HQ3.out.mono ?_); rintro e w7 ⟨rfl, hp3⟩; have HP3 := Lib.hid hp3; have HD := Lib.hid (oct.done_good (g ≤ ·) g _ w7 hp3.wr); clear hp3)
        | (go_at_call 23; (with_reducible refine HD.out.mono ?_); rintro e w8 ⟨rfl, rfl⟩))
      go_ret2
      refine ⟨by rw [HPUT.out, HE.out]; rfl, HB2.out.trans (HP3.out.turn.below fun b hb => ?_)⟩
      have := HB2.out.size
      have := HG.out
      omega
  · have hne : (c != 0) = true := bne_iff_ne.2 h0
    have HE : Hid (putE e = ([], c)) := Lib.hid (by rw [put_no (by rw [HC.out]; exact h0), HC.out])
    clear h0 hhas
    go_enter Tryd.func8, Tryd.ntmps8
    go_upto_region 1 with fail
    refine wp_at HW.out.symm ?_
    rw [← HS.out]
    clear HW
    go_wp2_with (first
      | ((with_reducible refine step_load (t := 25) (x := .tmp 1) (p := ?lppn) (v := ?lvpn) ?lgpn ?lopn ?lxpn ?lrpn ?lhpn); (case lgpn => rfl); (case lopn => rfl); (case lxpn => rfl); (case lrpn => exact HLD.out))
      | (go_at_call 10; (with_reducible refine HCK.out.mono ?_); rintro e w2 ⟨rfl, hb2⟩))
    go_ret2
    exact ⟨by rw [HE.out]; rfl, HB.out.trans (hb2.mono HB.out.size)⟩
end Go.Proofs.YtbhkegdohiekfaaDoor.ent
