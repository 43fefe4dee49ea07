/-
  The landed entry: Check.
-/
import Derived.Test.YtbhkegdohiekfaaDoorEla
import Derived.Test.YtbhkegdohiekfaaDoorTopj
namespace Go.Proofs.YtbhkegdohiekfaaDoor.ent
open Go.RowKit Go.Proofs.YtbhkegdohiekfaaDoor.mem Go.Proofs.YtbhkegdohiekfaaDoor.sha Go.Proofs.YtbhkegdohiekfaaDoor.ids
open Go.Proofs.YtbhkegdohiekfaaDoor.opn (b1 b2 b4 num txt idl byte rd rdN rdT rdI rdS rdL St Reads Stays endE zid mkId)
open Go.Proofs.YtbhkegdohiekfaaDoor.topic (kindOf)

open Go.Proofs.YtbhkegdohiekfaaDoor.topic (checkOf)
def badB (j : Nat) (a b c : Bool) : Bool := (decide (j ≤ 2) && a) || ((decide (j ≠ 2) && b) || (decide (j = 2 ∨ j = 3) && c))
theorem bad_1 : ∀ a b c : Bool, (bits .andNot .i64 (bitsE a b c) 4 != 0) = badB 1 a b c := by decide +kernel
theorem bad_2 : ∀ a b c : Bool, (bits .andNot .i64 (bitsE a b c) 2 != 0) = badB 2 a b c := by decide +kernel
theorem bad_3 : ∀ a b c : Bool, (bits .andNot .i64 (bitsE a b c) 1 != 0) = badB 3 a b c := by decide +kernel
theorem bad_4 : ∀ a b c : Bool, (bits .andNot .i64 (bitsE a b c) 5 != 0) = badB 4 a b c := by decide +kernel
theorem bad_iff (e : En) : badB (kindE e.k) (!e.topic.isEmpty) (e.commit != zid) (!e.body.isEmpty) = true ↔ badE e := by
  unfold badB badE
  simp [List.isEmpty_iff]
theorem given_bad (e : En) (h0 : kindE e.k ≠ 0) : (bits .andNot .i64 (givenE e) (hasK e.k) != 0) = true ↔ badE e := by
  rw [← bad_iff]
  unfold givenE hasK
  rcases kindE_cases e.k with ⟨a, -⟩ | ⟨a, -⟩ | ⟨a, -⟩ | ⟨a, -⟩ | ⟨a, -⟩
  · rw [a, if_pos rfl, bad_1]
  · rw [a, if_neg (by decide), if_pos rfl, bad_2]
  · rw [a, if_neg (by decide), if_neg (by decide), if_pos rfl, bad_3]
  · rw [a, if_neg (by decide), if_neg (by decide), if_neg (by decide), if_pos rfl, bad_4]
  · exact absurd a h0
theorem hasK_zero (k : Int) : hasK k = 0 ↔ kindE k = 0 := by
  unfold hasK
  rcases kindE_cases k with ⟨a, -⟩ | ⟨a, -⟩ | ⟨a, -⟩ | ⟨a, -⟩ | ⟨a, -⟩ <;> rw [a] <;> simp
theorem hasK_topic (k : Int) : (bits .and .i64 (hasK k) 1 != 0) = decide (3 ≤ kindE k) := by
  unfold hasK
  rcases kindE_cases k with ⟨a, -⟩ | ⟨a, -⟩ | ⟨a, -⟩ | ⟨a, -⟩ | ⟨a, -⟩ <;> rw [a] <;> decide +kernel
theorem hasK_commit (k : Int) : (bits .and .i64 (hasK k) 2 != 0) = decide (kindE k = 2) := by
  unfold hasK
  rcases kindE_cases k with ⟨a, -⟩ | ⟨a, -⟩ | ⟨a, -⟩ | ⟨a, -⟩ | ⟨a, -⟩ <;> rw [a] <;> decide +kernel
theorem hasK_body (k : Int) : (bits .and .i64 (hasK k) 4 != 0) = decide (kindE k = 1 ∨ kindE k = 4) := by
  unfold hasK
  rcases kindE_cases k with ⟨a, -⟩ | ⟨a, -⟩ | ⟨a, -⟩ | ⟨a, -⟩ | ⟨a, -⟩ <;> rw [a] <;> decide +kernel
/-- Check, as the landed code asks it -/
theorem check_land (e : En) : checkE e = if hasK e.k = 0 then 10 else if (bits .andNot .i64 (givenE e) (hasK e.k) != 0) = true then 4 else if (bits .and .i64 (hasK e.k) 1 != 0) = true ∧ checkOf e.topic ≠ 0 then 9 else if (e.body.length : Int) < roomL e.k then 4 else if roomM e.k < (e.body.length : Int) then 3 else 0 := by
  unfold checkE
  by_cases h0 : kindE e.k = 0
  · rw [if_pos h0, if_pos ((hasK_zero _).2 h0)]
  rw [if_neg h0, if_neg (fun h => h0 ((hasK_zero _).1 h))]
  by_cases hb : badE e
  · rw [if_pos hb, if_pos ((given_bad e h0).2 hb)]
  rw [if_neg hb, if_neg (fun h => hb ((given_bad e h0).1 h))]
  have e9 : ((bits .and .i64 (hasK e.k) 1 != 0) = true ∧ checkOf e.topic ≠ 0) ↔ (3 ≤ kindE e.k ∧ kindOf e.topic = 0) := by
    rw [hasK_topic, decide_eq_true_iff]
    unfold checkOf
    by_cases h : kindOf e.topic = 0 <;> simp [h]
  simp only [e9]
  by_cases ht : 3 ≤ kindE e.k ∧ kindOf e.topic = 0
  · rw [if_pos ht, if_pos ht]
  rw [if_neg ht, if_neg ht]
  have hlen : e.body = [] ↔ e.body.length = 0 := by simp
  unfold badE at hb
  simp only [hlen]
  unfold roomL roomM mostE
  rcases kindE_cases e.k with ⟨a, h⟩ | ⟨a, h⟩ | ⟨a, h⟩ | ⟨a, h⟩ | ⟨a, h⟩
  · rw [a]
    repeat' split
    all_goals first | rfl | (exfalso; omega)
  · have hz : e.body.length = 0 := hlen.1 (Decidable.not_not.1 fun hh => hb (.inr (.inr ⟨.inl a, hh⟩)))
    rw [a, hz, h]; rfl
  · have hz : e.body.length = 0 := hlen.1 (Decidable.not_not.1 fun hh => hb (.inr (.inr ⟨.inr a, hh⟩)))
    rw [a, hz]
    rcases h with h | h <;> rw [h] <;> rfl
  · rw [a, h]
    repeat' split
    all_goals first | rfl | (exfalso; omega)
  · exact absurd a h0
set_option maxHeartbeats 8000000 in
set_option maxRecDepth 100000 in
theorem lcheck_any (e : En) (w : World) (hT : topic.Tab w) (hr : e.commit.length = 32) (ht : e.topic.length ≤ 281474976710656) (hb : e.body.length ≤ 281474976710656) :
    Calls Tryd.prog 10 #[env e] w fun x w' => x = .returned (.int .i64 (checkE e)) ∧ Below w.heap.size w w' := by
  obtain ⟨w1, hw1⟩ : ∃ u, u = w.alloc (.cells (enc e).toArray 25) := ⟨_, rfl⟩
  obtain ⟨S, hS⟩ : ∃ S, S = w.heap.size := ⟨_, rfl⟩
  have hX : Blk w1 S 25 (enc e).toArray := by rw [hw1, hS]; exact Blk.new w _ _
  have hB : Below w.heap.size w w1 := by rw [hw1]; exact (Below.refl _ _).alloc (Nat.le_refl _) _
  have c0 := (EnBlk.of hX hr).k
  have hld := run_load_en hX hr
  have HX := Lib.hid hX
  have HB := Lib.hid hB
  have HS := Lib.hid hS
  have HW := Lib.hid hw1
  have HR := Lib.hid hr
  have HT1 := Lib.hid (hT.next hB)
  have HCK := Lib.hid (check_land e)
  obtain ⟨k, hk⟩ : ∃ k, k = e.k := ⟨_, rfl⟩
  rw [← hk] at c0 HCK
  have hhas := fun u => lhas_any k u
  have hroom := fun u => lroom_any k u
  obtain ⟨h, hh⟩ : ∃ h, h = hasK k := ⟨_, rfl⟩
  rw [← hh] at hhas HCK
  obtain ⟨L, hL⟩ : ∃ h, h = roomL k := ⟨_, rfl⟩
  obtain ⟨M, hM⟩ : ∃ h, h = roomM k := ⟨_, rfl⟩
  rw [← hL, ← hM] at hroom HCK
  have hgiv := lgiven_any e w1 hr
  obtain ⟨g, hg⟩ : ∃ g, g = givenE e := ⟨_, rfl⟩
  rw [← hg] at hgiv HCK
  obtain ⟨ts, hts⟩ : ∃ b, b = oct.tx e.topic := ⟨_, rfl⟩
  obtain ⟨bs, hbs⟩ : ∃ b, b = oct.tx e.body := ⟨_, rfl⟩
  obtain ⟨c, hc⟩ : ∃ c, c = checkOf e.topic := ⟨_, rfl⟩
  have htop := fun u (hu : topic.Tab u) => topic.check_any ts u hu (by rw [hts, oct.tx_size]; exact ht)
  rw [show ts.data.toList = e.topic by rw [hts, oct.tx_list], ← hc] at htop
  rw [← hc] at HCK
  have hbz : (bs.size : Int) ≤ 281474976710656 := by rw [hbs, oct.tx_size]; omega
  rw [show (e.body.length : Int) = (bs.size : Int) by rw [hbs, oct.tx_size]] at HCK
  have HHAS := Lib.hid hhas
  have HROOM := Lib.hid hroom
  have HGIV := Lib.hid hgiv
  have HTOP := Lib.hid htop
  have HTS := Lib.hid hts
  have HBS := Lib.hid hbs
  have HLD := Lib.hid hld
  clear hX hB hw1 hS hr hT hk hhas hroom hh hL hM hgiv hg hts hbs hc htop hld ht hb
  unfold env at HGIV HLD ⊢
  by_cases h0 : h = 0
  · subst h0
    have HE : Hid (checkE e = 10) := Lib.hid (by rw [HCK.out, if_pos rfl])
    go_enter Tryd.func10, Tryd.ntmps10
    go_upto_region 1 with fail
    refine wp_at HW.out.symm ?_
    rw [← HS.out]
    clear HW
    go_wp2_with (first
      | (go_at_call 19; (with_reducible refine (HHAS.out _).mono ?_); rintro e w2 ⟨rfl, rfl⟩)
      | (go_at_call 27; (with_reducible refine (HROOM.out _).mono ?_); rintro e w2 ⟨rfl, rfl⟩))
    go_ret
    exact ⟨by rw [HE.out]; rfl, HB.out⟩
  have hh : (h == 0) = false := beq_eq_false_iff_ne.2 h0
  by_cases hA : (bits .andNot .i64 g h != 0) = true
  · have HE : Hid (checkE e = 4) := Lib.hid (by rw [HCK.out, if_neg h0, if_pos hA])
    clear h0
    go_enter Tryd.func10, Tryd.ntmps10
    go_upto_region 1 with fail
    refine wp_at HW.out.symm ?_
    rw [← HS.out]
    clear HW
    go_wp2_with (first
      | (go_at_call 19; (with_reducible refine (HHAS.out _).mono ?_); rintro e w2 ⟨rfl, rfl⟩)
      | (go_at_call 27; (with_reducible refine (HROOM.out _).mono ?_); rintro e w2 ⟨rfl, rfl⟩)
      | ((with_reducible refine step_load (t := 25) (x := .tmp 1) (p := ?lpc2) (v := ?lvc2) ?lgc2 ?loc2 ?lxc2 ?lrc2 ?lhc2); (case lgc2 => rfl); (case loc2 => rfl); (case lxc2 => rfl); (case lrc2 => exact HLD.out))
      | (go_at_call 28; (with_reducible refine HGIV.out.mono ?_); rintro e w2 ⟨rfl, hb2⟩; have hX2 := HX.out.below hb2 HX.out.lt; have c1 := (EnBlk.of hX2 HR.out).topic; have c2 := (EnBlk.of hX2 HR.out).body; rw [← HTS.out] at c1; rw [← HBS.out] at c2; have HX2 := Lib.hid hX2; have HB2 := Lib.hid (HB.out.trans (hb2.mono HB.out.size)); have HT2 := Lib.hid (HTOP.out w2 (HT1.out.next hb2)); clear hX2 hb2))
    go_ret
    exact ⟨by rw [HE.out]; rfl, HB2.out⟩
  have hAf : (bits .andNot .i64 g h != 0) = false := by simpa using hA
  by_cases hC : (bits .and .i64 h 1 != 0) = true
  · by_cases hD : c = 0
    · subst hD
      by_cases hlt : (bs.size : Int) < L
      · have HE : Hid (checkE e = 4) := Lib.hid (by rw [HCK.out, if_neg h0, if_neg hA, if_neg (fun h => absurd h.2 (by decide)), if_pos hlt])
        go_enter Tryd.func10, Tryd.ntmps10
        go_upto_region 1 with fail
        refine wp_at HW.out.symm ?_
        rw [← HS.out]
        clear HW
        go_wp2_with (first
          | (go_at_call 19; (with_reducible refine (HHAS.out _).mono ?_); rintro e w2 ⟨rfl, rfl⟩)
          | (go_at_call 27; (with_reducible refine (HROOM.out _).mono ?_); rintro e w2 ⟨rfl, rfl⟩)
          | ((with_reducible refine step_load (t := 25) (x := .tmp 1) (p := ?lpc3) (v := ?lvc3) ?lgc3 ?loc3 ?lxc3 ?lrc3 ?lhc3); (case lgc3 => rfl); (case loc3 => rfl); (case lxc3 => rfl); (case lrc3 => exact HLD.out))
          | (go_at_call 28; (with_reducible refine HGIV.out.mono ?_); rintro e w2 ⟨rfl, hb2⟩; have hX2 := HX.out.below hb2 HX.out.lt; have c1 := (EnBlk.of hX2 HR.out).topic; have c2 := (EnBlk.of hX2 HR.out).body; rw [← HTS.out] at c1; rw [← HBS.out] at c2; have HX2 := Lib.hid hX2; have HB2 := Lib.hid (HB.out.trans (hb2.mono HB.out.size)); have HT2 := Lib.hid (HTOP.out w2 (HT1.out.next hb2)); clear hX2 hb2)
          | (go_at_call 29; (with_reducible refine HT2.out.mono ?_); rintro e w3 ⟨rfl, hb3⟩; have hX3 := HX2.out.below hb3 HX2.out.lt; have c3 := (EnBlk.of hX3 HR.out).body; rw [← HBS.out] at c3; have HB3 := Lib.hid (HB2.out.trans (hb3.mono HB2.out.size)); clear hX3 hb3))
        go_ret
        exact ⟨by rw [HE.out]; rfl, HB3.out⟩
      by_cases hgt : M < (bs.size : Int)
      · have HE : Hid (checkE e = 3) := Lib.hid (by rw [HCK.out, if_neg h0, if_neg hA, if_neg (fun h => absurd h.2 (by decide)), if_neg hlt, if_pos hgt])
        go_enter Tryd.func10, Tryd.ntmps10
        go_upto_region 1 with fail
        refine wp_at HW.out.symm ?_
        rw [← HS.out]
        clear HW
        go_wp2_with (first
          | (go_at_call 19; (with_reducible refine (HHAS.out _).mono ?_); rintro e w2 ⟨rfl, rfl⟩)
          | (go_at_call 27; (with_reducible refine (HROOM.out _).mono ?_); rintro e w2 ⟨rfl, rfl⟩)
          | ((with_reducible refine step_load (t := 25) (x := .tmp 1) (p := ?lpc4) (v := ?lvc4) ?lgc4 ?loc4 ?lxc4 ?lrc4 ?lhc4); (case lgc4 => rfl); (case loc4 => rfl); (case lxc4 => rfl); (case lrc4 => exact HLD.out))
          | (go_at_call 28; (with_reducible refine HGIV.out.mono ?_); rintro e w2 ⟨rfl, hb2⟩; have hX2 := HX.out.below hb2 HX.out.lt; have c1 := (EnBlk.of hX2 HR.out).topic; have c2 := (EnBlk.of hX2 HR.out).body; rw [← HTS.out] at c1; rw [← HBS.out] at c2; have HX2 := Lib.hid hX2; have HB2 := Lib.hid (HB.out.trans (hb2.mono HB.out.size)); have HT2 := Lib.hid (HTOP.out w2 (HT1.out.next hb2)); clear hX2 hb2)
          | (go_at_call 29; (with_reducible refine HT2.out.mono ?_); rintro e w3 ⟨rfl, hb3⟩; have hX3 := HX2.out.below hb3 HX2.out.lt; have c3 := (EnBlk.of hX3 HR.out).body; rw [← HBS.out] at c3; have HB3 := Lib.hid (HB2.out.trans (hb3.mono HB2.out.size)); clear hX3 hb3))
        go_ret
        exact ⟨by rw [HE.out]; rfl, HB3.out⟩
      have HE : Hid (checkE e = 0) := Lib.hid (by rw [HCK.out, if_neg h0, if_neg hA, if_neg (fun h => absurd h.2 (by decide)), if_neg hlt, if_neg hgt])
      go_enter Tryd.func10, Tryd.ntmps10
      go_upto_region 1 with fail
      refine wp_at HW.out.symm ?_
      rw [← HS.out]
      clear HW
      go_wp2_with (first
        | (go_at_call 19; (with_reducible refine (HHAS.out _).mono ?_); rintro e w2 ⟨rfl, rfl⟩)
        | (go_at_call 27; (with_reducible refine (HROOM.out _).mono ?_); rintro e w2 ⟨rfl, rfl⟩)
        | ((with_reducible refine step_load (t := 25) (x := .tmp 1) (p := ?lpc5) (v := ?lvc5) ?lgc5 ?loc5 ?lxc5 ?lrc5 ?lhc5); (case lgc5 => rfl); (case loc5 => rfl); (case lxc5 => rfl); (case lrc5 => exact HLD.out))
        | (go_at_call 28; (with_reducible refine HGIV.out.mono ?_); rintro e w2 ⟨rfl, hb2⟩; have hX2 := HX.out.below hb2 HX.out.lt; have c1 := (EnBlk.of hX2 HR.out).topic; have c2 := (EnBlk.of hX2 HR.out).body; rw [← HTS.out] at c1; rw [← HBS.out] at c2; have HX2 := Lib.hid hX2; have HB2 := Lib.hid (HB.out.trans (hb2.mono HB.out.size)); have HT2 := Lib.hid (HTOP.out w2 (HT1.out.next hb2)); clear hX2 hb2)
        | (go_at_call 29; (with_reducible refine HT2.out.mono ?_); rintro e w3 ⟨rfl, hb3⟩; have hX3 := HX2.out.below hb3 HX2.out.lt; have c3 := (EnBlk.of hX3 HR.out).body; rw [← HBS.out] at c3; have HB3 := Lib.hid (HB2.out.trans (hb3.mono HB2.out.size)); clear hX3 hb3))
      go_ret
      exact ⟨by rw [HE.out]; rfl, HB3.out⟩
    · have hDt : (c != 0) = true := bne_iff_ne.2 hD
      have HE : Hid (checkE e = 9) := Lib.hid (by rw [HCK.out, if_neg h0, if_neg hA, if_pos ⟨hC, hD⟩])
      clear hD
      go_enter Tryd.func10, Tryd.ntmps10
      go_upto_region 1 with fail
      refine wp_at HW.out.symm ?_
      rw [← HS.out]
      clear HW
      go_wp2_with (first
        | (go_at_call 19; (with_reducible refine (HHAS.out _).mono ?_); rintro e w2 ⟨rfl, rfl⟩)
        | (go_at_call 27; (with_reducible refine (HROOM.out _).mono ?_); rintro e w2 ⟨rfl, rfl⟩)
        | ((with_reducible refine step_load (t := 25) (x := .tmp 1) (p := ?lpc6) (v := ?lvc6) ?lgc6 ?loc6 ?lxc6 ?lrc6 ?lhc6); (case lgc6 => rfl); (case loc6 => rfl); (case lxc6 => rfl); (case lrc6 => exact HLD.out))
        | (go_at_call 28; (with_reducible refine HGIV.out.mono ?_); rintro e w2 ⟨rfl, hb2⟩; have hX2 := HX.out.below hb2 HX.out.lt; have c1 := (EnBlk.of hX2 HR.out).topic; have c2 := (EnBlk.of hX2 HR.out).body; rw [← HTS.out] at c1; rw [← HBS.out] at c2; have HX2 := Lib.hid hX2; have HB2 := Lib.hid (HB.out.trans (hb2.mono HB.out.size)); have HT2 := Lib.hid (HTOP.out w2 (HT1.out.next hb2)); clear hX2 hb2)
        | (go_at_call 29; (with_reducible refine HT2.out.mono ?_); rintro e w3 ⟨rfl, hb3⟩; have hX3 := HX2.out.below hb3 HX2.out.lt; have c3 := (EnBlk.of hX3 HR.out).body; rw [← HBS.out] at c3; have HB3 := Lib.hid (HB2.out.trans (hb3.mono HB2.out.size)); clear hX3 hb3))
      go_ret
      exact ⟨by rw [HE.out]; rfl, HB3.out⟩
  have hCf : (bits .and .i64 h 1 != 0) = false := by simpa using hC
  by_cases hlt : (bs.size : Int) < L
  · have HE : Hid (checkE e = 4) := Lib.hid (by rw [HCK.out, if_neg h0, if_neg hA, if_neg (fun h => hC h.1), if_pos hlt])
    go_enter Tryd.func10, Tryd.ntmps10
    go_upto_region 1 with fail
    refine wp_at HW.out.symm ?_
    rw [← HS.out]
    clear HW
    go_wp2_with (first
      | (go_at_call 19; (with_reducible refine (HHAS.out _).mono ?_); rintro e w2 ⟨rfl, rfl⟩)
      | (go_at_call 27; (with_reducible refine (HROOM.out _).mono ?_); rintro e w2 ⟨rfl, rfl⟩)
      | ((with_reducible refine step_load (t := 25) (x := .tmp 1) (p := ?lpc7) (v := ?lvc7) ?lgc7 ?loc7 ?lxc7 ?lrc7 ?lhc7); (case lgc7 => rfl); (case loc7 => rfl); (case lxc7 => rfl); (case lrc7 => exact HLD.out))
      | (go_at_call 28; (with_reducible refine HGIV.out.mono ?_); rintro e w2 ⟨rfl, hb2⟩; have hX2 := HX.out.below hb2 HX.out.lt; have c1 := (EnBlk.of hX2 HR.out).topic; have c2 := (EnBlk.of hX2 HR.out).body; rw [← HTS.out] at c1; rw [← HBS.out] at c2; have HX2 := Lib.hid hX2; have HB2 := Lib.hid (HB.out.trans (hb2.mono HB.out.size)); have HT2 := Lib.hid (HTOP.out w2 (HT1.out.next hb2)); clear hX2 hb2))
    go_ret
    exact ⟨by rw [HE.out]; rfl, HB2.out⟩
  by_cases hgt : M < (bs.size : Int)
  · have HE : Hid (checkE e = 3) := Lib.hid (by rw [HCK.out, if_neg h0, if_neg hA, if_neg (fun h => hC h.1), if_neg hlt, if_pos hgt])
    go_enter Tryd.func10, Tryd.ntmps10
    go_upto_region 1 with fail
    refine wp_at HW.out.symm ?_
    rw [← HS.out]
    clear HW
    go_wp2_with (first
      | (go_at_call 19; (with_reducible refine (HHAS.out _).mono ?_); rintro e w2 ⟨rfl, rfl⟩)
      | (go_at_call 27; (with_reducible refine (HROOM.out _).mono ?_); rintro e w2 ⟨rfl, rfl⟩)
      | ((with_reducible refine step_load (t := 25) (x := .tmp 1) (p := ?lpc8) (v := ?lvc8) ?lgc8 ?loc8 ?lxc8 ?lrc8 ?lhc8); (case lgc8 => rfl); (case loc8 => rfl); (case lxc8 => rfl); (case lrc8 => exact HLD.out))
      | (go_at_call 28; (with_reducible refine HGIV.out.mono ?_); rintro e w2 ⟨rfl, hb2⟩; have hX2 := HX.out.below hb2 HX.out.lt; have c1 := (EnBlk.of hX2 HR.out).topic; have c2 := (EnBlk.of hX2 HR.out).body; rw [← HTS.out] at c1; rw [← HBS.out] at c2; have HX2 := Lib.hid hX2; have HB2 := Lib.hid (HB.out.trans (hb2.mono HB.out.size)); have HT2 := Lib.hid (HTOP.out w2 (HT1.out.next hb2)); clear hX2 hb2))
    go_ret
    exact ⟨by rw [HE.out]; rfl, HB2.out⟩
  have HE : Hid (checkE e = 0) := Lib.hid (by rw [HCK.out, if_neg h0, if_neg hA, if_neg (fun h => hC h.1), if_neg hlt, if_neg hgt])
  go_enter Tryd.func10, Tryd.ntmps10
  go_upto_region 1 with fail
  refine wp_at HW.out.symm ?_
  rw [← HS.out]
  clear HW
  go_wp2_with (first
    | (go_at_call 19; (with_reducible refine (HHAS.out _).mono ?_); rintro e w2 ⟨rfl, rfl⟩)
    | (go_at_call 27; (with_reducible refine (HROOM.out _).mono ?_); rintro e w2 ⟨rfl, rfl⟩)
    | ((with_reducible refine step_load (t := 25) (x := .tmp 1) (p := ?lpc9) (v := ?lvc9) ?lgc9 ?loc9 ?lxc9 ?lrc9 ?lhc9); (case lgc9 => rfl); (case loc9 => rfl); (case lxc9 => rfl); (case lrc9 => exact HLD.out))
    | (go_at_call 28; (with_reducible refine HGIV.out.mono ?_); rintro e w2 ⟨rfl, hb2⟩; have hX2 := HX.out.below hb2 HX.out.lt; have c1 := (EnBlk.of hX2 HR.out).topic; have c2 := (EnBlk.of hX2 HR.out).body; rw [← HTS.out] at c1; rw [← HBS.out] at c2; have HX2 := Lib.hid hX2; have HB2 := Lib.hid (HB.out.trans (hb2.mono HB.out.size)); have HT2 := Lib.hid (HTOP.out w2 (HT1.out.next hb2)); clear hX2 hb2))
  go_ret
  exact ⟨by rw [HE.out]; rfl, HB2.out⟩
end Go.Proofs.YtbhkegdohiekfaaDoor.ent
