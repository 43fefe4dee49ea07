/-
  The landed wire: Ids (none, if not all are there).
-/
import Derived.Test.YtbfjljbllfjicaaWia
import Derived.Test.YtbfjljbllfjicaaOpenms
namespace Go.Proofs.Ytbfjljbllfjicaa.opn
open Go.RowKit Go.Proofs.Ytbfjljbllfjicaa.mem Go.Proofs.Ytbfjljbllfjicaa.sha Go.Proofs.Ytbfjljbllfjicaa.ids

theorem lrdL_len : ∀ (n : Nat) (st : St), (rdL n st).1.length = n
  | 0, _ => rfl
  | n + 1, st => by show (_ :: _).length = _; rw [List.length_cons, lrdL_len n]
theorem lrdL_snoc : ∀ (n : Nat) (st : St), rdL (n + 1) st = ((rdL n st).1 ++ [(rdI (rdL n st).2).1], (rdI (rdL n st).2).2)
  | 0, st => rfl
  | n + 1, st => by
    have := lrdL_snoc n (rdI st).2
    show ((rdI st).1 :: (rdL (n + 1) (rdI st).2).1, (rdL (n + 1) (rdI st).2).2) = _
    rw [this]
    rfl

/-- as the landed code reads them: none, if not all are there -/
def rdS' (st : St) : List Id × St := (if (rdS st).2.2 = 0 then (rdS st).1 else [], (rdS st).2)
theorem rdS'_snd (st : St) : (rdS' st).2 = (rdS st).2 := rfl
theorem rdS'_ok (st : St) (h : (rdS st).2.2 = 0) : rdS' st = rdS st := by unfold rdS'; rw [if_pos h]
theorem rdS_le (st : St) : (rdS st).1.length ≤ 255 := by
  show (rdL (rdN 1 st).1.toNat (rdN 1 st).2).1.length ≤ 255
  rw [lrdL_len]
  have h1 := rdN1_lt st
  have h2 := rdN_nonneg 1 st
  omega
theorem rdS'_le (st : St) : (rdS' st).1.length ≤ 255 := by
  unfold rdS'
  split
  · exact rdS_le st
  · exact Nat.zero_le _
set_option maxHeartbeats 2000000 in
set_option maxRecDepth 100000 in
theorem rids_s (F : Nat → Prop) (g : Nat) (st : St) (w : World) (h : RdL w g st) (hF : F g) (hn : New F w) :
    Calls Try.prog 51 #[.pointer (some ⟨g, 0, none⟩)] w fun e w' => ∃ v, e = .returned v ∧ OwnI w' (w.heap.size ≤ ·) v (rdS' st).1 ∧ RdL w' g (rdS' st).2 ∧ Turn F w w' := by
  have hglt := h.lt
  have HNUM := Lib.hid (lnum1_s (fun k => k = g ∨ w.heap.size ≤ k) g st w h (.inl rfl) (fun k hk => .inr hk))
  obtain ⟨m, hm⟩ : ∃ n, n = (rdN 1 st).1 := ⟨_, rfl⟩
  obtain ⟨s1, hs1⟩ : ∃ s, s = (rdN 1 st).2 := ⟨_, rfl⟩
  obtain ⟨X, hX⟩ : ∃ X, X = (rdS' st).1 := ⟨_, rfl⟩
  have HT : Hid ((rdS' st).2 = (rdL m.toNat s1).2) := Lib.hid (by rw [hm, hs1]; rfl)
  have HXX : Hid (X = if (rdL m.toNat s1).2.2 = 0 then (rdL m.toNat s1).1 else []) := Lib.hid (by rw [hX, hm, hs1]; rfl)
  have hm0 : 0 ≤ m := by rw [hm]; exact rdN_nonneg 1 st
  have hm1 : m < 256 := by rw [hm]; exact rdN1_lt st
  rw [← hm, ← hs1] at HNUM
  rw [← hX, HT.out]
  clear hX
  obtain ⟨S, hS⟩ : ∃ S, S = w.heap.size := ⟨_, rfl⟩
  rw [← hS] at HNUM ⊢
  have HS := Lib.hid hS
  have HG := Lib.hid hglt
  have HF := Lib.hid hF
  have HN := Lib.hid hn
  clear h hm hs1 HT hS hglt hF hn
  go_enter Try.func51, Try.ntmps51
  go_wp2_with (go_at_call 33; (with_reducible refine HNUM.out.mono ?_); rintro e w2 ⟨rfl, hr2, ht2⟩; have HR2 := Lib.hid hr2; have HT2 := Lib.hid ht2; clear hr2 ht2)
  go_loopw [3, 6] (fun l i wr => ∃ k : Nat, k ≤ m.toNat ∧ i = .int .i64 (k : Int) ∧ OwnI wr (S ≤ ·) l (rdL k s1).1 ∧ RdL wr g (rdL k s1).2 ∧ Turn (fun b => b = g ∨ S ≤ b) w wr) (fun _ i _ => m.toNat - (intOf i).toNat)
  case atStart => exact ⟨0, Nat.zero_le _, rfl, OwnI.nil _ _, HR2.out, HT2.out⟩
  case round =>
    clear HNUM HR2 HT2
    obtain ⟨k, hk, rfl, ho, hr, ht⟩ := hrel
    obtain ⟨ad, cap, hvf, -, -⟩ := ho.form
    obtain ⟨l, hl⟩ : ∃ l', l' = (rdL k s1).1 := ⟨_, rfl⟩
    obtain ⟨s2, hs2⟩ : ∃ s', s' = (rdL k s1).2 := ⟨_, rfl⟩
    have hln : l.length = k := by rw [hl, lrdL_len]
    have hsn := lrdL_snoc k s1
    rw [← hl, ← hs2] at hsn
    rw [← hl] at ho
    rw [← hs2] at hr
    rw [← hl, hln] at hvf
    subst hvf
    have HSN := Lib.hid hsn
    have HO := Lib.hid ho
    have HR := Lib.hid hr
    have HT := Lib.hid ht
    have HLN := Lib.hid hln
    have HK := Lib.hid hk
    have k0 : (0 : Int) ≤ (k : Int) := Int.natCast_nonneg _
    have hsz : S ≤ wr.heap.size := by rw [HS.out]; exact ht.size
    have HSZ := Lib.hid hsz
    by_cases hlt : k < m.toNat
    · have kI : (k : Int) < m := by omega
      have HID := Lib.hid (rid_s (fun b => b = g ∨ wr.heap.size ≤ b) g s2 wr hr (.inl rfl) (fun b hb => .inr hb))
      obtain ⟨y, hy⟩ : ∃ y, y = (rdI s2).1 := ⟨_, rfl⟩
      have hy32 : y.length = 32 := by rw [hy]; exact rdI_len s2
      rw [← hy] at HID HSN
      have HY := Lib.hid hy32
      clear hsn ho hr ht hl hs2 hy hy32 hk hsz hln hlt
      go_wp2_with (first
        | (go_at_call 56; (with_reducible refine HID.out.mono ?_); rintro e w3 ⟨rfl, hr3, ht3⟩; have hng : ¬ (fun b => b = g ∨ wr.heap.size ≤ b) g → False := fun hh => hh (.inl rfl); have ho3 := HO.out.turn ht3 (fun b hb hc => by have h1 := HO.out.lt hb; have h2 : S ≤ b := HO.out.2.2 b hb; have h3 := HS.out; have h4 := HG.out; rcases hc with e | e <;> omega); obtain ⟨v4, w4, hrun, ho4, ht4⟩ := run_append_one ho3 HY.out (by have := HLN.out; have := HK.out; omega) (fun b hb => Nat.le_trans HSZ.out (Nat.le_trans ht3.size hb)) 22; have HR3 := Lib.hid hr3; have HT3 := Lib.hid ht3; have HO3 := Lib.hid ho3; have HO4 := Lib.hid ho4; have HT4 := Lib.hid ht4; clear hr3 ht3 ho3 ho4 ht4 hng HID)
        | ((with_reducible refine step_build1 (x := .tmp 10) (y := ?byrb1) ?bgrb1 ?borb1 ?bxrb1 ?blrb1 ?bhrb1); (case bgrb1 => rfl); (case borb1 => rfl); (case bxrb1 => rfl); (case blrb1 => exact HY.out))
        | ((with_reducible refine step_append (s := .tmp 8) (x := .tmp 11) (t := 22) (vs := ?asra1) (vx := ?axra1) (v' := ?avra1) (w' := ?awra1) ?agra1 ?aora1 ?apra1 ?aqra1 ?arra1 ?ahra1); (case agra1 => rfl); (case aora1 => rfl); (case apra1 => rfl); (case aqra1 => rfl); (case arra1 => exact hrun)))
      go_roundw
      case rel =>
        have hg4 : ∀ b, (Value.slice ad k cap).ownBlock = some b ∨ w3.heap.size ≤ b → b ≠ g ∧ S ≤ b := fun b hb => by
          have h3 := HS.out; have h4 := HG.out; have h5 := HSZ.out; have h6 := HT3.out.size
          rcases hb with hb | hb
          · have h2 : S ≤ b := HO3.out.2.2 b hb
            omega
          · omega
        refine ⟨k + 1, by omega, by push_cast; rfl, ?_, ?_, ?_⟩
        · rw [HSN.out]; exact HO4.out
        · rw [HSN.out]; exact HR3.out.turn HT4.out fun hb => (hg4 g hb).1 rfl
        · exact (HT.out.trans (HT3.out.mono fun b hb => hb.imp id fun h => Nat.le_trans HSZ.out h)).trans (HT4.out.mono fun b hb => .inr (hg4 b hb).2)
      case measure => simp [intOf]; omega
    · obtain rfl : k = m.toNat := by omega
      have kI : m ≤ ((m.toNat : Nat) : Int) := by omega
      have HL := Lib.hid hl
      have HS2 := Lib.hid hs2
      have HER := Lib.hid (lerr_s g s2 wr hr)
      obtain ⟨er, her⟩ : ∃ e, e = s2.2 := ⟨_, rfl⟩
      rw [← her] at HER
      have HQ := Lib.hid her
      clear hlt hsn ho hr ht hl hs2 hk hsz hln her
      by_cases h0 : er = 0
      · subst h0
        go_wp2_with (go_at_call 34; (with_reducible refine HER.out.mono ?_); rintro e w3 ⟨rfl, rfl⟩)
        go_ret
        refine ⟨_, rfl, ?_, HS2.out ▸ HR.out, HT.out.mono fun b hb => ?_⟩
        · rw [HXX.out, ← HL.out, ← HS2.out, if_pos HQ.out.symm]; exact HO.out
        · rcases hb with e | e
          · exact e ▸ HF.out
          · exact HN.out b (by have := HS.out; omega)
      · have hne : (er != 0) = true := bne_iff_ne.2 h0
        have HNE := Lib.hid h0
        clear h0
        go_wp2_with (go_at_call 34; (with_reducible refine HER.out.mono ?_); rintro e w3 ⟨rfl, rfl⟩)
        go_ret
        refine ⟨_, rfl, ?_, HS2.out ▸ HR.out, HT.out.mono fun b hb => ?_⟩
        · rw [HXX.out, ← HS2.out, if_neg (by rw [← HQ.out]; exact HNE.out)]; exact OwnI.nil _ _
        · rcases hb with e | e
          · exact e ▸ HF.out
          · exact HN.out b (by have := HS.out; omega)
end Go.Proofs.Ytbfjljbllfjicaa.opn
