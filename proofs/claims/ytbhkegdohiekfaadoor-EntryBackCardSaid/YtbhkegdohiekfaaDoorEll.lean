/-
  The landed entry: All; what entry's functions answer.
-/
import Derived.Test.YtbhkegdohiekfaaDoorElp
import Derived.Test.YtbhkegdohiekfaaDoorElo
import Derived.Test.YtbhkegdohiekfaaDoorEnis
namespace Go.Proofs.YtbhkegdohiekfaaDoor.ent
open Go.RowKit Go.Proofs.YtbhkegdohiekfaaDoor.mem Go.Proofs.YtbhkegdohiekfaaDoor.sha Go.Proofs.YtbhkegdohiekfaaDoor.ids
open Go.Proofs.YtbhkegdohiekfaaDoor.opn (b1 b2 b4 num txt idl byte rd rdN rdT rdI rdS rdL St Reads Stays endE zid mkId)
open Go.Proofs.YtbhkegdohiekfaaDoor.topic (kindOf)

open Go.Proofs.YtbhkegdohiekfaaDoor.kit (Strs)
open Go.Proofs.YtbhkegdohiekfaaDoor.rows
set_option maxHeartbeats 4000000 in
set_option maxRecDepth 100000 in
theorem lall_any (ad : Option Addr) (n cap : Nat) (T : Nat → ByteArray) (w : World) (hT : topic.Tab w) (h : Strs w ad n T) (hn : n ≤ 10000) (hs : ∀ i, i < n → (T i).size ≤ 281474976710656) :
    Calls Tryd.prog 14 #[.slice ad n cap] w fun x w' => ∃ v, x = .returned (.tuple #[v, .int .i64 ((allE (txs n T)).2.1 : Int), .int .i64 (allE (txs n T)).2.2]) ∧ OwnE w' (w.heap.size ≤ ·) v (allE (txs n T)).1 ∧ Below w.heap.size w w' := by
  have HL := Lib.hid (txs_len n T)
  have HTX := Lib.hid (fun i (hi : i < n) => txs_get n T hi)
  obtain ⟨L, hL⟩ : ∃ L, L = txs n T := ⟨_, rfl⟩
  rw [← hL] at HL HTX ⊢
  have HH := Lib.hid h
  have HSZ := Lib.hid hs
  have HT := Lib.hid hT
  obtain ⟨B, hB⟩ : ∃ B, B = w.heap.size := ⟨_, rfl⟩
  rw [← hB]
  have HBW := Lib.hid hB
  clear hL h hs hB hT
  go_enter Tryd.func14, Tryd.ntmps14
  go_wp2_with fail
  go_loopg [5, 6, 11] (n + 1) (fun gk s5 s6 s11 wr => ∃ i : Nat, s11 = .int .i64 i ∧ i ≤ n ∧ n - i < gk ∧ Hid (OwnE wr (B ≤ ·) s5 (pre L i)) ∧ Hid (Below B w wr) ∧ Hid (∀ j, j < i → (ofE (L.getD j [])).2 = 0))
  case atStart => exact ⟨0, rfl, Nat.zero_le _, by omega, Lib.hid (OwnK.nil _ _ _ _), Lib.hid (Below.refl _ _), Lib.hid fun j hj => by omega⟩
  case round =>
    obtain ⟨i, rfl, hi, hgk, HO, HB, HE⟩ := hrel
    have i0 : (0 : Int) ≤ (i : Int) := Int.natCast_nonneg _
    by_cases hlt : i < n
    · have hltz : (i : Int) < (n : Int) := by omega
      obtain ⟨b, off, rfl, hbl, hc, -⟩ := HH.out i hlt
      have cs : wr.cell? ⟨b, off + i, none⟩ = some (.string (T i)) := (HB.out.cell (p := ⟨b, off + i, none⟩) (by rw [HBW.out]; exact hbl)).trans hc
      obtain ⟨t, ht⟩ : ∃ t, t = T i := ⟨_, rfl⟩
      rw [← ht] at cs
      have hof := lof_any t wr (HT.out.next (by rw [← HBW.out]; exact HB.out)) (by rw [ht]; exact HSZ.out i hlt)
      have hli : L.getD i [] = t.data.toList := by rw [ht]; exact HTX.out i hlt
      rw [← hli] at hof
      obtain ⟨e, he⟩ : ∃ e, e = (ofE (L.getD i [])).1 := ⟨_, rfl⟩
      obtain ⟨f, hf⟩ : ∃ f, f = (ofE (L.getD i [])).2 := ⟨_, rfl⟩
      have hec : e.commit.length = 32 := by rw [he]; exact ofE_commit _
      rw [← he, ← hf] at hof
      have HOF := Lib.hid hof
      have HEC := Lib.hid hec
      have HF := Lib.hid hf
      have HEE := Lib.hid he
      have hBs : B ≤ wr.heap.size := by have := HB.out.size; have := HBW.out; omega
      have HBS := Lib.hid hBs
      clear hc ht hli he hf hec hof hBs hbl
      by_cases h0 : f = 0
      · subst h0
        go_wp2_with (first
          | (go_at_call 12; (with_reducible refine HOF.out.mono ?_); rintro x w1 ⟨rfl, hb1⟩; have HH1 := Lib.hid (held_en w1 e HEC.out); obtain ⟨w2, hw2⟩ : ∃ u, u = (w1.alloc (.cells (enc zen).toArray 25)).setRow w1.heap.size (enc e).toArray := ⟨_, rfl⟩; rw [← hw2] at HH1; have hk2 : Blk w2 w1.heap.size 25 (enc e).toArray := (by rw [hw2]; exact setRow_heap _ _ _ _ _ _ (Blk.new w1 _ _)); have hb2 : Below w1.heap.size w1 w2 := (by rw [hw2]; exact below_row' ((Below.refl _ _).alloc (Nat.le_refl _) _) (Nat.le_refl _) _); have HLD := Lib.hid (run_load_en hk2 HEC.out); have hbb := hb1.trans (hb2.mono hb1.size); obtain ⟨v3, w3, hrun, hO3, hB3⟩ := push_en (OwnK.next HO.out hbb) e HEC.out (by rw [pre_len L (by rw [HL.out]; omega)]; omega) (Nat.le_trans HBS.out hbb.size) 40; have HRUN := Lib.hid hrun; have HO3 := Lib.hid hO3; have HB3 := Lib.hid ((HB.out.trans (hbb.mono HBS.out)).trans hB3); clear hw2 hk2 hb2 hb1 hbb hrun hO3 hB3)
          | ((with_reducible refine step_store_run (t := 25) (x := .tmp 7) (y := .tmp 20) (p := ?spa1) (v := ?sva1) (w' := ?swa1) ?sga1 ?soa1 ?sxa1 ?sya1 ?sra1 ?sha1); (case sga1 => rfl); (case soa1 => rfl); (case sxa1 => rfl); (case sya1 => rfl); (case sra1 => exact HH1.out))
          | ((with_reducible refine step_load (t := 25) (x := .tmp 7) (p := ?lpa3) (v := ?lva3) ?lga3 ?loa3 ?lxa3 ?lra3 ?lha3); (case lga3 => rfl); (case loa3 => rfl); (case lxa3 => rfl); (case lra3 => exact HLD.out))
          | ((with_reducible refine step_build1e (x := .tmp 28) (e := ?bya4) ?bga4 ?boa4 ?bxa4 ?bla4 ?bha4); (case bga4 => rfl); (case boa4 => rfl); (case bxa4 => rfl); (case bla4 => exact HEC.out))
          | ((with_reducible refine step_append (s := .tmp 27) (x := .tmp 29) (t := 40) (vs := ?asa5) (vx := ?axa5) (v' := ?ava5) (w' := ?awa5) ?aga5 ?aoa5 ?apa5 ?aqa5 ?ara5 ?aha5); (case aga5 => rfl); (case aoa5 => rfl); (case apa5 => rfl); (case aqa5 => rfl); (case ara5 => exact HRUN.out)))
        go_roundg (n - (i + 1) + 1)
        case measure => omega
        case rel => exact ⟨i + 1, by go_num, hlt, by omega, Lib.hid (by rw [pre_snoc L (by rw [HL.out]; exact hlt), ← HEE.out]; exact HO3.out), HB3, Lib.hid (fun j hj => by
          rcases Nat.lt_or_ge j i with h | h
          · exact HE.out j h
          · obtain rfl : j = i := by omega
            exact HF.out.symm)⟩
      · have hd : (f != 0) = true := bne_iff_ne.2 h0
        have HA := Lib.hid (allE_stop L i (by rw [HL.out]; exact hlt) HE.out (by rw [← HF.out]; exact h0))
        clear h0
        go_wp2_with (first
          | (go_at_call 12; (with_reducible refine HOF.out.mono ?_); rintro x w1 ⟨rfl, hb1⟩; have HH1 := Lib.hid (held_en w1 e HEC.out); obtain ⟨w2, hw2⟩ : ∃ u, u = (w1.alloc (.cells (enc zen).toArray 25)).setRow w1.heap.size (enc e).toArray := ⟨_, rfl⟩; rw [← hw2] at HH1; have hb2 : Below w1.heap.size w1 w2 := (by rw [hw2]; exact below_row' ((Below.refl _ _).alloc (Nat.le_refl _) _) (Nat.le_refl _) _); have HBB := Lib.hid (hb1.trans (hb2.mono hb1.size)); clear hw2 hb2 hb1)
          | ((with_reducible refine step_store_run (t := 25) (x := .tmp 7) (y := .tmp 20) (p := ?spa2) (v := ?sva2) (w' := ?swa2) ?sga2 ?soa2 ?sxa2 ?sya2 ?sra2 ?sha2); (case sga2 => rfl); (case soa2 => rfl); (case sxa2 => rfl); (case sya2 => rfl); (case sra2 => exact HH1.out)))
        refine bodyPost_ret (results_t3 rfl _ _) rfl ?_
        refine ⟨u5, ?_, ?_, HB.out.trans (HBB.out.mono HBS.out)⟩
        · rw [HA.out, ← HF.out]; rfl
        · rw [HA.out]; exact OwnK.next HO.out HBB.out
    · obtain rfl : i = n := by omega
      have hltz : ¬ (i : Int) < (i : Int) := by omega
      have HA := Lib.hid (allE_all L (by rw [HL.out]; exact HE.out))
      clear hlt
      go_wp2_with fail
      refine bodyPost_ret (results_t3 rfl _ _) rfl ?_
      refine ⟨u5, ?_, ?_, HB.out⟩
      · rw [HA.out, HL.out]; rfl
      · rw [HA.out, HL.out]; exact HO.out
theorem en_is : EnIs topic.Tab where
  next := fun h hb => h.next hb
  check := fun e w hT hc ht hb => lcheck_any e w hT hc (by omega) (by omega)
  put := fun e w hT hc ht hb => lput_any e w hT hc (by omega) (by omega)
  of := fun s w hT hs => lof_any s w hT hs
  all := fun ad n cap S w hT h hn hs => (lall_any ad n cap S w hT h (by omega) (fun i hi => by have := hs i hi; omega)).mono fun x w' h => by
    obtain ⟨v, h1, h2, h3⟩ := h
    exact ⟨v, h1, OwnE.env h2 (allE_ok _), h3⟩
end Go.Proofs.YtbhkegdohiekfaaDoor.ent
