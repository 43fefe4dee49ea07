/-
  The walk of EntryReads, by what entry's functions answer.
  A byte that came in.
-/
import Derived.Test.YtbhkegdohiekfaaDoorEnis
import Derived.Deep.LoopGhost
import Derived.Test.YtbhkegdohiekfaaDoorSha
namespace Go.Proofs.YtbhkegdohiekfaaDoor.ent
open Go.RowKit Go.Proofs.YtbhkegdohiekfaaDoor.mem Go.Proofs.YtbhkegdohiekfaaDoor.sha Go.Proofs.YtbhkegdohiekfaaDoor.ids Go.Proofs.YtbhkegdohiekfaaDoor.rows
open Go.Proofs.YtbhkegdohiekfaaDoor.opn (b1 b2 b4 num txt idl byte rd rdN rdT rdI rdS rdL St Reads Stays endE zid mkId)
open Go.Proofs.YtbhkegdohiekfaaDoor.kit (Strs)

theorem strs_next {w w' : World} {ad : Option Addr} {n : Nat} {A : Nat → ByteArray} (h : Strs w ad n A) (hb : Below w.heap.size w w') : Strs w' ad n A := h.below hb (Nat.le_refl _)
set_option maxHeartbeats 8000000 in
set_option maxRecDepth 100000 in
theorem reads_walk {T : World → Prop} (hI : EnIs T) (s : ByteArray) (ad : Option Addr) (n cap : Nat) (A : Nat → ByteArray) (w : World) (hT : T w) (hs : s.size ≤ 140737488351232) (hn : n ≤ 9223372036854775807) (hA : Strs w ad n A) :
    Calls Tryd.prog 4 #[.string s, .slice ad n cap] w fun x w' => x = .returned (.bool true) ∧ Below w.heap.size w w' := by
  have HI := Lib.hid hI
  have HT := Lib.hid hT
  have HA := Lib.hid hA
  have n0 : (0 : Int) ≤ (n : Int) := Int.natCast_nonneg _
  have nI : (n : Int) ≤ 9223372036854775807 := by omega
  have sI : (s.size : Int) ≤ 140737488351232 := by omega
  clear hT hA
  by_cases h1 : 5000 < (s.size : Int)
  · go_enter Tryd.func4, Tryd.ntmps4
    go_wp2_with (go_at_call 7; refine (awake_any HI.out _ HT.out).mono ?_; rintro x w9 ⟨rfl, hb9⟩)
    go_ret
    exact ⟨rfl, hb9⟩
  have h1 : (s.size : Int) ≤ 5000 := by omega
  by_cases h2 : 30 < (n : Int)
  · go_enter Tryd.func4, Tryd.ntmps4
    go_wp2_with (go_at_call 7; refine (awake_any HI.out _ HT.out).mono ?_; rintro x w9 ⟨rfl, hb9⟩)
    go_ret
    exact ⟨rfl, hb9⟩
  have h2 : (n : Int) ≤ 30 := by omega
  have HOF := Lib.hid (fun (u : World) (hu : T u) => hI.of s u hu (by omega))
  have HOR := Lib.hid (fun (u : World) => of_any s u (by omega))
  unfold OfOut at HOR
  obtain ⟨q, hq⟩ : ∃ q, q = (ofE s.data.toList).1 := ⟨_, rfl⟩
  obtain ⟨er, her⟩ : ∃ x, x = (ofE s.data.toList).2 := ⟨_, rfl⟩
  have HQ : Hid (q.commit.length = 32) := Lib.hid (by rw [hq]; exact ofE_commit _)
  rw [← hq, ← her] at HOF
  rw [← hq, ← her] at HOR
  clear hI hq her hs hn
  go_enter Tryd.func4, Tryd.ntmps4
  go_wp2_with fail
  go_loopg [5] (n + 1) (fun gk s5 wr => ∃ i : Nat, s5 = .int .i64 i ∧ i ≤ n ∧ n - i < gk ∧ Hid (Below w.heap.size w wr) ∧ Hid (∀ j, j < i → (A j).size ≤ 1000))
  case atStart => exact ⟨0, rfl, Nat.zero_le _, by omega, Lib.hid (Below.refl _ _), Lib.hid fun j hj => by omega⟩
  case round =>
    obtain ⟨i, rfl, hi, hgk, HB, HE⟩ := hrel
    have i0 : (0 : Int) ≤ (i : Int) := Int.natCast_nonneg _
    by_cases hlt : i < n
    · have hltz : (i : Int) < (n : Int) := by omega
      obtain ⟨b, off, rfl, hbl, hc, hsz⟩ := HA.out i hlt
      have cs : wr.cell? ⟨b, off + i, none⟩ = some (.string (A i)) := (HB.out.cell (p := ⟨b, off + i, none⟩) hbl).trans hc
      obtain ⟨t, ht⟩ : ∃ t, t = A i := ⟨_, rfl⟩
      rw [← ht] at cs hsz
      have HTT := Lib.hid ht
      have hszI : (t.size : Int) ≤ 140737488351232 := by omega
      clear hc ht hbl hsz
      by_cases h3 : 1000 < (t.size : Int)
      · go_wp2_with (go_at_call 7; refine (awake_any HI.out _ (HI.out.next HT.out HB.out)).mono ?_; rintro x w9 ⟨rfl, hb9⟩)
        go_ret
        exact ⟨rfl, HB.out.trans (hb9.mono HB.out.size)⟩
      · have h3 : (t.size : Int) ≤ 1000 := by omega
        go_wp2_with fail
        go_roundg (n - (i + 1) + 1)
        case measure => omega
        case rel => exact ⟨i + 1, by go_num, hlt, by omega, HB, Lib.hid (fun j hj => by
          rcases Nat.lt_or_ge j i with h | h
          · exact HE.out j h
          · obtain rfl : j = i := by omega
            rw [← HTT.out]; omega)⟩
    · obtain rfl : i = n := by omega
      have hltz : ¬ (i : Int) < (i : Int) := by omega
      have HAL := Lib.hid (fun (u : World) (hu : T u) (hv : Strs u ad i A) => HI.out.all ad i cap A u hu hv (by omega) (fun j hj => Nat.le_trans (HE.out j hj) (by decide)))
      have HAR := Lib.hid (fun (u : World) (hv : Strs u ad i A) => all_ref ad i cap A u hv (by omega) (fun j hj => Nat.le_trans (HE.out j hj) (by decide)))
      obtain ⟨L, hL⟩ : ∃ L, L = (allE (txs i A)).1 := ⟨_, rfl⟩
      obtain ⟨m, hm⟩ : ∃ m, m = (((allE (txs i A)).2.1 : Nat) : Int) := ⟨_, rfl⟩
      obtain ⟨f, hf⟩ : ∃ f, f = (allE (txs i A)).2.2 := ⟨_, rfl⟩
      have HLO : Hid (okEs L) := Lib.hid (by rw [hL]; exact allE_ok _)
      have HLL : Hid (L.length ≤ 1000000) := Lib.hid (by
        have h1 := (allE_le (txs i A)).1
        have h2 := (allE_le (txs i A)).2
        rw [txs_len] at h1
        rw [hL]; omega)
      rw [← hL, ← hm, ← hf] at HAL HAR
      clear hL hm hf hlt
      go_wp2_with (first
        | (go_at_call 12; (with_reducible refine (HOF.out _ (HI.out.next HT.out HB.out)).mono ?_); rintro x w2 ⟨rfl, hb2⟩; have HH2 := Lib.hid (run_hold w2 q HQ.out); obtain ⟨w3, hw3⟩ : ∃ u, u = heldW w2 q := ⟨_, rfl⟩; have hk3 := held_blk w2 q; have hb3 := held_below w2 q; rw [← hw3] at HH2 hk3 hb3; have HK3 := Lib.hid hk3; have HB3 := Lib.hid ((HB.out.trans (hb2.mono HB.out.size)).trans (hb3.mono (Nat.le_trans HB.out.size hb2.size))); clear hb2 hb3 hk3 hw3)
        | ((with_reducible refine step_store_run (t := 25) (x := .tmp 6) (y := .tmp 41) (p := ?spr1) (v := ?svr1) (w' := ?swr1) ?sgr1 ?sor1 ?sxr1 ?syr1 ?srr1 ?shr1); (case sgr1 => rfl); (case sor1 => rfl); (case sxr1 => rfl); (case syr1 => rfl); (case srr1 => exact HH2.out))
        | (go_at_call 13; (with_reducible refine (HOR.out _).mono ?_); rintro x w4 ⟨rfl, hb4⟩; have HH4 := Lib.hid (run_hold w4 q HQ.out); obtain ⟨w5, hw5⟩ : ∃ u, u = heldW w4 q := ⟨_, rfl⟩; have hk5 := held_blk w4 q; have hb5 := held_below w4 q; rw [← hw5] at HH4 hk5 hb5; have hb35 := hb4.trans (hb5.mono hb4.size); have HK5 := Lib.hid hk5; have HQ5 := Lib.hid (HK3.out.below hb35 HK3.out.lt); have HB5 := Lib.hid (HB3.out.trans (hb35.mono HB3.out.size)); clear hb4 hb5 hk5 hw5 hb35)
        | ((with_reducible refine step_store_run (t := 25) (x := .tmp 8) (y := .tmp 46) (p := ?spr2) (v := ?svr2) (w' := ?swr2) ?sgr2 ?sor2 ?sxr2 ?syr2 ?srr2 ?shr2); (case sgr2 => rfl); (case sor2 => rfl); (case sxr2 => rfl); (case syr2 => rfl); (case srr2 => exact HH4.out))
        | (go_at_call 14; (with_reducible refine (HAL.out _ (HI.out.next HT.out HB5.out) (strs_next HA.out HB5.out)).mono ?_); rintro x w6 ⟨v6, rfl, he6, hb6⟩; have HE6 := Lib.hid he6; have HK6 := Lib.hid (HK5.out.below hb6 HK5.out.lt); have HQ6 := Lib.hid (HQ5.out.below hb6 HQ5.out.lt); have HB6 := Lib.hid (HB5.out.trans (hb6.mono HB5.out.size)); clear he6 hb6)
        | (go_at_call 15; (with_reducible refine (HAR.out _ (strs_next HA.out HB6.out)).mono ?_); rintro x w7 ⟨v7, rfl, ho7, hb7⟩; have HE7 := Lib.hid (OwnE.env ho7 HLO.out); have HF7 := Lib.hid (HE6.out.next hb7); have HB7 := Lib.hid (HB6.out.trans (hb7.mono HB6.out.size)); have HLA := Lib.hid (run_load_en (HQ6.out.below hb7 HQ6.out.lt) HQ.out); have HLB := Lib.hid (run_load_en (HK6.out.below hb7 HK6.out.lt) HQ.out); have HQE : Hid ((binOp .eql 25 (env q) (env q)).run Tryd.prog w7 = .ok (.bool true) w7) := Lib.hid (by rw [eql_ens w7 q q HQ.out HQ.out, beq_self_eq_true]); have HGD := Lib.hid (run_eqGuard_agg w7 .eql 25 (.tmp 60) (.tmp 61) (enc q).toArray (enc q).toArray Tryd.eqGuardType25); have HSM := Lib.hid (same_eq HF7.out HE7.out HLO.out HLL.out); clear ho7 hb7)
        | ((with_reducible refine step_load (t := 25) (x := .tmp 6) (p := ?lpr3) (v := ?lvr3) ?lgr3 ?lor3 ?lxr3 ?lrr3 ?lhr3); (case lgr3 => rfl); (case lor3 => rfl); (case lxr3 => rfl); (case lrr3 => exact HLA.out))
        | ((with_reducible refine step_load (t := 25) (x := .tmp 8) (p := ?lpr4) (v := ?lvr4) ?lgr4 ?lor4 ?lxr4 ?lrr4 ?lhr4); (case lgr4 => rfl); (case lor4 => rfl); (case lxr4 => rfl); (case lrr4 => exact HLB.out))
        | ((with_reducible refine step_bin_w (op := .eql) (t := 25) (x := .tmp 60) (y := .tmp 61) (t2 := ?nbr5) (u := ?nur5) (v := ?nvr5) (r := ?nrr5) ?nwr5 ?nor5 ?nxr5 ?nyr5 ?ngr5 ?nqr5 ?nhr5); (case nor5 => rfl); (case nwr5 => rfl); (case nxr5 => rfl); (case nyr5 => rfl); (case ngr5 => exact HGD.out); (case nqr5 => exact HQE.out))
        | (go_at_call 16; (with_reducible refine HSM.out.mono ?_); rintro x w8 ⟨rfl, hb8⟩; have HB8 := Lib.hid (HB7.out.trans (hb8.mono HB7.out.size)); clear hb8)
        | (go_at_call 7; refine (awake_any HI.out _ (HI.out.next HT.out HB8.out)).mono ?_; rintro x w9 ⟨rfl, hb9⟩))
      go_ret
      exact ⟨rfl, HB8.out.trans (hb9.mono HB8.out.size)⟩
end Go.Proofs.YtbhkegdohiekfaaDoor.ent

namespace Go.Proofs.YtbhkegdohiekfaaDoor.kit
open Go.RowKit Go.Proofs.YtbhkegdohiekfaaDoor.sha

theorem byte_of {a : Int} (h : Lit.wf (.int .u8 a)) : ∃ c : UInt8, a = B c := by
  have hb : 0 ≤ a ∧ a ≤ 255 := by simpa [Lit.wf, IntKind.min, IntKind.max, IntKind.signed, IntKind.bits] using h
  refine ⟨UInt8.ofNat a.toNat, ?_⟩
  unfold B
  rw [UInt8.toNat_ofNat_of_lt' (by show a.toNat < 256; omega)]
  omega
end Go.Proofs.YtbhkegdohiekfaaDoor.kit
