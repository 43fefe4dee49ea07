/-
  petrelref06.Set, Is.
-/
import Derived.Test.YtfcoecojjciphaaIdsw
namespace Go.Proofs.Ytfcoecojjciphaa.ids
open Go.RowKit Go.Proofs.Ytfcoecojjciphaa.mem Go.Proofs.Ytfcoecojjciphaa.sha

theorem Got.nil (w : World) (F : Nat → Prop) : Got w F (.slice none 0 0) [] :=
  ⟨⟨okIds.nil, Nat.zero_le _, none, 0, rfl, Nat.le_refl _, Nat.zero_le _, fun _ => rfl, (fun a h => by cases h), .inl rfl⟩, fun b off n c e => by cases e⟩
theorem Got.mono {w : World} {F G : Nat → Prop} {v : Value} {L : List Id} (h : Got w F v L) (hFG : ∀ k, F k → G k) : Got w G v L := ⟨h.1, fun b off n c e => hFG b (h.2 b off n c e)⟩
theorem Got.next {w w' : World} {F : Nat → Prop} {v : Value} {L : List Id} (h : Got w F v L) (hb : Below w.heap.size w w') : Got w' F v L := ⟨h.1.next hb, h.2⟩
theorem take_fold (L : List Id) (k : Nat) (h : k < L.length) (A : List Id) : (L.take (k + 1)).foldl withL A = withL ((L.take k).foldl withL A) (L.getD k []) := by
  rw [List.take_succ_eq_append_getElem h, List.foldl_append, List.getD_eq_getElem?_getD, List.getElem?_eq_getElem h]
  rfl

set_option maxHeartbeats 1000000 in
set_option maxRecDepth 100000 in
theorem rset_any (L : List Id) (ad : Option Addr) (n cap : Nat) (w : World) (hL : RdV w (.slice ad n cap) L) (hmax : L.length < 500000) :
    Calls Try.prog 16 #[.slice ad n cap] w fun e w' => ∃ v, e = .returned v ∧ Got w' (w.heap.size ≤ ·) v (setL L) ∧ Below w.heap.size w w' := by
  have hn := hL.len
  subst hn
  have HR := Lib.hid hL
  have HOK := Lib.hid hL.ok
  clear hL
  go_enter Try.func16, Try.ntmps16
  go_wp2_with fail
  go_loopw [3, 4] (fun vo i wr => ∃ k : Nat, k ≤ L.length ∧ i = .int .i64 k ∧ Got wr (w.heap.size ≤ ·) vo ((L.take k).foldl withL []) ∧ Below w.heap.size w wr) (fun _ i _ => L.length - (intOf i).toNat)
  case atStart => exact ⟨0, Nat.zero_le _, rfl, Got.nil _ _, Below.refl _ _⟩
  case round =>
    obtain ⟨k, hk, rfl, hG, hB⟩ := hrel
    have k0 : (0 : Int) ≤ (k : Int) := Int.natCast_nonneg _
    have HG := Lib.hid hG
    have HB := Lib.hid hB
    by_cases hlt : k < L.length
    · have kI : (k : Int) < (L.length : Int) := by omega
      obtain ⟨b, off, rfl, -, -, -⟩ := HR.out.load hlt
      have hld := (HR.out.next hB).load_y hlt rfl
      have hx := HOK.out.get hlt
      have HT := Lib.hid (take_fold L k hlt [])
      obtain ⟨y, hy⟩ : ∃ y, y = L.getD k [] := ⟨_, rfl⟩
      rw [← hy] at hld hx HT
      obtain ⟨ad2, cap2, rfl⟩ := hG.1.form
      have hlen := foldl_with_len (L.take k) []
      obtain ⟨A, hA⟩ : ∃ A, A = (L.take k).foldl withL [] := ⟨_, rfl⟩
      rw [← hA] at HG HT hlen ⊢
      have hAm : A.length < 1000000 := by rw [List.length_nil, List.length_take] at hlen; omega
      have HC := Lib.hid (rwith_any A y ad2 A.length cap2 _ HG.out.1 hx hAm)
      clear hy hA hlen hG hB
      go_wp2_with (first
        | ((with_reducible refine step_load (t := 23) (x := .tmp 14) (p := ?lps1) (v := ?lvs1) ?lgs1 ?los1 ?lxs1 ?lrs1 ?lhs1); (case lgs1 => rfl); (case los1 => rfl); (case lxs1 => rfl); (case lrs1 => exact hld))
        | (go_at_call 24; with_reducible refine HC.out.mono ?_; rintro e w2 ⟨v2, rfl, hG2, hB2⟩))
      go_roundw
      case rel =>
        refine ⟨k + 1, hlt, by push_cast; rfl, ?_, HB.out.trans (hB2.mono HB.out.size)⟩
        rw [HT.out]
        exact hG2.mono fun j hj => by
          rcases hj with hj | ⟨off, e⟩
          · exact Nat.le_trans HB.out.size hj
          · exact HG.out.2 j off A.length cap2 (by rw [e])
      case measure => simp [intOf]; omega
    · obtain rfl : k = L.length := by omega
      clear hG hB
      go_wp2_with fail
      go_ret
      have := HG.out
      rw [List.take_length] at this
      exact ⟨_, rfl, this, HB.out⟩

set_option maxHeartbeats 1000000 in
theorem ris_any (L : List Id) (ad : Option Addr) (n cap : Nat) (w : World) (hL : RdV w (.slice ad n cap) L) (hmax : L.length < 500000) :
    Calls Try.prog 20 #[.slice ad n cap] w fun e w' => e = .returned (.bool (L == setL L)) ∧ Below w.heap.size w w' := by
  have HR := Lib.hid hL
  have HS := Lib.hid (rset_any L ad n cap w hL hmax)
  clear hL
  go_enter Try.func20, Try.ntmps20
  go_wp2_with (go_at_call 16; with_reducible refine HS.out.mono ?_; rintro e w2 ⟨v2, rfl, hG2, hB2⟩)
  obtain ⟨ad2, cap2, rfl⟩ := hG2.1.form
  refine (rsame_any L (setL L) ad ad2 n cap _ cap2 w2 (HR.out.next hB2) hG2.1).mono ?_
  rintro e w3 ⟨rfl, m, rfl⟩
  go_wp2_with fail
  go_ret
  exact ⟨rfl, below_drewN hB2 m⟩
end Go.Proofs.Ytfcoecojjciphaa.ids
