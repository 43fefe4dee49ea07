/-
  FaultNone; petrellaw04.texts.
-/
import Derived.Test.YtlbieneklijpeaaDoorFaw
namespace Go.Proofs.YtlbieneklijpeaaDoor.fault
open Go.RowKit Go.Proofs.YtlbieneklijpeaaDoor.mem Go.Proofs.YtlbieneklijpeaaDoor.sha Go.Proofs.YtlbieneklijpeaaDoor.ids Go.Proofs.YtlbieneklijpeaaDoor.rows Go.Extern.Stop Go.Stop Go.Extern

set_option maxHeartbeats 4000000 in
set_option maxRecDepth 100000 in
theorem none_walk (op : ByteArray) (e : Int) (w : World) (hg : Tab w) : Calls Tryd.prog 6 #[.string op, .int .i64 e] w fun x w' => x = .returned (.bool true) ∧ Below w.heap.size w w' := by
  have k1 : ∀ w, Calls Tryd.prog 16 #[.string op, .nilIface] w fun x w' => x = .returned .nilIface ∧ Below w.heap.size w w' := fun w => by
    go_enter Tryd.func16, Tryd.ntmps16
    go_wp2_with fail
    go_ret
    exact ⟨rfl, Below.refl _ _⟩
  have k2 : ∀ w, Calls Tryd.prog 18 #[.nilIface, .nilIface] w fun x w' => x = .returned .nilIface ∧ Below w.heap.size w w' := fun w =>
    (fjoin_any none none (fun _ => True) .nilIface .nilIface w rfl rfl).mono fun x w' ⟨v, h1, h2, h3⟩ => by cases h2; exact ⟨h1, h3⟩
  have k3 : ∀ w, Calls Tryd.prog 19 #[.int .i64 0] w fun x w' => x = .returned .nilIface ∧ w = w' := fun w =>
    (fnew_any 0 w (fun _ => True)).mono fun x w' ⟨v, h1, h2, h3⟩ => by cases h2; exact ⟨h1, h3⟩
  have k5 : ∀ w, Tab w → Calls Tryd.prog 13 #[.nilIface] w fun x w' => x = .returned (.int .i64 0) ∧ Below w.heap.size w w' := fun w h =>
    fcode_any none (fun _ => True) .nilIface w rfl h
  have k6 : ∀ w, Calls Tryd.prog 9 #[.nilIface] w fun x w' => ∃ ad cap, x = .returned (.slice ad 0 cap) ∧ Below w.heap.size w w' := fun w =>
    (fops_any none (fun _ => True) .nilIface w rfl (by decide)).mono fun x w' ⟨v, h1, h2, h3⟩ => by
      obtain ⟨ad6, cap6, rfl⟩ := (h2.rdc (by decide)).1.form
      exact ⟨ad6, cap6, h1, h3⟩
  have k7 : ∀ w, Calls Tryd.prog 10 #[.nilIface, .int .i64 e] w fun x w' => x = .returned (.bool (e == 0)) ∧ Below w.heap.size w w' := fun w =>
    (fis_any e none (fun _ => True) .nilIface w rfl).mono fun x w' ⟨h1, h2⟩ => ⟨by
      rw [h1]
      unfold isF
      by_cases he : e = 0
      · simp [he, fltO, noF]
      · simp [he, fltO, noF], h2⟩
  have HG := Lib.hid hg
  clear hg
  by_cases he : e = 0
  · subst he
    go_enter Tryd.func6, Tryd.ntmps6
    go_upto_region 7 with (first
      | (go_at_call 16; refine (k1 _).mono ?_; rintro x w1 ⟨rfl, hb1⟩)
      | (go_at_call 18; refine (k2 _).mono ?_; rintro x w2 ⟨rfl, hb2⟩; have hB2 := hb1.trans (hb2.mono hb1.size))
      | (go_at_call 19; refine (k3 _).mono ?_; rintro x w3 ⟨rfl, rfl⟩)
      | (go_at_call 12; refine (freport_none (o := none) (F := fun _ => True) rfl (HG.out.next hB2) rfl).mono ?_; rintro x w4 ⟨rfl, hb4⟩; have hB4 := hB2.trans (hb4.mono hB2.size))
      | (go_at_call 13; refine (k5 _ (HG.out.next hB4)).mono ?_; rintro x w5 ⟨rfl, hb5⟩; have hB5 := hB4.trans (hb5.mono hB4.size))
      | (go_at_call 9; refine (k6 _).mono ?_; rintro x w6 ⟨ad6, cap6, rfl, hb6⟩; have hB6 := hB5.trans (hb6.mono hB5.size)))
    have HB6 := Lib.hid hB6
    have HG6 := Lib.hid (HG.out.next hB6)
    clear hb1 hb2 hB2 hb4 hB4 hb5 hB5 hb6 hB6
    go_wp2_with (first
      | (go_at_call 19; refine (k3 _).mono ?_; rintro x w7 ⟨rfl, rfl⟩)
      | (go_at_call 18; refine (k2 _).mono ?_; rintro x w8 ⟨rfl, hb8⟩; have hB8 := HB6.out.trans (hb8.mono HB6.out.size))
      | (go_at_call 13; refine (k5 _ (HG.out.next hB8)).mono ?_; rintro x w9 ⟨rfl, hb9⟩; have hB9 := hB8.trans (hb9.mono hB8.size))
      | (go_at_call 10; refine (k7 _).mono ?_; rintro x w10 ⟨rfl, hb10⟩; have hB10 := hB9.trans (hb10.mono hB9.size))
      | (go_at_call 15; refine (awake_any _ (HG.out.next hB10)).mono ?_; rintro x w11 ⟨rfl, hb11⟩))
    go_ret
    exact ⟨rfl, hB10.trans (hb11.mono hB10.size)⟩
  · have hee : (e == 0) = false := beq_eq_false_iff_ne.2 he
    rw [hee] at k7
    have k8 : ∀ w, Calls Tryd.prog 19 #[.int .i64 e] w fun x w' => x = .returned (.iface 35 (.int .i64 e)) ∧ w = w' := fun w =>
      (fnew_any e w (fun _ => True)).mono fun x w' ⟨v, h1, h2, h3⟩ => by
        unfold newT at h2
        rw [if_neg he] at h2
        rw [h1, h2.1]
        exact ⟨rfl, h3⟩
    have k9 : ∀ w, Calls Tryd.prog 18 #[.nilIface, .iface 35 (.int .i64 e)] w fun x w' => x = .returned (.iface 35 (.int .i64 e)) ∧ Below w.heap.size w w' := fun w =>
      (fjoin_any none (some (.num e)) (fun _ => True) .nilIface _ w rfl ⟨rfl, he⟩).mono fun x w' ⟨v, h1, h2, h3⟩ => by
        rw [h1, h2.1]
        exact ⟨rfl, h3⟩
    have k10 : ∀ w, Tab w → Calls Tryd.prog 13 #[.iface 35 (.int .i64 e)] w fun x w' => x = .returned (.int .i64 e) ∧ Below w.heap.size w w' := fun w h =>
      fcode_any (some (.num e)) (fun _ => True) _ w ⟨rfl, he⟩ h
    clear he
    go_enter Tryd.func6, Tryd.ntmps6
    go_upto_region 7 with (first
      | (go_at_call 16; refine (k1 _).mono ?_; rintro x w1 ⟨rfl, hb1⟩)
      | (go_at_call 18; refine (k2 _).mono ?_; rintro x w2 ⟨rfl, hb2⟩; have hB2 := hb1.trans (hb2.mono hb1.size))
      | (go_at_call 19; refine (k3 _).mono ?_; rintro x w3 ⟨rfl, rfl⟩)
      | (go_at_call 12; refine (freport_none (o := none) (F := fun _ => True) rfl (HG.out.next hB2) rfl).mono ?_; rintro x w4 ⟨rfl, hb4⟩; have hB4 := hB2.trans (hb4.mono hB2.size))
      | (go_at_call 13; refine (k5 _ (HG.out.next hB4)).mono ?_; rintro x w5 ⟨rfl, hb5⟩; have hB5 := hB4.trans (hb5.mono hB4.size))
      | (go_at_call 9; refine (k6 _).mono ?_; rintro x w6 ⟨ad6, cap6, rfl, hb6⟩; have hB6 := hB5.trans (hb6.mono hB5.size)))
    have HB6 := Lib.hid hB6
    have HG6 := Lib.hid (HG.out.next hB6)
    clear hb1 hb2 hB2 hb4 hB4 hb5 hB5 hb6 hB6
    go_wp2_with (first
      | (go_at_call 19; refine (k8 _).mono ?_; rintro x w7 ⟨rfl, rfl⟩)
      | (go_at_call 18; refine (k9 _).mono ?_; rintro x w8 ⟨rfl, hb8⟩; have hB8 := HB6.out.trans (hb8.mono HB6.out.size))
      | (go_at_call 13; refine (k10 _ (HG.out.next hB8)).mono ?_; rintro x w9 ⟨rfl, hb9⟩; have hB9 := hB8.trans (hb9.mono hB8.size))
      | (go_at_call 10; refine (k7 _).mono ?_; rintro x w10 ⟨rfl, hb10⟩; have hB10 := hB9.trans (hb10.mono hB9.size))
      | (go_at_call 15; refine (awake_any _ (HG.out.next hB10)).mono ?_; rintro x w11 ⟨rfl, hb11⟩))
    go_ret
    exact ⟨rfl, hB10.trans (hb11.mono hB10.size)⟩

theorem texts_get {l : List ByteArray} {i : Nat} (hi : i < l.length) : (texts l).getD i undef = .string (l.getD i ⟨#[]⟩) := by
  unfold texts
  rw [List.getD_eq_getElem?_getD, List.getElem?_map, List.getD_eq_getElem?_getD, List.getElem?_eq_getElem hi]
  rfl
set_option maxHeartbeats 1000000 in
set_option maxRecDepth 100000 in
/-- of two lists that are one -/
theorem texts_any (L : List ByteArray) (ad ad2 : Option Addr) (cap cap2 : Nat) (w : World) (hL : RdC w (.slice ad L.length cap) (texts L)) (hM : RdC w (.slice ad2 L.length cap2) (texts L)) :
    Calls Tryd.prog 8 #[.slice ad L.length cap, .slice ad2 L.length cap2] w fun e w' => e = .returned (.bool true) ∧ ∃ m, w' = w.drewN m := by
  have hmx : L.length ≤ 140737488355328 := by have := hL.max; unfold texts at this; rwa [List.length_map] at this
  have HL := Lib.hid hL
  have HM := Lib.hid hM
  clear hL hM
  go_enter Tryd.func8, Tryd.ntmps8
  go_wp2_with fail
  go_loopw [5] (fun i wr => ∃ k m : Nat, k ≤ L.length ∧ i = .int .i64 k ∧ wr = w.drewN m) (fun i _ => L.length - (intOf i).toNat)
  case atStart => exact ⟨0, 0, Nat.zero_le _, rfl, rfl⟩
  case round =>
    obtain ⟨k, m, hk, rfl, hwr⟩ := hrel
    have HW := Lib.hid hwr
    have k0 : (0 : Int) ≤ (k : Int) := Int.natCast_nonneg _
    by_cases hlt : k < L.length
    · have kI : (k : Int) < (L.length : Int) := by omega
      obtain ⟨b, off, rfl, hb, hc⟩ := (show RdC wr _ (texts L) by rw [hwr]; exact HL.out.next (below_drewN (Below.refl _ _) m)).cell (i := k) (by unfold texts; rw [List.length_map]; exact hlt)
      obtain ⟨b2, off2, rfl, hb2, hc2⟩ := (show RdC wr _ (texts L) by rw [hwr]; exact HM.out.next (below_drewN (Below.refl _ _) m)).cell (i := k) (by unfold texts; rw [List.length_map]; exact hlt)
      rw [texts_get hlt] at hc hc2
      obtain ⟨y, hyy⟩ : ∃ y, y = L.getD k ⟨#[]⟩ := ⟨_, rfl⟩
      rw [← hyy] at hc hc2
      have hbe : (y.toList == y.toList) = true := beq_self_eq_true _
      clear hwr hyy
      go_wp2_with fail
      go_quiet (fail)
      go_wp2_with fail
      go_roundw
      case rel => exact ⟨k + 1, _, hlt, by push_cast; rfl, by rw [HW.out, World.drewN_drewN]⟩
      case measure => simp [intOf]; omega
    · obtain rfl : k = L.length := by omega
      clear hwr
      go_wp2_with fail
      go_ret
      exact ⟨rfl, _, HW.out⟩
end Go.Proofs.YtlbieneklijpeaaDoor.fault
