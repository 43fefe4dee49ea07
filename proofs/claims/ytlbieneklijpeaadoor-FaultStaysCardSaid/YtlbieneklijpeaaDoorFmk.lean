/-
  slices.Clone of ids; fault.New, Wrap, Missing, Join, Code, Report.
-/
import Derived.Test.YtlbieneklijpeaaDoorFau
import Derived.Test.YtlbieneklijpeaaDoorScl
namespace Go.Proofs.YtlbieneklijpeaaDoor.fault
open Go.RowKit Go.Proofs.YtlbieneklijpeaaDoor.mem Go.Proofs.YtlbieneklijpeaaDoor.sha Go.Proofs.YtlbieneklijpeaaDoor.ids Go.Proofs.YtlbieneklijpeaaDoor.rows Go.Extern.Stop Go.Stop Go.Extern

theorem RdV.some_ {w : World} {v : Value} {L : List Id} (h : RdV w v L) (hne : L ≠ []) : ∃ b off cap, v = .slice (some ⟨b, off, none⟩) L.length cap ∧ b < w.heap.size := by
  obtain ⟨ad, cap, rfl⟩ := h.form
  obtain ⟨b, off, rfl, _, hb, _⟩ := h.load (i := 0) (List.length_pos_iff.2 hne)
  exact ⟨b, off, cap, rfl, hb⟩

set_option maxHeartbeats 1000000 in
set_option maxRecDepth 100000 in
theorem clone_ids {L : List Id} {v : Value} {w : World} (h : RdV w v L) (hne : L ≠ []) (hmax : L.length < 1000000) : Calls Tryd.prog 28 #[v] w fun x w' =>
    ∃ v', x = .returned v' ∧ OwnI w' (w.heap.size ≤ ·) v' L ∧ Below w.heap.size w w' := by
  obtain ⟨b, off, cap, rfl, hb⟩ := RdV.some_ h hne
  have hnil := fun w => Lib.run_eql_slice_nil (P := Tryd.prog) w 37 47 (some ⟨b, off, none⟩) L.length cap 0 0 Tryd.underlying37
  have hn0 : New (w.heap.size ≤ ·) w := fun _ h => h
  have hO0 := OwnI.laid0 w (w.heap.size ≤ ·) hn0
  have hb1 : Below w.heap.size w (w.alloc (.cells #[] 47)) := (Below.refl _ _).alloc (Nat.le_refl _) _
  obtain ⟨v', w', hrun, hO, ht⟩ := run_append_rd hO0 (h.next hb1) (by rw [List.length_nil]; omega) (hn0.alloc _) 37
  have hbt : Below w.heap.size w w' := hb1.trans ((ht.mono fun k hk => hk.elim (hO0.2.2 k) (fun h => hn0.alloc _ k h)).below fun k hk => hk)
  rw [List.nil_append] at hO
  have HO := Lib.hid hO
  have HB := Lib.hid hbt
  clear hO hbt ht hO0 hb1 hn0 h hne hb
  go_enter Tryd.func28, Tryd.ntmps28
  go_wp2_with ((with_reducible refine step_append (s := .tmp 5) (x := .tmp 6) (t := 37) (vs := ?asma) (vx := ?axma) (v' := ?avma) (w' := ?awma) ?agma ?aoma ?apma ?aqma ?arma ?ahma); (case agma => rfl); (case aoma => rfl); (case apma => rfl); (case aqma => rfl); (case arma => exact hrun))
  go_ret
  exact ⟨_, rfl, HO.out, HB.out⟩

theorem fnew_any (e : Int) (w : World) (F : Nat → Prop) : Calls Tryd.prog 19 #[.int .i64 e] w fun x w' => ∃ v, x = .returned v ∧ LieO w F v (newT e) ∧ w = w' := by
  by_cases h0 : e = 0
  · subst h0
    go_enter Tryd.func19, Tryd.ntmps19
    go_wp2_with fail
    go_ret
    exact ⟨_, rfl, rfl, rfl⟩
  · have he : (e == 0) = false := beq_eq_false_iff_ne.2 h0
    have HE := Lib.hid h0
    clear h0
    go_enter Tryd.func19, Tryd.ntmps19
    go_wp2_with fail
    go_ret
    exact ⟨_, rfl, by unfold newT; rw [if_neg HE.out]; exact ⟨rfl, HE.out⟩, rfl⟩

set_option maxHeartbeats 1000000 in
set_option maxRecDepth 100000 in
theorem fmissing_any (L : List Id) (v : Value) (w : World) (h : RdV w v L) (hmax : L.length < 1000000) : Calls Tryd.prog 17 #[v] w fun x w' => ∃ v', x = .returned v' ∧ LieO w' (w.heap.size ≤ ·) v' (missT L) ∧ Below w.heap.size w w' := by
  by_cases h0 : L = []
  · subst h0
    obtain ⟨ad, cap, rfl⟩ := h.form
    go_enter Tryd.func17, Tryd.ntmps17
    go_wp2_with fail
    go_ret
    exact ⟨_, rfl, rfl, Below.refl _ _⟩
  · have hpos : 0 < L.length := List.length_pos_iff.2 h0
    have hz : ((L.length : Int) == 0) = false := beq_eq_false_iff_ne.2 (by omega)
    have HN := Lib.hid h0
    have HR := Lib.hid h
    obtain ⟨b, off, cap, rfl, hb⟩ := RdV.some_ h h0
    clear h h0 hpos
    go_enter Tryd.func17, Tryd.ntmps17
    go_wp2_with (go_at_call 28; refine (clone_ids HR.out HN.out hmax).mono ?_; rintro x w1 ⟨v1, rfl, hO1, hb1⟩; have hO1' := Lib.hid hO1; (obtain ⟨b1, off1, cap1, rfl, hlt1⟩ := RdV.some_ (hO1.rdv (by omega)).1 HN.out); clear hO1)
    go_ret
    have hr := hO1'.out.rdv (by omega)
    refine ⟨_, rfl, ?_, hb1.alloc hb1.size _⟩
    unfold missT
    rw [if_neg HN.out]
    exact ⟨w1.heap.size, _, _, rfl, hb1.size, Blk.new _ _ _, hr.1.next ((Below.refl _ _).alloc (Nat.le_refl _) _), hr.2 _ _ _ _ rfl, HN.out, hmax⟩

set_option maxHeartbeats 1000000 in
set_option maxRecDepth 100000 in
theorem fwrap_any (op : ByteArray) (o : Option Tr) (F : Nat → Prop) (v : Value) (w : World) (h : LieO w F v o) (hop : op.size ≤ 281474976710656) : Calls Tryd.prog 16 #[.string op, v] w fun x w' => ∃ v', x = .returned v' ∧ LieO w' (fun k => F k ∨ w.heap.size ≤ k) v' (wrapT op o) ∧ Below w.heap.size w w' := by
  cases o with
  | none =>
    cases h
    go_enter Tryd.func16, Tryd.ntmps16
    go_wp2_with fail
    go_ret
    exact ⟨_, rfl, rfl, Below.refl _ _⟩
  | some t =>
    have HL := Lib.hid h
    obtain ⟨ty, x, rfl⟩ := Lie.form h
    clear h
    go_enter Tryd.func16, Tryd.ntmps16
    go_wp2_with (first
      | (go_at_call 29; refine (sclone_any op _ hop).mono ?_; rintro x w1 ⟨rfl, hb1⟩)
      | (go_at_call 26; refine (ours_any (HL.out.next hb1)).mono ?_; rintro x w2 ⟨rfl, rfl⟩))
    go_ret
    refine ⟨_, rfl, ?_, hb1.alloc hb1.size _⟩
    exact ⟨w1.heap.size, _, rfl, .inr hb1.size, Blk.new _ _ _, (Lie.mono (fun k h => .inl h) ((HL.out.next hb1).next ((Below.refl _ _).alloc (Nat.le_refl _) _)))⟩

set_option maxHeartbeats 1000000 in
set_option maxRecDepth 100000 in
theorem fjoin_any (o o2 : Option Tr) (F : Nat → Prop) (v v2 : Value) (w : World) (h : LieO w F v o) (h2 : LieO w F v2 o2) : Calls Tryd.prog 18 #[v, v2] w fun x w' => ∃ v', x = .returned v' ∧ LieO w' (fun k => F k ∨ w.heap.size ≤ k) v' (joinT o o2) ∧ Below w.heap.size w w' := by
  cases o with
  | none =>
    cases h
    go_enter Tryd.func18, Tryd.ntmps18
    go_wp2_with fail
    go_ret
    exact ⟨_, rfl, h2.mono fun k h => .inl h, Below.refl _ _⟩
  | some t =>
    have HL := Lib.hid h
    obtain ⟨ty, x, rfl⟩ := Lie.form h
    cases o2 with
    | none =>
      cases h2
      clear h
      go_enter Tryd.func18, Tryd.ntmps18
      go_wp2_with fail
      go_ret
      exact ⟨_, rfl, HL.out.mono fun k h => .inl h, Below.refl _ _⟩
    | some t2 =>
      have HL2 := Lib.hid h2
      obtain ⟨ty2, x2, rfl⟩ := Lie.form h2
      clear h h2
      have hours : ∀ v : Value, (v = .iface ty x ∨ v = .iface ty2 x2) → Calls Tryd.prog 26 #[v] w fun x w' => x = .returned v ∧ w = w' := by
        rintro v (rfl | rfl)
        · exact ours_any HL.out
        · exact ours_any HL2.out
      go_enter Tryd.func18, Tryd.ntmps18
      go_wp2_with (go_at_call 26; refine (hours _ ?_).mono ?_; (first | exact .inl rfl | exact .inr rfl); rintro x w1 ⟨rfl, rfl⟩)
      go_ret
      have hb : Below w.heap.size w (w.alloc (.cells #[.iface ty x, .iface ty2 x2] 79)) := (Below.refl _ _).alloc (Nat.le_refl _) _
      exact ⟨_, rfl, ⟨w.heap.size, _, _, rfl, .inr (Nat.le_refl _), Blk.new _ _ _, Lie.mono (fun k h => .inl h) (HL.out.next hb), Lie.mono (fun k h => .inl h) (HL2.out.next hb)⟩, hb⟩
end Go.Proofs.YtlbieneklijpeaaDoor.fault
