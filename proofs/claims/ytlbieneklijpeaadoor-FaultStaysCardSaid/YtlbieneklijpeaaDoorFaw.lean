/-
  petrellaw04.awake, texts, FaultNone.
-/
import Derived.Test.YtlbieneklijpeaaDoorFops
namespace Go.Proofs.YtlbieneklijpeaaDoor.fault
open Go.RowKit Go.Proofs.YtlbieneklijpeaaDoor.mem Go.Proofs.YtlbieneklijpeaaDoor.sha Go.Proofs.YtlbieneklijpeaaDoor.ids Go.Proofs.YtlbieneklijpeaaDoor.rows Go.Extern.Stop Go.Stop Go.Extern

theorem calls_at {P : Program} {f : FuncId} {args : Array Value} {w w' : World} {Q : Ending → World → Prop} (h : w = w') (k : Calls P f args w' Q) : Calls P f args w Q := h ▸ k
theorem freport_some {o : Option Tr} {F : Nat → Prop} {v : Value} {w : World} (h : LieO w F v o) (hg : Tab w) {L : List Id} {M : List (List Id)} (hr : (fltO o).reps = L :: M) : Calls Tryd.prog 12 #[v] w fun x w' =>
    ∃ ad cap, x = .returned (.tuple #[.slice ad L.length cap, .bool true]) ∧ OwnI w' (w.heap.size ≤ ·) (.slice ad L.length cap) L ∧ Below w.heap.size w w' :=
  (freport_any o F v w h hg).mono fun x w' ⟨ha, hb⟩ => by
    rcases ha with ⟨he, -⟩ | ⟨L', M', u, he, hx, hO, -⟩
    · rw [hr] at he; cases he
    · rw [hr] at he
      cases he
      obtain ⟨ad, cap, rfl, -⟩ := hO.form
      exact ⟨ad, cap, hx, hO, hb⟩
theorem freport_none {o : Option Tr} {F : Nat → Prop} {v : Value} {w : World} (h : LieO w F v o) (hg : Tab w) (hr : (fltO o).reps = []) : Calls Tryd.prog 12 #[v] w fun x w' =>
    x = .returned (.tuple #[.slice none 0 0, .bool false]) ∧ Below w.heap.size w w' :=
  (freport_any o F v w h hg).mono fun x w' ⟨ha, hb⟩ => by
    rcases ha with ⟨-, hx⟩ | ⟨L', M', u, he, hx, hO, -⟩
    · exact ⟨hx, hb⟩
    · rw [hr] at he; cases he
def id1 : Id := 1 :: List.replicate 31 0
def qry : ByteArray := ⟨#[113, 117, 101, 114, 121]⟩

set_option maxHeartbeats 4000000 in
set_option maxRecDepth 100000 in
theorem awake_any (w : World) (hg : Tab w) : Calls Tryd.prog 15 #[] w fun e w' => e = .returned (.bool true) ∧ Below w.heap.size w w' := by
  obtain ⟨w1, hw1⟩ : ∃ u, u = w.alloc (.cells (fl [id1]).toArray 47) := ⟨_, rfl⟩
  have hr1 : RdV w1 (.slice (some ⟨w.heap.size, 0, none⟩) 1 1) [id1] := by rw [hw1]; exact RdV.laid w _ (okIds.one rfl) (by decide)
  have hb1 : Below w.heap.size w w1 := by rw [hw1]; exact (Below.refl _ _).alloc (Nat.le_refl _) _
  have k1 := fmissing_any [id1] _ w1 hr1 (by decide)
  have HW1 := Lib.hid hw1
  have HB1 := Lib.hid hb1
  have HG := Lib.hid (hg.next hb1)
  clear hw1 hr1 hb1 hg
  go_enter Tryd.func15, Tryd.ntmps15
  go_wp2_with fail
  refine calls_at HW1.out.symm ?_
  clear HW1
  refine k1.mono ?_
  rintro e w2 ⟨v1, rfl, hl1, hb2⟩
  have HB2 := Lib.hid (HB1.out.trans (hb2.mono HB1.out.size))
  have HG2 := Lib.hid (HG.out.next hb2)
  have k2 := fwrap_any qry _ _ v1 w2 hl1 (by decide)
  unfold qry at k2
  clear k1 hl1 hb2
  go_wp2_with (go_at_call 16; refine k2.mono ?_; rintro e w3 ⟨v2, rfl, hl2, hb3⟩)
  have HB3 := Lib.hid (HB2.out.trans (hb3.mono HB2.out.size))
  have HG3 := Lib.hid (HG2.out.next hb3)
  have HL := Lib.hid hl2
  clear k2 hl2 hb3
  have k3 := freport_some HL.out HG3.out (L := [id1]) (M := []) rfl
  go_wp2_with (go_at_call 12; refine k3.mono ?_; rintro e w4 ⟨ad, cap, rfl, hO, hb4⟩)
  have HB4 := Lib.hid (HB3.out.trans (hb4.mono HB3.out.size))
  have HL4 := Lib.hid (HL.out.next hb4)
  have k4 := fcode_any _ _ v2 w4 HL4.out (HG3.out.next hb4)
  clear k3 hb4
  go_wp2_with (first
    | (go_at_call 13; refine k4.mono ?_; rintro e w5 ⟨rfl, hb5⟩)
    | (go_at_call 9; refine (fops_any _ _ v2 _ (HL4.out.next hb5) (by decide)).mono ?_; rintro e w6 ⟨v6, rfl, hO6, hb6⟩; (obtain ⟨ad6, cap6, rfl⟩ := (hO6.rdc (by decide)).1.form)))
  go_ret
  exact ⟨rfl, HB4.out.trans ((hb5.trans (hb6.mono hb5.size)).mono HB4.out.size)⟩
end Go.Proofs.YtlbieneklijpeaaDoor.fault
