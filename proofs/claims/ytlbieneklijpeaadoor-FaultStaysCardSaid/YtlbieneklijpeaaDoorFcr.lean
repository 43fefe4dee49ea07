/-
  fault.Code, fault.Report.
-/
import Derived.Test.YtlbieneklijpeaaDoorFmk
namespace Go.Proofs.YtlbieneklijpeaaDoor.fault
open Go.RowKit Go.Proofs.YtlbieneklijpeaaDoor.mem Go.Proofs.YtlbieneklijpeaaDoor.sha Go.Proofs.YtlbieneklijpeaaDoor.ids Go.Proofs.YtlbieneklijpeaaDoor.rows Go.Extern.Stop Go.Stop Go.Extern

theorem Lie.cap {w : World} {F : Nat → Prop} : ∀ {t : Tr} {v : Value}, Lie w F v t → Lie w (fun k => F k ∧ k < w.heap.size) v t
  | .num e, v, h => h
  | .rep L, v, ⟨b, ad, cap, h1, h2, h3, h4, h5, h6⟩ => ⟨b, ad, cap, h1, ⟨h2, h3.lt⟩, h3, h4, ⟨h5, by
      obtain ⟨b', off, cap', e, hlt⟩ := RdV.some_ h4 h6.1
      cases e
      exact hlt⟩, h6⟩
  | .wr op t, v, ⟨b, v', h1, h2, h3, h4⟩ => ⟨b, v', h1, ⟨h2, h3.lt⟩, h3, h4.cap⟩
  | .two t u, v, ⟨b, v1, v2, h1, h2, h3, h4, h5⟩ => ⟨b, v1, v2, h1, ⟨h2, h3.lt⟩, h3, h4.cap, h5.cap⟩

set_option maxHeartbeats 1000000 in
set_option maxRecDepth 100000 in
theorem fcode_any (o : Option Tr) (F : Nat → Prop) (v : Value) (w : World) (h : LieO w F v o) (hg : Tab w) : Calls Tryd.prog 13 #[v] w fun x w' => x = .returned (.int .i64 ((fltO o).nums.headD 0)) ∧ Below w.heap.size w w' := by
  have hb1 : Below w.heap.size w (w.alloc (.cells #[.int .i64 0] 35)) := (Below.refl _ _).alloc (Nat.le_refl _) _
  cases o with
  | none =>
    cases h
    go_enter Tryd.func13, Tryd.ntmps13
    go_wp2_with (first
      | (go_at_call 26; refine (ours_nil _).mono ?_; rintro x w1 ⟨rfl, rfl⟩)
      | (go_at_call 27; refine (As_nil _ _).mono ?_; rintro x w2 ⟨rfl, rfl⟩))
    go_ret
    exact ⟨rfl, hb1⟩
  | some t =>
    have HL := Lib.hid (LieO.next h hb1)
    have HG := Lib.hid (hg.next hb1)
    obtain ⟨ty, x, rfl⟩ := Lie.form h
    obtain ⟨n, hn⟩ : ∃ n, n = t.flt.nums.headD 0 := ⟨_, rfl⟩
    have hk := As_num t F (.iface ty x) _ w.heap.size (.int .i64 0) HL.out (Blk.new w _ _) HG.out
    rw [← hn] at hk
    have HN := Lib.hid hn
    clear hn h hg
    go_enter Tryd.func13, Tryd.ntmps13
    go_wp2_with (first
      | (go_at_call 26; refine (ours_any HL.out).mono ?_; rintro x w1 ⟨rfl, rfl⟩)
      | (go_at_call 27; refine hk.mono ?_; rintro x w2 ⟨rfl, hB2, ht2⟩; have hc2 := hB2.cell 0))
    go_ret
    refine ⟨by rw [HN.out]; rfl, hb1.trans (ht2.below fun k hk => ?_)⟩
    rcases hk with h | h
    · omega
    · simp at h; omega

/-- what Report answers -/
def RepAns (w w' : World) (x : Ending) (reps : List (List Id)) : Prop :=
  (reps = [] ∧ x = .returned (.tuple #[.slice none 0 0, .bool false])) ∨ ∃ L M v, reps = L :: M ∧ x = .returned (.tuple #[v, .bool true]) ∧ OwnI w' (w.heap.size ≤ ·) v L ∧ L ≠ [] ∧ L.length < 1000000
set_option maxHeartbeats 1000000 in
set_option maxRecDepth 100000 in
theorem freport_any (o : Option Tr) (F : Nat → Prop) (v : Value) (w : World) (h : LieO w F v o) (hg : Tab w) : Calls Tryd.prog 12 #[v] w fun x w' => RepAns w w' x (fltO o).reps ∧ Below w.heap.size w w' := by
  have hb1 : Below w.heap.size w (w.alloc (.cells #[.pointer none] 64)) := (Below.refl _ _).alloc (Nat.le_refl _) _
  cases o with
  | none =>
    cases h
    go_enter Tryd.func12, Tryd.ntmps12
    go_wp2_with (first
      | (go_at_call 26; refine (ours_nil _).mono ?_; rintro x w1 ⟨rfl, rfl⟩)
      | (go_at_call 27; refine (As_nil _ _).mono ?_; rintro x w2 ⟨rfl, rfl⟩))
    go_ret2
    exact ⟨.inl ⟨rfl, rfl⟩, hb1⟩
  | some t =>
    have HL := Lib.hid (Lie.next (Lie.cap h) hb1)
    have HG := Lib.hid (hg.next hb1)
    obtain ⟨ty, x, rfl⟩ := Lie.form h
    have hk := As_rep t _ (.iface ty x) _ w.heap.size (.pointer none) HL.out (Blk.new w _ _) HG.out (fun h => Nat.lt_irrefl _ h.2)
    have HO := Lib.hid (show LieO (w.alloc (.cells #[.pointer none] 64)) _ (.iface ty x) (some t) from HL.out)
    clear h hg
    cases hr : t.flt.reps with
    | nil =>
      have hk' : Calls Tryd.prog 27 #[.iface ty x, .iface 66 (.pointer (some ⟨w.heap.size, 0, none⟩))] (w.alloc (.cells #[.pointer none] 64)) fun x w' => x = .returned (.bool false) ∧ Below w.heap.size w w' := by
        rw [hr] at hk
        refine hk.mono ?_
        rintro x w' ⟨rfl, ⟨-, hb⟩ | ⟨L', M', p, he, _⟩⟩
        · exact ⟨rfl, hb1.trans (hb.mono hb1.size)⟩
        · cases he
      have HR := Lib.hid hr
      clear hr hk
      go_enter Tryd.func12, Tryd.ntmps12
      go_wp2_with (first
        | (go_at_call 26; refine (ours_any HO.out).mono ?_; rintro x w1 ⟨rfl, rfl⟩)
        | (go_at_call 27; refine hk'.mono ?_; rintro x w2 ⟨rfl, hb2⟩))
      go_ret2
      exact ⟨.inl ⟨HR.out, rfl⟩, hb2⟩
    | cons L M =>
      have hk' : Calls Tryd.prog 27 #[.iface ty x, .iface 66 (.pointer (some ⟨w.heap.size, 0, none⟩))] (w.alloc (.cells #[.pointer none] 64)) fun x w' => x = .returned (.bool true) ∧
          ∃ b ad cap, Blk w' w.heap.size 64 #[.pointer (some ⟨b, 0, none⟩)] ∧ Blk w' b 71 #[.slice (some ad) L.length cap] ∧ Hid (RdV w' (.slice (some ad) L.length cap) L) ∧ Hid (L ≠ []) ∧ Hid (L.length < 1000000) ∧ Hid (Below w.heap.size w w') := by
        rw [hr] at hk
        refine hk.mono ?_
        rintro x w' ⟨rfl, ⟨he, -⟩ | ⟨L', M', p, he, hp, hb, ht⟩⟩
        · cases he
        · cases he
          obtain ⟨b, ad, cap, h1, -, h3, h4, -, h5, h6⟩ := hp
          cases h1
          refine ⟨rfl, b, ad, cap, hb, h3, Lib.hid h4, Lib.hid h5, Lib.hid h6, Lib.hid (hb1.trans (ht.below fun k hk => ?_))⟩
          rcases hk with h | h
          · omega
          · simp at h; omega
      have HR := Lib.hid hr
      clear hr hk
      go_enter Tryd.func12, Tryd.ntmps12
      go_wp2_with (first
        | (go_at_call 26; refine (ours_any HO.out).mono ?_; rintro x w1 ⟨rfl, rfl⟩)
        | (go_at_call 27; refine hk'.mono ?_; rintro x w2 ⟨rfl, b, ad, cap, hB1, hB2, hR, hne, hmx, hb2⟩; have k0 := hB1.cell 0; have k1 := hB2.cell 0)
        | (go_at_call 28; refine (clone_ids hR.out hne.out hmx.out).mono ?_; rintro x w3 ⟨v3, rfl, hO3, hb3⟩))
      go_ret2
      exact ⟨.inr ⟨L, M, v3, HR.out, rfl, ⟨hO3.1, hO3.2.1, fun k hk => Nat.le_trans hb2.out.size (hO3.2.2 k hk)⟩, hne.out, hmx.out⟩, hb2.out.trans (hb3.mono hb2.out.size)⟩
end Go.Proofs.YtlbieneklijpeaaDoor.fault
