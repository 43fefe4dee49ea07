/-
  The landed record: what its functions answer.
  The landed journal: a Journal's block, made, Len, Safe, Size, Sync, Append; of one that nobody made.
-/
import Derived.Test.YtkbbeioednhefaaDoorRlt
import Derived.Test.YtkbbeioednhefaaDoorBln
import Derived.Test.YtkbbeioednhefaaDoorOctp
namespace Go.Proofs.YtkbbeioednhefaaDoor.rcd
open Go.RowKit Go.Proofs.YtkbbeioednhefaaDoor.mem

theorem rc_is : RcIs crc.Tab where
  next := crc.Tab.next
  put k b w hT hb := lput_any k b w hT hb
  nxt s i w hT hs := lnext_any s i w hT (by omega)
  all s w hT hs := lall_any s w hT hs
  size n w _ hn := (size_any n (by omega) w).mono fun _ _ ⟨he, hw⟩ => ⟨he, hw ▸ Below.refl _ _⟩
end Go.Proofs.YtkbbeioednhefaaDoor.rcd

namespace Go.Proofs.YtkbbeioednhefaaDoor.jn
open Go.RowKit Go.Proofs.YtkbbeioednhefaaDoor.mem Go.Proofs.YtkbbeioednhefaaDoor.rcd Go.Proofs.YtkbbeioednhefaaDoor.rows Go.Proofs.YtkbbeioednhefaaDoor.bk

/-- a Journal's block: the file, itself, how many records there are, how many are safe -/
def JBlk (w : World) (g : Nat) (b sv : Value) (n m : Nat) : Prop := Blk w g 52 #[b, sv, .int .i64 (n : Int), .int .i64 (m : Int)]
theorem JBlk.c0 {w : World} {g : Nat} {b sv : Value} {n m : Nat} (h : JBlk w g b sv n m) : w.cell? ⟨g, 0, none⟩ = some b := Blk.cell h 0
theorem JBlk.c1 {w : World} {g : Nat} {b sv : Value} {n m : Nat} (h : JBlk w g b sv n m) : w.cell? ⟨g, 1, none⟩ = some sv := Blk.cell h 1
theorem JBlk.c2 {w : World} {g : Nat} {b sv : Value} {n m : Nat} (h : JBlk w g b sv n m) : w.cell? ⟨g, 2, none⟩ = some (.int .i64 (n : Int)) := Blk.cell h 2
theorem JBlk.c3 {w : World} {g : Nat} {b sv : Value} {n m : Nat} (h : JBlk w g b sv n m) : w.cell? ⟨g, 3, none⟩ = some (.int .i64 (m : Int)) := Blk.cell h 3
/-- .. in blocks of their own, none of them the journal's, none the table's -/
def Own (G : Nat → Prop) (g : Nat) : Nat → Prop := fun k => G k ∧ k ≠ g ∧ k ≠ 0
/-- a Journal that Open made -/
def JnOf (G : Nat → Prop) (w : World) (g : Nat) (b : Value) (j : Jr) : Prop :=
  JBlk w g b (.pointer (some ⟨g, 0, none⟩)) j.l.length j.m ∧ BlkIs (Own G g) w b j.s j.k ∧ (G g ∧ g ≠ 0) ∧ j.m ≤ j.l.length ∧ j.l.length ≤ j.s.length
def JnL (G : Nat → Prop) (w : World) (p b : Value) (j : Jr) : Prop := ∃ g, p = .pointer (some ⟨g, 0, none⟩) ∧ JnOf G w g b j
theorem own_new {G : Nat → Prop} {w : World} {g : Nat} (hT : crc.Tab w) (hn : New G w) (hg : g < w.heap.size) : New (Own G g) w := fun k hk => ⟨hn k hk, by omega, by have := hT.1; omega⟩
theorem tab_own {G : Nat → Prop} {w w' : World} {g : Nat} (hT : crc.Tab w) (ht : Turn (Own G g) w w') : crc.Tab w' := rcd.tab_turn hT ht fun h => h.2.2 rfl
theorem own_sub {G : Nat → Prop} {g : Nat} : ∀ k, Own G g k → G k := fun _ h => h.1
/-- nil, or one that nobody made -/
def JnNo (w : World) (p : Value) : Prop := p = .pointer none ∨ ∃ g, p = .pointer (some ⟨g, 0, none⟩) ∧ Blk w g 52 #[.pointer none, .pointer none, .int .i64 0, .int .i64 0]
theorem blk_lens {G : Nat → Prop} {w : World} {b : Value} {s : List UInt8} {k : Nat} (h : BlkIs G w b s k) : k ≤ s.length ∧ s.length ≤ 9223372036854775807 := by
  obtain ⟨g, v, _, _, hd, _, hk⟩ := h
  have := hd.len
  unfold maxLen at this
  exact ⟨hk, by omega⟩

theorem hasJ : (Tryd.prog.info? 52).isSome = true := by kernel_rfl
theorem jn_eql (a : Addr) (w : World) : (binOp .eql 28 (.pointer (some a)) (.pointer (some a))).run Tryd.prog w = .ok (.bool true) w := by
  obtain ⟨j, hj⟩ := Option.isSome_iff_exists.1 hasJ
  exact run_eql_ptr_same w a Tryd.underlying28 hj
theorem jmade_ok (g : Nat) (b : Value) (n m : Nat) (w : World) (h : JBlk w g b (.pointer (some ⟨g, 0, none⟩)) n m) : Calls Tryd.prog 41 #[.pointer (some ⟨g, 0, none⟩)] w fun e w' => e = .returned (.bool true) ∧ w = w' := by
  have h0 := h.c1
  have hne := jn_eql
  clear h
  go_enter Tryd.func41, Tryd.ntmps41
  go_wp2
  go_ret
  exact ⟨rfl, rfl⟩
theorem jmade_no (p : Value) (w : World) (h : JnNo w p) : Calls Tryd.prog 41 #[p] w fun e w' => e = .returned (.bool false) ∧ w = w' := by
  rcases h with rfl | ⟨g, rfl, h⟩
  · go_enter Tryd.func41, Tryd.ntmps41
    go_wp2
    go_ret
    exact ⟨rfl, rfl⟩
  · have h0 : w.cell? ⟨g, 1, none⟩ = some (.pointer none) := h.cell 1
    have hne := fun a w => eql_nil_left (t := 28) a w Tryd.underlying28
    clear h
    go_enter Tryd.func41, Tryd.ntmps41
    go_wp2
    go_ret
    exact ⟨rfl, rfl⟩

section
variable {G : Nat → Prop} {g : Nat} {b : Value} {j : Jr} {w : World}
theorem jlen_any (h : JnOf G w g b j) : Calls Tryd.prog 21 #[.pointer (some ⟨g, 0, none⟩)] w fun e w' => e = .returned (.int .i64 (j.l.length : Int)) ∧ w = w' := by
  have h2 := h.1.c2
  have HM := Lib.hid (jmade_ok g _ _ _ w h.1)
  clear h
  go_enter Tryd.func21, Tryd.ntmps21
  go_wp2_with (go_at_call 41; (with_reducible refine HM.out.mono ?_); rintro e w1 ⟨rfl, rfl⟩)
  go_ret
  exact ⟨rfl, rfl⟩
theorem jsafe_any (h : JnOf G w g b j) : Calls Tryd.prog 22 #[.pointer (some ⟨g, 0, none⟩)] w fun e w' => e = .returned (.int .i64 (j.m : Int)) ∧ w = w' := by
  have h2 := h.1.c3
  have HM := Lib.hid (jmade_ok g _ _ _ w h.1)
  clear h
  go_enter Tryd.func22, Tryd.ntmps22
  go_wp2_with (go_at_call 41; (with_reducible refine HM.out.mono ?_); rintro e w1 ⟨rfl, rfl⟩)
  go_ret
  exact ⟨rfl, rfl⟩
theorem jsize_any (h : JnOf G w g b j) : Calls Tryd.prog 23 #[.pointer (some ⟨g, 0, none⟩)] w fun e w' => e = .returned (.int .i64 (j.s.length : Int)) ∧ w = w' := by
  have h2 := h.1.c0
  have HM := Lib.hid (jmade_ok g _ _ _ w h.1)
  have HS := Lib.hid (size_any _ b j.s j.k w h.2.1)
  clear h
  go_enter Tryd.func23, Tryd.ntmps23
  go_wp2_with (first
    | (go_at_call 41; (with_reducible refine HM.out.mono ?_); rintro e w1 ⟨rfl, rfl⟩)
    | (go_at_call 47; (with_reducible refine HS.out.mono ?_); rintro e w1 ⟨rfl, rfl⟩))
  go_ret
  exact ⟨rfl, rfl⟩
set_option maxHeartbeats 4000000 in
theorem jsync_any (hT : crc.Tab w) (hn : New G w) (h : JnOf G w g b j) : Calls Tryd.prog 17 #[.pointer (some ⟨g, 0, none⟩)] w fun e w' => e = .returned (.int .i64 (syncJ j).2) ∧ JnOf G w' g b (syncJ j).1 ∧ Turn G w w' := by
  obtain ⟨hj, hb, hg, hm, hl⟩ := h
  have c0 := hj.c0
  have c2 := hj.c2
  have c3 := hj.c3
  have hlt : g < w.heap.size := Blk.lt hj
  have hls := blk_lens hb
  have ew : IntKind.i64.wrap ((j.l.length : Int) - (j.m : Int)) = (j.l.length : Int) - (j.m : Int) := by rw [IntKind.wrap_i64]; omega
  have HM := Lib.hid (jmade_ok g _ _ _ w hj)
  have HS := Lib.hid fun n => sync_any (Own G g) b j.s j.k (w.drewN n) (own_new hT hn hlt) (hb.next (below_drewN (Below.refl _ _) n))
  have HJ := Lib.hid hj
  have HG := Lib.hid hg
  have HL := Lib.hid hl
  unfold syncJ
  obtain ⟨N, hN⟩ : ∃ N, N = j.l.length := ⟨_, rfl⟩
  rw [← hN] at c2 ew HJ HL ⊢
  clear hj hb hg hm hl hls hn hlt hT
  have HN := Lib.hid hN
  clear hN
  go_enter Tryd.func17, Tryd.ntmps17
  go_wp2_with (go_at_call 41; (with_reducible refine HM.out.mono ?_); rintro e w1 ⟨rfl, rfl⟩)
  go_quiet (fail)
  go_wp2_with (go_at_call 44; (with_reducible refine (HS.out _).mono ?_); rintro e w2 ⟨rfl, hb2, ht2⟩; (have ht2 : Turn (Own G g) w w2 := ⟨ht2.os, ht2.tape, ht2.output, ht2.size, ht2.block⟩); (have hJ2 : JBlk w2 g b (.pointer (some ⟨g, 0, none⟩)) N j.m := Blk.turn HJ.out ht2 (fun hh => hh.2.1 rfl)); have d2 := hJ2.c2; have d3 := hJ2.c3; (have f3 : w2.frozen? ⟨g, 3, none⟩ = false := Blk.frozen hJ2 3); have HB2 := Lib.hid hb2; have HJ2 := Lib.hid hJ2; have HT2 := Lib.hid ht2; clear hb2 hJ2 ht2)
  go_ret
  have ht : ∀ u : Value, Turn (· = g) w2 (w2.setCell ⟨g, 3, none⟩ u) := fun u => (Turn.refl (· = g) w2).setCell (p := ⟨g, 3, none⟩) rfl _
  refine ⟨rfl, ⟨?_, (bk_is.turn HB2.out (ht _) fun k _ hk hh => hk.2.1 hh), HG.out, Nat.le_of_eq HN.out, HN.out ▸ HL.out⟩, (HT2.out.mono own_sub).trans ((ht _).mono fun k hk => hk ▸ HG.out.1)⟩
  have := Blk.set_ HJ2.out 3 (.int .i64 (N : Int))
  rw [← HN.out]
  exact this
end
end Go.Proofs.YtkbbeioednhefaaDoor.jn
