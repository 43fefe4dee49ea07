/-
  The landed record: what its functions answer.
  The landed journal: a Journal's block, made, Len, Safe, Size, Sync, Append; of one that nobody made.
  What journal's functions answer, but Len and Safe.
  The landed journal: Append, read, Open, Crash; jn_a.
-/
import Derived.Test.YtkbbeioednhefaaGreatDoorRlt
import Derived.Test.YtkbbeioednhefaaGreatDoorBln
import Derived.Test.YtkbbeioednhefaaGreatDoorJnp
import Derived.Test.YtkbbeioednhefaaGreatDoorRcaa
namespace Go.Proofs.YtkbbeioednhefaaGreatDoor.rcd
open Go.RowKit Go.Proofs.YtkbbeioednhefaaGreatDoor.mem

theorem rc_is : RcIs crc.Tab where
  next := crc.Tab.next
  put k b w hT hb := lput_any k b w hT hb
  nxt s i w hT hs := lnext_any s i w hT (by omega)
  all s w hT hs := lall_any s w hT hs
  size n w _ hn := (size_any n (by omega) w).mono fun _ _ ⟨he, hw⟩ => ⟨he, hw ▸ Below.refl _ _⟩
end Go.Proofs.YtkbbeioednhefaaGreatDoor.rcd

namespace Go.Proofs.YtkbbeioednhefaaGreatDoor.jn
open Go.RowKit Go.Proofs.YtkbbeioednhefaaGreatDoor.mem Go.Proofs.YtkbbeioednhefaaGreatDoor.rcd Go.Proofs.YtkbbeioednhefaaGreatDoor.rows Go.Proofs.YtkbbeioednhefaaGreatDoor.bk

/-- a Journal's block: the file, itself, how many records there are, how many are safe -/
def JBlk (w : World) (g : Nat) (b sv : Value) (n m : Nat) : Prop := Blk w g 63 #[b, sv, .int .i64 (n : Int), .int .i64 (m : Int)]
theorem JBlk.c0 {w : World} {g : Nat} {b sv : Value} {n m : Nat} (h : JBlk w g b sv n m) : w.cell? ⟨g, 0, none⟩ = some b := Blk.cell h 0
theorem JBlk.c1 {w : World} {g : Nat} {b sv : Value} {n m : Nat} (h : JBlk w g b sv n m) : w.cell? ⟨g, 1, none⟩ = some sv := Blk.cell h 1
theorem JBlk.c2 {w : World} {g : Nat} {b sv : Value} {n m : Nat} (h : JBlk w g b sv n m) : w.cell? ⟨g, 2, none⟩ = some (.int .i64 (n : Int)) := Blk.cell h 2
theorem JBlk.c3 {w : World} {g : Nat} {b sv : Value} {n m : Nat} (h : JBlk w g b sv n m) : w.cell? ⟨g, 3, none⟩ = some (.int .i64 (m : Int)) := Blk.cell h 3
/-- .. in blocks of their own, none of them the journal's, none the table's -/
def Own (G : Nat → Prop) (g : Nat) : Nat → Prop := fun k => G k ∧ k ≠ g ∧ k ≠ 0
/-- a Journal that Open made -/
def JnOf (G : Nat → Prop) (w : World) (g : Nat) (b : Value) (j : Jr) : Prop :=
  JBlk w g b (.pointer (some ⟨g, 0, none⟩)) j.l.length j.m ∧ BlkIs (Own G g) w b j.s j.k ∧ (G g ∧ g ≠ 0) ∧ j.m ≤ j.l.length ∧ j.l.length ≤ j.s.length
def JnL (G : Nat → Prop) (w : World) (p b : Value) (j : Jr) : Prop := ∃ g, p = .pointer (some ⟨g, 0, none⟩) ∧ JnOf G w g b j
theorem own_new {G : Nat → Prop} {w : World} {g : Nat} (hT : crc.Tab w) (hn : New G w) (hg : g < w.heap.size) : New (Own G g) w := fun k hk => ⟨hn k hk, by omega, by have := hT.1; omega⟩
theorem tab_own {G : Nat → Prop} {w w' : World} {g : Nat} (hT : crc.Tab w) (ht : Turn (Own G g) w w') : crc.Tab w' := rcd.tab_turn hT ht fun h => h.2.2 rfl
theorem own_sub {G : Nat → Prop} {g : Nat} : ∀ k, Own G g k → G k := fun _ h => h.1
/-- nil, or one that nobody made -/
def JnNo (w : World) (p : Value) : Prop := p = .pointer none ∨ ∃ g, p = .pointer (some ⟨g, 0, none⟩) ∧ Blk w g 63 #[.pointer none, .pointer none, .int .i64 0, .int .i64 0]
theorem blk_lens {G : Nat → Prop} {w : World} {b : Value} {s : List UInt8} {k : Nat} (h : BlkIs G w b s k) : k ≤ s.length ∧ s.length ≤ 9223372036854775807 := by
  obtain ⟨g, v, _, _, hd, _, hk⟩ := h
  have := hd.len
  unfold maxLen at this
  exact ⟨hk, by omega⟩

theorem hasJ : (Tryz.prog.info? 63).isSome = true := by kernel_rfl
theorem jn_eql (a : Addr) (w : World) : (binOp .eql 58 (.pointer (some a)) (.pointer (some a))).run Tryz.prog w = .ok (.bool true) w := by
  obtain ⟨j, hj⟩ := Option.isSome_iff_exists.1 hasJ
  exact run_eql_ptr_same w a Tryz.underlying58 hj
theorem jmade_ok (g : Nat) (b : Value) (n m : Nat) (w : World) (h : JBlk w g b (.pointer (some ⟨g, 0, none⟩)) n m) : Calls Tryz.prog 54 #[.pointer (some ⟨g, 0, none⟩)] w fun e w' => e = .returned (.bool true) ∧ w = w' := by
  have h0 := h.c1
  have hne := jn_eql
  clear h
  go_enter Tryz.func54, Tryz.ntmps54
  go_wp2
  go_ret
  exact ⟨rfl, rfl⟩
theorem jmade_no (p : Value) (w : World) (h : JnNo w p) : Calls Tryz.prog 54 #[p] w fun e w' => e = .returned (.bool false) ∧ w = w' := by
  rcases h with rfl | ⟨g, rfl, h⟩
  · go_enter Tryz.func54, Tryz.ntmps54
    go_wp2
    go_ret
    exact ⟨rfl, rfl⟩
  · have h0 : w.cell? ⟨g, 1, none⟩ = some (.pointer none) := h.cell 1
    have hne := fun a w => eql_nil_left (t := 58) a w Tryz.underlying58
    clear h
    go_enter Tryz.func54, Tryz.ntmps54
    go_wp2
    go_ret
    exact ⟨rfl, rfl⟩

section
variable {G : Nat → Prop} {g : Nat} {b : Value} {j : Jr} {w : World}
theorem jsize_any (h : JnOf G w g b j) : Calls Tryz.prog 64 #[.pointer (some ⟨g, 0, none⟩)] w fun e w' => e = .returned (.int .i64 (j.s.length : Int)) ∧ w = w' := by
  have h2 := h.1.c0
  have HM := Lib.hid (jmade_ok g _ _ _ w h.1)
  have HS := Lib.hid (size_any _ b j.s j.k w h.2.1)
  clear h
  go_enter Tryz.func64, Tryz.ntmps64
  go_wp2_with (first
    | (go_at_call 54; (with_reducible refine HM.out.mono ?_); rintro e w1 ⟨rfl, rfl⟩)
    | (go_at_call 83; (with_reducible refine HS.out.mono ?_); rintro e w1 ⟨rfl, rfl⟩))
  go_ret
  exact ⟨rfl, rfl⟩
set_option maxHeartbeats 4000000 in
theorem jsync_any (hT : crc.Tab w) (hn : New G w) (h : JnOf G w g b j) : Calls Tryz.prog 31 #[.pointer (some ⟨g, 0, none⟩)] w fun e w' => e = .returned (.int .i64 (syncJ j).2) ∧ JnOf G w' g b (syncJ j).1 ∧ Turn G w w' := by
  obtain ⟨hj, hb, hg, hm, hl⟩ := h
  have c0 := hj.c0
  have c2 := hj.c2
  have c3 := hj.c3
  have hlt : g < w.heap.size := Blk.lt hj
  have hls := blk_lens hb
  have ew : IntKind.i64.wrap ((j.l.length : Int) - (j.m : Int)) = (j.l.length : Int) - (j.m : Int) := by rw [IntKind.wrap_i64]; omega
  have HM := Lib.hid (jmade_ok g _ _ _ w hj)
  have HS := Lib.hid fun n => sync_any (Own G g) b j.s j.k (w.drewN n) (own_new hT hn hlt) (hb.next (below_drewN (Below.refl _ _) n))
  have HJ := Lib.hid hj
  have HG := Lib.hid hg
  have HL := Lib.hid hl
  unfold syncJ
  obtain ⟨N, hN⟩ : ∃ N, N = j.l.length := ⟨_, rfl⟩
  rw [← hN] at c2 ew HJ HL ⊢
  clear hj hb hg hm hl hls hn hlt hT
  have HN := Lib.hid hN
  clear hN
  go_enter Tryz.func31, Tryz.ntmps31
  go_wp2_with (go_at_call 54; (with_reducible refine HM.out.mono ?_); rintro e w1 ⟨rfl, rfl⟩)
  go_quiet (fail)
  go_wp2_with (go_at_call 57; (with_reducible refine (HS.out _).mono ?_); rintro e w2 ⟨rfl, hb2, ht2⟩; (have ht2 : Turn (Own G g) w w2 := ⟨ht2.os, ht2.tape, ht2.output, ht2.size, ht2.block⟩); (have hJ2 : JBlk w2 g b (.pointer (some ⟨g, 0, none⟩)) N j.m := Blk.turn HJ.out ht2 (fun hh => hh.2.1 rfl)); have d2 := hJ2.c2; have d3 := hJ2.c3; (have f3 : w2.frozen? ⟨g, 3, none⟩ = false := Blk.frozen hJ2 3); have HB2 := Lib.hid hb2; have HJ2 := Lib.hid hJ2; have HT2 := Lib.hid ht2; clear hb2 hJ2 ht2)
  go_ret
  have ht : ∀ u : Value, Turn (· = g) w2 (w2.setCell ⟨g, 3, none⟩ u) := fun u => (Turn.refl (· = g) w2).setCell (p := ⟨g, 3, none⟩) rfl _
  refine ⟨rfl, ⟨?_, (bk_is.turn HB2.out (ht _) fun k _ hk hh => hk.2.1 hh), HG.out, Nat.le_of_eq HN.out, HN.out ▸ HL.out⟩, (HT2.out.mono own_sub).trans ((ht _).mono fun k hk => hk ▸ HG.out.1)⟩
  have := Blk.set_ HJ2.out 3 (.int .i64 (N : Int))
  rw [← HN.out]
  exact this
end
end Go.Proofs.YtkbbeioednhefaaGreatDoor.jn

namespace Go.Proofs.YtkbbeioednhefaaGreatDoor.jn
open Go.RowKit Go.Proofs.YtkbbeioednhefaaGreatDoor.mem Go.Proofs.YtkbbeioednhefaaGreatDoor.sha Go.Proofs.YtkbbeioednhefaaGreatDoor.opn Go.Proofs.YtkbbeioednhefaaGreatDoor.rows Go.Proofs.YtkbbeioednhefaaGreatDoor.ids Go.Proofs.YtkbbeioednhefaaGreatDoor.rcd

/-- Bk G w b s: b is a file of the bytes s, in blocks of G; Jn G w p b j: p is a journal in the file b -/
structure JnA (T : World → Prop) (Bk : (Nat → Prop) → World → Value → List UInt8 → Prop) (Jn : (Nat → Prop) → World → Value → Value → Jr → Prop) : Prop where
  next : ∀ {w w' : World}, T w → Below w.heap.size w w' → T w'
  wf : ∀ {G : Nat → Prop} {w : World} {p b : Value} {j : Jr}, Jn G w p b j → Wf j
  cap : ∀ {G : Nat → Prop} {w : World} {p b : Value} {j : Jr}, Jn G w p b j → Jn (fun k => G k ∧ k < w.heap.size) w p b j
  mono : ∀ {G H : Nat → Prop} {w : World} {p b : Value} {j : Jr}, Jn G w p b j → (∀ k, G k → H k) → Jn H w p b j
  turn : ∀ {G H : Nat → Prop} {w w' : World} {p b : Value} {j : Jr}, Jn G w p b j → Turn H w w' → (∀ k, k < w.heap.size → G k → ¬ H k) → Jn G w' p b j
  bnew : ∀ (w : World), T w → Calls Tryz.prog 72 #[] w fun e w' => ∃ b, e = .returned b ∧ Bk (w.heap.size ≤ ·) w' b [] ∧ Below w.heap.size w w'
  bwrite : ∀ (G : Nat → Prop) (b : Value) (s : List UInt8) (t : ByteArray) (w : World), T w → New G w → Bk G w b s → s.length + t.size ≤ 100000 → Calls Tryz.prog 56 #[b, .string t] w fun e w' => e = .returned (.int .i64 0) ∧ Bk G w' b (s ++ t.data.toList) ∧ Turn G w w'
  open_ : ∀ (G : Nat → Prop) (b : Value) (s : List UInt8) (w : World), T w → New G w → Bk G w b s → s.length ≤ 100000 → Calls Tryz.prog 73 #[b] w fun e w' =>
    ∃ p v G', e = .returned (.tuple #[p, v]) ∧ Jn G' w' p b (openJ s) ∧ New G' w' ∧ (∀ k, G' k → G k) ∧ OwnR w' (fun k => w.heap.size ≤ k ∧ ¬ G' k) v (openJ s).l ∧ Turn G w w'
  append : ∀ (G : Nat → Prop) (p b : Value) (j : Jr) (r : Rc) (w : World), T w → New G w → Jn G w p b j → j.s.length ≤ 100000 → r.body.length ≤ 300 → Calls Tryz.prog 29 #[p, recv r] w fun e w' => e = .returned (.int .i64 (appJ j r).2) ∧ Jn G w' p b (appJ j r).1 ∧ Turn G w w'
  sync : ∀ (G : Nat → Prop) (p b : Value) (j : Jr) (w : World), T w → New G w → Jn G w p b j → Calls Tryz.prog 31 #[p] w fun e w' => e = .returned (.int .i64 (syncJ j).2) ∧ Jn G w' p b (syncJ j).1 ∧ Turn G w w'
  crash : ∀ (G : Nat → Prop) (p b : Value) (j : Jr) (n : Int) (w : World), T w → New G w → Jn G w p b j → j.s.length ≤ 100000 → Calls Tryz.prog 32 #[p, .int .i64 n] w fun e w' =>
    ∃ v G', e = .returned v ∧ Jn G' w' p b (crashJ j n) ∧ New G' w' ∧ (∀ k, G' k → G k) ∧ OwnR w' (fun k => w.heap.size ≤ k ∧ ¬ G' k) v (crashJ j n).l ∧ Turn G w w'
  size : ∀ (G : Nat → Prop) (p b : Value) (j : Jr) (w : World), T w → Jn G w p b j → Calls Tryz.prog 64 #[p] w fun e w' => e = .returned (.int .i64 (j.s.length : Int)) ∧ Below w.heap.size w w'
  data : ∀ (G : Nat → Prop) (p b : Value) (j : Jr) (w : World), T w → Jn G w p b j → Calls Tryz.prog 24 #[b] w fun e w' => e = .returned (.string (oct.tx j.s)) ∧ Below w.heap.size w w'
end Go.Proofs.YtkbbeioednhefaaGreatDoor.jn

namespace Go.Proofs.YtkbbeioednhefaaGreatDoor.jn
open Go.RowKit Go.Proofs.YtkbbeioednhefaaGreatDoor.mem Go.Proofs.YtkbbeioednhefaaGreatDoor.rcd Go.Proofs.YtkbbeioednhefaaGreatDoor.rows Go.Proofs.YtkbbeioednhefaaGreatDoor.bk

theorem allR_end : ∀ (n : Nat) (t : List UInt8), (allR n t).1.length ≤ (allR n t).2.1
  | 0, _ => by simp [allR]
  | n + 1, t => by
    unfold allR
    split
    · simp
    · split
      · simp
      · next a b =>
        have hs := first_size (t := t) (Decidable.not_not.1 b)
        have := allR_end n (t.drop (firstR t).2.1.toNat)
        simp only [List.length_cons]
        omega
theorem openJ_few (s : List UInt8) : (openJ s).l.length ≤ (openJ s).s.length := by
  have h := allR_end s.length s
  have h2 := (openJ_len s).1
  rw [h2]
  exact h
theorem app_ok {j : Jr} {r : Rc} (h : checkR r = 0) : appJ j r = (⟨j.s ++ enR r, j.k, j.l ++ [r], j.m⟩, 0) := by unfold appJ; rw [if_neg (by rw [h]; exact fun h => h rfl)]
theorem app_no {j : Jr} {r : Rc} (h : checkR r ≠ 0) : appJ j r = (j, checkR r) := by unfold appJ; rw [if_pos h]
theorem put_ok {r : Rc} (h : checkR r = 0) : putR r = (enR r, 0) := by unfold putR; rw [if_neg (by rw [h]; exact fun h => h rfl)]
theorem put_no {r : Rc} (h : checkR r ≠ 0) : putR r = ([], checkR r) := by unfold putR; rw [if_pos h]

section
variable {G : Nat → Prop} {g : Nat} {b : Value} {j : Jr} {w : World}
set_option maxHeartbeats 4000000 in
theorem jappend_any (r : Rc) (hT : crc.Tab w) (hn : New G w) (h : JnOf G w g b j) (hs : j.s.length ≤ 40000000) (hr : r.body.length ≤ 8000000) : Calls Tryz.prog 29 #[.pointer (some ⟨g, 0, none⟩), recv r] w fun e w' => e = .returned (.int .i64 (appJ j r).2) ∧ JnOf G w' g b (appJ j r).1 ∧ Turn G w w' := by
  obtain ⟨S, hS⟩ : ∃ S, S = w.heap.size := ⟨_, rfl⟩
  obtain ⟨w1, hw1⟩ : ∃ u, u = w.alloc (.cells #[.int .i64 r.k, .string (oct.tx r.body)] 66) := ⟨_, rfl⟩
  have hR1 : Blk w1 S 66 #[.int .i64 r.k, .string (oct.tx r.body)] := by rw [hw1, hS]; exact Blk.new w _ _
  have hB1 : Below w.heap.size w w1 := by rw [hw1]; exact (Below.refl _ w).alloc (Nat.le_refl _) _
  have r0 : w1.cell? ⟨S, 0, none⟩ = some (.int .i64 r.k) := hR1.cell 0
  have r1 : w1.cell? ⟨S, 1, none⟩ = some (.string (oct.tx r.body)) := hR1.cell 1
  have hP := rc_is.put r.k r.body w1 (rc_is.next hT hB1) (by omega)
  obtain ⟨hj0, hb0, hg, hm, hl⟩ := h
  have hj : JBlk w1 g b (.pointer (some ⟨g, 0, none⟩)) j.l.length j.m := Blk.below hj0 hB1 (Blk.lt hj0)
  have hb := hb0.next hB1
  have hlt : g < w1.heap.size := Blk.lt hj
  have hn1 := hn.of hB1.size
  have hT1 := rc_is.next hT hB1
  have hTurn : Turn G w w1 := Turn.fresh hB1 hn
  have HM := Lib.hid (jmade_ok g _ _ _ w1 hj)
  have HT1 := Lib.hid hTurn
  have HW1 := Lib.hid hw1
  have HSS := Lib.hid hS
  clear hj0 hb0 hR1 hB1 hT hn hTurn hw1 hS
  unfold recv at hP ⊢
  by_cases hc : checkR r = 0
  · rw [app_ok hc]
    rw [show putR ⟨r.k, r.body⟩ = (enR r, 0) from put_ok hc] at hP
    obtain ⟨t, ht⟩ : ∃ t, t = oct.tx (enR r) := ⟨_, rfl⟩
    have htl : t.data.toList = enR r := by rw [ht, oct.tx_list]
    have hts : t.size = r.body.length + 9 := by rw [ht, oct.tx_size, enR_len]
    rw [← ht] at hP
    obtain ⟨N, hN⟩ : ∃ N, N = j.l.length := ⟨_, rfl⟩
    have ew : IntKind.i64.wrap ((N : Int) + 1) = ((N + 1 : Nat) : Int) := by rw [IntKind.wrap_i64]; omega
    rw [← hN] at hj
    have HP := Lib.hid hP
    have HJ := Lib.hid hj
    have HB := Lib.hid hb
    have HG := Lib.hid hg
    have HW := Lib.hid fun u (hu : BlkIs (Own G g) u b j.s j.k) (hu2 : New (Own G g) u) => lwrite_any (Own G g) b j.s j.k t u hu2 hu (by omega)
    have HN := Lib.hid (own_new hT1 hn1 hlt)
    have HF := Lib.hid (show N = j.l.length ∧ j.m ≤ N + 1 ∧ N + 1 ≤ (j.s ++ enR r).length by rw [List.length_append, enR_len]; omega)
    have HE := Lib.hid htl
    have HNG := Lib.hid hn1
    clear hj hb hg hm hl hn1 hlt hT1 hP htl hts ht hN hs hr hc
    go_enter Tryz.func29, Tryz.ntmps29
    go_upto_region 1 with fail
    refine wp_at HW1.out.symm ?_
    rw [← HSS.out]
    clear HW1 HSS
    go_upto_region 7 with (first
      | (go_at_call 54; (with_reducible refine HM.out.mono ?_); rintro e wx ⟨rfl, rfl⟩)
      | (go_at_call 55; (with_reducible refine HP.out.mono ?_); rintro e w2 ⟨rfl, hb2⟩; (have hJ2 : JBlk w2 g b (.pointer (some ⟨g, 0, none⟩)) N j.m := Blk.below HJ.out hb2 (Blk.lt HJ.out)); have d0 := hJ2.c0; have d2 := hJ2.c2; (have f2 : w2.frozen? ⟨g, 2, none⟩ = false := Blk.frozen hJ2 2); have HJ2 := Lib.hid hJ2; have HB2 := Lib.hid (HB.out.next hb2); have HS2 := Lib.hid hb2; clear hJ2 hb2))
    obtain ⟨u, hu⟩ : ∃ u, u = w2.setCell ⟨g, 2, none⟩ (.int .i64 ((N + 1 : Nat) : Int)) := ⟨_, rfl⟩
    have ht2 : Turn (· = g) w2 u := hu ▸ (Turn.refl (· = g) w2).setCell (p := ⟨g, 2, none⟩) rfl _
    have hJ3 : JBlk u g b (.pointer (some ⟨g, 0, none⟩)) (N + 1) j.m := by rw [hu]; exact Blk.set_ HJ2.out 2 (.int .i64 ((N + 1 : Nat) : Int))
    have hB3 := bk_is.turn HB2.out ht2 fun k _ hk hh => hk.2.1 hh
    have hN3 := (HN.out.of HS2.out.size).turn ht2
    have e0 := hJ3.c0
    have HT2 := Lib.hid ht2
    have HJ3 := Lib.hid hJ3
    have HW3 := Lib.hid (HW.out u hB3 hN3)
    clear ht2 hJ3 hB3 hN3 d0 d2 f2
    refine wp_at hu.symm ?_
    clear hu
    go_wp2_with (go_at_call 56; (with_reducible refine HW3.out.mono ?_); rintro e w3 ⟨rfl, hb3, ht3⟩)
    go_ret
    refine ⟨rfl, ⟨?_, HE.out ▸ hb3, HG.out, ?_, ?_⟩, HT1.out.trans (((Turn.fresh HS2.out HNG.out).trans (HT2.out.mono fun k hk => hk ▸ HG.out.1)).trans (ht3.mono own_sub))⟩
    · show JBlk _ _ _ _ (j.l ++ [r]).length j.m
      rw [List.length_append, ← HF.out.1]
      exact Blk.turn HJ3.out ht3 fun hh => hh.2.1 rfl
    · show j.m ≤ (j.l ++ [r]).length
      rw [List.length_append, ← HF.out.1]; exact HF.out.2.1
    · show (j.l ++ [r]).length ≤ _
      rw [List.length_append, ← HF.out.1]; exact HF.out.2.2
  · rw [app_no hc]
    rw [show putR ⟨r.k, r.body⟩ = ([], checkR r) from put_no hc] at hP
    obtain ⟨c, hcc⟩ : ∃ c, c = checkR r := ⟨_, rfl⟩
    rw [← hcc] at hP hc ⊢
    have hc1 : (c == 0) = false := by simpa using hc
    have hc2 : (c != 0) = true := by simpa using hc
    have HP := Lib.hid hP
    have HJ := Lib.hid hj
    have HB := Lib.hid hb
    have HG := Lib.hid hg
    have HF := Lib.hid (And.intro hm hl)
    have HNG := Lib.hid hn1
    clear hj hb hg hm hl hn1 hlt hT1 hP hs hr hcc
    go_enter Tryz.func29, Tryz.ntmps29
    go_upto_region 1 with fail
    refine wp_at HW1.out.symm ?_
    rw [← HSS.out]
    clear HW1 HSS
    go_wp2_with (first
      | (go_at_call 54; (with_reducible refine HM.out.mono ?_); rintro e wx ⟨rfl, rfl⟩)
      | (go_at_call 55; (with_reducible refine HP.out.mono ?_); rintro e w2 ⟨rfl, hb2⟩))
    go_ret
    exact ⟨rfl, ⟨Blk.below HJ.out hb2 (Blk.lt HJ.out), HB.out.next hb2, HG.out, HF.out.1, HF.out.2⟩, HT1.out.trans (Turn.fresh hb2 HNG.out)⟩

set_option maxHeartbeats 4000000 in
/-- read: all records of the file, what stands behind them cut off -/
theorem read_any (F : Nat → Prop) (g : Nat) (b sv : Value) (n m : Nat) (s : List UInt8) (k : Nat) (w : World) (hT : crc.Tab w) (hn : New F w) (hj : JBlk w g b sv n m) (hb : BlkIs F w b s k) (hg : ¬ F g) (hs : s.length ≤ 800000) :
    Calls Tryz.prog 59 #[.pointer (some ⟨g, 0, none⟩)] w fun e w' => ∃ v F', e = .returned (.tuple #[v, .int .i64 0]) ∧ JBlk w' g b sv (openJ s).l.length (openJ s).l.length ∧ BlkIs F' w' b (openJ s).s (openJ s).k ∧ New F' w' ∧ (∀ k, F' k → F k) ∧ OwnR w' (fun k => w.heap.size ≤ k ∧ ¬ F' k) v (openJ s).l ∧ Turn (fun k => F k ∨ k = g) w w' := by
  have hlt : g < w.heap.size := Blk.lt hj
  have c0 := hj.c0
  have HD := Lib.hid (data_any F b s k w hb)
  have HA := Lib.hid fun u (hu : Below w.heap.size w u) => rc_is.all (strx.bt s) u (rc_is.next hT hu) (by show s.toArray.size ≤ 800000; rw [List.size_toArray]; exact hs)
  rw [show (strx.bt s).data.toList = s from by simp [strx.bt]] at HA
  have hend : (openJ s).k ≤ s.length := (openJ_len s).2.1
  have hcut : cutB s k ((openJ s).k : Int) = ((openJ s).s, (openJ s).k, 0) := by
    unfold cutB
    rw [if_neg (by omega), Int.toNat_natCast]
    rfl
  have HC := Lib.hid fun H u (hu : BlkIs H u b s k) => lcut_any H b s k ((openJ s).k : Int) u hu
  rw [hcut] at HC
  rw [show (allT s).2.1 = (openJ s).k from rfl] at HA
  obtain ⟨L, hL⟩ : ∃ L, L = (openJ s).l := ⟨_, rfl⟩
  rw [show (allT s).1 = L from hL.symm] at HA
  rw [← hL]
  obtain ⟨E, hE⟩ : ∃ E, E = (openJ s).k := ⟨_, rfl⟩
  rw [← hE] at HA HC ⊢
  obtain ⟨e2, he2⟩ : ∃ e, e = (allT s).2.2 := ⟨_, rfl⟩
  rw [← he2] at HA
  have HJ := Lib.hid hj
  have HB := Lib.hid hb
  have HN := Lib.hid hn
  have HG := Lib.hid hg
  have HLT := Lib.hid hlt
  clear hj hb hn hg hlt hcut hend hL hE he2 hs hT
  go_enter Tryz.func59, Tryz.ntmps59
  go_wp2_with (first
    | (go_at_call 24; (with_reducible refine HD.out.mono ?_); rintro e w1 ⟨rfl, hb1⟩)
    | (go_at_call 84; (with_reducible refine (HA.out w1 hb1).mono ?_); rintro e w2 ⟨v, rfl, hO2, hb2⟩;
        (have hB2 : Below w.heap.size w w2 := hb1.trans (hb2.mono hb1.size));
        (have hJ2 : JBlk w2 g b sv n m := Blk.below HJ.out hB2 HLT.out);
        have d0 := hJ2.c0;
        (obtain ⟨ad, cap, rfl⟩ := OwnK.form hO2);
        have HJ2 := Lib.hid hJ2; have HO2 := Lib.hid hO2; have HB2 := Lib.hid hB2;
        (have HK2 := Lib.hid (bk_is.mono (H := fun j => (F j ∧ j < w.heap.size) ∨ w2.heap.size ≤ j) ((bk_is.cap HB.out).next hB2) fun _ h => .inl h));
        clear hJ2 hO2 hB2)
    | (go_at_call 82; (with_reducible refine (HC.out _ w2 HK2.out).mono ?_); rintro e w3 ⟨rfl, hb3, ht3⟩;
        (have hJ3 : JBlk w3 g b sv n m := Blk.turn HJ2.out ht3 (fun hh => hh.elim (fun x => HG.out x.1) (fun x => absurd (Nat.lt_of_lt_of_le HLT.out HB2.out.size) (Nat.not_lt.2 x))));
        have f2 : w3.frozen? ⟨g, 2, none⟩ = false := Blk.frozen hJ3 2; have f3 : w3.frozen? ⟨g, 3, none⟩ = false := Blk.frozen hJ3 3;
        have d2 := hJ3.c2; have d3 := hJ3.c3;
        have HJ3 := Lib.hid hJ3; have HB3 := Lib.hid hb3; have HT3 := Lib.hid ht3; clear hJ3 hb3 ht3))
  refine bodyPost_ret (results_tmp2 rfl _ _ _) rfl ?_
  have HO3 := HO2.out
  rw [List.length_map] at HO3
  obtain ⟨wf, hwf⟩ : ∃ z, z = (w3.setCell ⟨g, 2, none⟩ (.int .i64 (L.length : Int))).setCell ⟨g, 3, none⟩ (.int .i64 (L.length : Int)) := ⟨_, rfl⟩
  have htf : Turn (· = g) w3 wf := by rw [hwf]; exact ((Turn.refl (· = g) w3).setCell (p := ⟨g, 2, none⟩) rfl _).setCell (p := ⟨g, 3, none⟩) rfl _
  have hJf : JBlk wf g b sv L.length L.length := by rw [hwf]; exact Blk.set_ (Blk.set_ HJ3.out 2 _) 3 _
  rw [← hwf]
  clear hwf
  have hltg := HLT.out
  have hs2 := HB2.out.size
  have hs1 := hb1.size
  have hFg : ¬ (F g ∧ g < w.heap.size ∨ w2.heap.size ≤ g) := fun hh => hh.elim (fun x => HG.out x.1) (fun x => by omega)
  have hN3 : ∀ j, w2.heap.size ≤ j → F j := fun j hj => HN.out j (by omega)
  have hown : OwnR wf (fun k => w.heap.size ≤ k ∧ ¬ (F k ∧ k < w.heap.size ∨ w2.heap.size ≤ k)) (.slice ad L.length cap) L := by
    have hlt2 : ∀ j, (Value.slice ad L.length cap).ownBlock = some j → w1.heap.size ≤ j ∧ j < w2.heap.size := fun j hj => ⟨HO3.2.2 j hj, HO3.lt hj⟩
    have h3 := HO3.turn HT3.out (fun j hj hh => by have := hlt2 j hj; omega)
    exact (h3.turn htf (fun j hj (hh : j = g) => by have := hlt2 j hj; omega)).place fun j hj => by
      have := hlt2 j hj
      exact ⟨by omega, fun hh => by omega⟩
  refine ⟨_, fun j => F j ∧ j < w.heap.size ∨ w2.heap.size ≤ j, rfl, hJf, bk_is.turn HB3.out htf (fun j _ hj hh => hFg (hh ▸ hj)), fun j hj => .inr (by have := HT3.out.size; have := htf.size; omega), fun j hj => hj.elim (·.1) (hN3 j), hown, ?_⟩
  refine ((Turn.fresh HB2.out HN.out).mono fun j hj => .inl hj).trans ((HT3.out.mono fun j hj => .inl (hj.elim (·.1) (hN3 j))).trans (htf.mono fun j hj => .inr hj))

set_option maxHeartbeats 4000000 in
theorem lopen_any (G : Nat → Prop) (b : Value) (s : List UInt8) (k : Nat) (w : World) (hT : crc.Tab w) (hn : New G w) (hb : BlkIs (fun j => G j ∧ j ≠ 0) w b s k) (hs : s.length ≤ 800000) : Calls Tryz.prog 73 #[b] w fun e w' =>
    ∃ p v G', e = .returned (.tuple #[p, v]) ∧ JnL G' w' p b (openJ s) ∧ New G' w' ∧ (∀ k, G' k → G k) ∧ OwnR w' (fun k => w.heap.size ≤ k ∧ ¬ G' k) v (openJ s).l ∧ Turn G w w' := by
  obtain ⟨gb, rfl⟩ : ∃ gb, b = .pointer (some ⟨gb, 0, none⟩) := by obtain ⟨gb, v, hp, _⟩ := hb; exact ⟨gb, hp⟩
  have h1s := hT.1
  obtain ⟨g, hg⟩ : ∃ S, S = w.heap.size := ⟨_, rfl⟩
  obtain ⟨w1, hw1⟩ : ∃ u, u = w.alloc (.cells #[.pointer (some ⟨gb, 0, none⟩), .pointer none, .int .i64 0, .int .i64 0] 63) := ⟨_, rfl⟩
  have hJ1 : JBlk w1 g (.pointer (some ⟨gb, 0, none⟩)) (.pointer none) 0 0 := by rw [hw1, hg]; exact Blk.new w _ _
  have hB1 : Below w.heap.size w w1 := by rw [hw1]; exact (Below.refl _ w).alloc (Nat.le_refl _) _
  have hbF : BlkIs (Own G g) w1 (.pointer (some ⟨gb, 0, none⟩)) s k := (bk_is.mono (bk_is.cap hb) fun j hj => ⟨hj.1.1, by omega, hj.1.2⟩).next hB1
  have hR := read_any (Own G g) g _ (.pointer none) 0 0 s k w1 (rc_is.next hT hB1) (own_new (rc_is.next hT hB1) (hn.of hB1.size) (Blk.lt hJ1)) hJ1 hbF (fun h => h.2.1 rfl) hs
  have HR := Lib.hid hR
  have HF := Lib.hid (And.intro hg (And.intro hB1 (And.intro (Blk.lt hJ1) hn)))
  have HW1 := Lib.hid hw1
  have HW2 := Lib.hid hg
  obtain ⟨J, hJ⟩ : ∃ J, J = openJ s := ⟨_, rfl⟩
  have hm := (openJ_len s).2.2
  have hf := openJ_few s
  rw [← hJ] at HR hm hf ⊢
  have HM := Lib.hid (And.intro hm hf)
  clear hJ1 hB1 hbF hR hg hw1 hT hn hb hs hJ hm hf
  go_enter Tryz.func73, Tryz.ntmps73
  go_upto_region 2 with fail
  refine wp_at HW1.out.symm ?_
  rw [← HW2.out]
  clear HW1 HW2
  go_wp2_with (go_at_call 59; (with_reducible refine HR.out.mono ?_); rintro e w2 ⟨v, F', rfl, hj2, hb2, hn2, hsub, ho2, ht2⟩; have HJ2 := Lib.hid hj2; have HB2 := Lib.hid hb2; have HN2 := Lib.hid hn2; have HS2 := Lib.hid hsub; have HO2 := Lib.hid ho2; have HT2 := Lib.hid ht2; (have f1 : w2.frozen? ⟨g, 1, none⟩ = false := Blk.frozen hj2 1); have d1 := hj2.c1; clear hj2 hb2 hn2 hsub ho2 ht2)
  refine bodyPost_ret (results_tmp2 rfl _ _ _) rfl ?_
  obtain ⟨hg, hB1, hglt, hn⟩ := HF.out
  have hgG : G g := hn g (by omega)
  have htf : Turn (· = g) w2 (w2.setCell ⟨g, 1, none⟩ (.pointer (some ⟨g, 0, none⟩))) := (Turn.refl (· = g) w2).setCell (p := ⟨g, 1, none⟩) rfl _
  have hJf := Blk.set_ HJ2.out 1 (.pointer (some ⟨g, 0, none⟩))
  obtain ⟨wf, hwf⟩ : ∃ z, z = w2.setCell ⟨g, 1, none⟩ (.pointer (some ⟨g, 0, none⟩)) := ⟨_, rfl⟩
  rw [← hwf] at htf hJf ⊢
  clear hwf
  have hFg : ∀ j, F' j → j ≠ g ∧ j ≠ 0 := fun j hj => (HS2.out j hj).2
  have hg0 : g ≠ 0 := by omega
  refine ⟨_, v, fun j => F' j ∨ j = g, rfl, ⟨g, rfl, ⟨?_, ?_, ⟨.inr rfl, hg0⟩, Nat.le_of_eq HM.out.1, HM.out.2⟩⟩, fun j hj => .inl (HN2.out j (by have := htf.size; omega)), fun j hj => hj.elim (fun x => (HS2.out j x).1) (fun x => x ▸ hgG), ?_, ?_⟩
  · rw [HM.out.1]; exact hJf
  · exact bk_is.mono (bk_is.turn HB2.out htf fun j _ hj hh => (hFg j hj).1 hh) fun j hj => ⟨.inl hj, hFg j hj⟩
  · have hs1 := hB1.size
    have hne : ∀ j, v.ownBlock = some j → j ≠ g := fun j hj e => by
      have h1 := (HO2.out.2.2 j hj).1
      have : w1.heap.size ≤ g := e ▸ h1
      omega
    exact (HO2.out.turn htf fun j hj hh => hne j hj hh).place fun j hj => ⟨by have := (HO2.out.2.2 j hj).1; omega, fun hh => hh.elim (HO2.out.2.2 j hj).2 (hne j hj)⟩
  · exact (Turn.fresh hB1 hn).trans ((HT2.out.mono fun j hj => hj.elim (·.1) (fun x => x ▸ hgG)).trans (htf.mono fun j hj => hj ▸ hgG))

theorem crash_s (s : List UInt8) (k : Nat) (n : Int) (h : k ≤ s.length) : (crashB s k n).1.length ≤ s.length := (crashB_le s k n h).2
set_option maxHeartbeats 4000000 in
theorem jcrash_any (n : Int) (hT : crc.Tab w) (hn : New G w) (h : JnOf G w g b j) (hs : j.s.length ≤ 800000) : Calls Tryz.prog 32 #[.pointer (some ⟨g, 0, none⟩), .int .i64 n] w fun e w' =>
    ∃ v G', e = .returned v ∧ JnOf G' w' g b (crashJ j n) ∧ New G' w' ∧ (∀ k, G' k → G k) ∧ OwnR w' (fun k => w.heap.size ≤ k ∧ ¬ G' k) v (crashJ j n).l ∧ Turn G w w' := by
  obtain ⟨hj, hb, hg, hm, hl⟩ := h
  have hlt : g < w.heap.size := Blk.lt hj
  have c0 := hj.c0
  have HM := Lib.hid (jmade_ok g _ _ _ w hj)
  have HC := Lib.hid (lcrash_any (Own G g) b j.s j.k n w (own_new hT hn hlt) hb)
  have hk := (blk_lens hb).1
  obtain ⟨s2, hs2⟩ : ∃ z, z = (crashB j.s j.k n).1 := ⟨_, rfl⟩
  obtain ⟨k2, hk2⟩ : ∃ z, z = (crashB j.s j.k n).2.1 := ⟨_, rfl⟩
  obtain ⟨n2, hn2⟩ : ∃ z, z = (crashB j.s j.k n).2.2 := ⟨_, rfl⟩
  have hlen : s2.length ≤ 800000 := by have := crash_s j.s j.k n hk; rw [← hs2] at this; omega
  have hcj : crashJ j n = openJ s2 := by unfold crashJ; rw [hs2]
  rw [← hs2, ← hk2, ← hn2] at HC
  rw [hcj]
  obtain ⟨J, hJ⟩ : ∃ J, J = openJ s2 := ⟨_, rfl⟩
  have hm2 := (openJ_len s2).2.2
  have hf2 := openJ_few s2
  have HRD := Lib.hid fun (u : World) (hTu : crc.Tab u) (hnu : New (Own G g) u) (hju : JBlk u g b (.pointer (some ⟨g, 0, none⟩)) j.l.length j.m) (hbu : BlkIs (Own G g) u b s2 k2) => read_any (Own G g) g b _ _ _ s2 k2 u hTu hnu hju hbu (fun h => h.2.1 rfl) hlen
  rw [← hJ] at HRD hm2 hf2 ⊢
  have HMM := Lib.hid (And.intro hm2 hf2)
  have HJ := Lib.hid hj
  have HF := Lib.hid (And.intro hg (And.intro hT (And.intro hn hlt)))
  clear hj hb hg hm hl hlt hk hs2 hk2 hn2 hlen hcj hJ hm2 hf2 hT hn hs
  go_enter Tryz.func32, Tryz.ntmps32
  go_wp2_with (first
    | (go_at_call 54; (with_reducible refine HM.out.mono ?_); rintro e w1 ⟨rfl, rfl⟩)
    | (go_at_call 58; (with_reducible refine HC.out.mono ?_); rintro e w2 ⟨rfl, hb2, ht2⟩; (have hT2 : crc.Tab w2 := tab_own HF.out.2.1 ht2); have HR2 := Lib.hid (HRD.out w2 hT2 ((own_new HF.out.2.1 HF.out.2.2.1 HF.out.2.2.2).turn ht2) (Blk.turn HJ.out ht2 fun hh => hh.2.1 rfl) hb2); have HT2 := Lib.hid ht2; clear hb2 ht2 hT2)
    | (go_at_call 59; (with_reducible refine HR2.out.mono ?_); rintro e w3 ⟨v, F', rfl, hj3, hb3, hn3, hsub, ho3, ht3⟩))
  go_ret
  have hFg : ∀ j, F' j → j ≠ g ∧ j ≠ 0 := fun j hj => (hsub j hj).2
  obtain ⟨hgG, -, -, hlt⟩ := HF.out
  have hs2 := HT2.out.size
  refine ⟨_, fun j => F' j ∨ j = g, rfl, ⟨?_, bk_is.mono hb3 fun j hj => ⟨.inl hj, hFg j hj⟩, ⟨.inr rfl, hgG.2⟩, Nat.le_of_eq HMM.out.1, HMM.out.2⟩, fun j hj => .inl (hn3 j hj), fun j hj => hj.elim (fun x => (hsub j x).1) (fun x => x ▸ hgG.1), ho3.place fun j hj => ?_, ?_⟩
  · rw [HMM.out.1]; exact hj3
  · have h1 := ho3.2.2 j hj
    exact ⟨by omega, fun hh => hh.elim h1.2 fun e => by omega⟩
  · exact (HT2.out.mono own_sub).trans (ht3.mono fun j hj => hj.elim (·.1) fun x => x ▸ hgG.1)
end
/-- a file, in blocks none of which is the table's -/
def BkL (G : Nat → Prop) (w : World) (b : Value) (s : List UInt8) : Prop := ∃ k, BlkIs (fun j => G j ∧ j ≠ 0) w b s k
theorem jn_a : JnA crc.Tab BkL JnL where
  next := rc_is.next
  wf := fun {G w p b j} h => by
    obtain ⟨g, _, hj, hb, _, hm, _⟩ := h
    exact ⟨(blk_lens hb).1, hm⟩
  cap := fun {G w p b j} h => by
    obtain ⟨g, hp, hj, hb, hg, h4⟩ := h
    exact ⟨g, hp, hj, bk_is.mono (bk_is.cap hb) fun k hk => ⟨⟨hk.1.1, hk.2⟩, hk.1.2⟩, ⟨⟨hg.1, Blk.lt hj⟩, hg.2⟩, h4⟩
  mono := fun {G H w p b j} h hh => by
    obtain ⟨g, hp, hj, hb, hg, h4⟩ := h
    exact ⟨g, hp, hj, bk_is.mono hb fun k hk => ⟨hh k hk.1, hk.2⟩, ⟨hh g hg.1, hg.2⟩, h4⟩
  turn := fun {G H w w' p b j} h ht hd => by
    obtain ⟨g, hp, hj, hb, hg, h4⟩ := h
    exact ⟨g, hp, Blk.turn hj ht (hd g (Blk.lt hj) hg.1), bk_is.turn hb ht fun k hk h => hd k hk h.1, hg, h4⟩
  bnew := fun w hT => (new_any w).mono fun e w' ⟨p, he, hb, hB⟩ => ⟨p, he, ⟨0, bk_is.mono hb fun j hj => ⟨hj.1, by have := hT.1; omega⟩⟩, hB⟩
  bwrite := fun G b s t w hT hn hb hm => by
    obtain ⟨k, hb⟩ := hb
    refine (lwrite_any _ b s k t w (fun j hj => ⟨hn j hj, by have := hT.1; omega⟩) hb (by omega)).mono ?_
    rintro e w' ⟨he, hb', ht⟩
    exact ⟨he, ⟨k, hb'⟩, ht.mono fun j hj => hj.1⟩
  open_ := fun G b s w hT hn hb hs => by
    obtain ⟨k, hb⟩ := hb
    exact lopen_any G b s k w hT hn hb (by omega)
  append := fun G p b j r w hT hn h hs hr => by
    obtain ⟨g, rfl, h⟩ := h
    exact (jappend_any r hT hn h (by omega) (by omega)).mono fun e w' ⟨he, h, ht⟩ => ⟨he, ⟨g, rfl, h⟩, ht⟩
  sync := fun G p b j w hT hn h => by
    obtain ⟨g, rfl, h⟩ := h
    exact (jsync_any hT hn h).mono fun e w' ⟨he, h, ht⟩ => ⟨he, ⟨g, rfl, h⟩, ht⟩
  crash := fun G p b j n w hT hn h hs => by
    obtain ⟨g, rfl, h⟩ := h
    exact (jcrash_any n hT hn h (by omega)).mono fun e w' ⟨v, G', he, h, hr⟩ => ⟨v, G', he, ⟨g, rfl, h⟩, hr⟩
  size := fun G p b j w _ h => by
    obtain ⟨g, rfl, h⟩ := h
    exact (jsize_any h).mono fun e w' ⟨he, hw⟩ => ⟨he, hw ▸ Below.refl _ _⟩
  data := fun G p b j w _ h => by
    obtain ⟨g, rfl, h⟩ := h
    exact data_any _ b j.s j.k w h.2.1
end Go.Proofs.YtkbbeioednhefaaGreatDoor.jn
