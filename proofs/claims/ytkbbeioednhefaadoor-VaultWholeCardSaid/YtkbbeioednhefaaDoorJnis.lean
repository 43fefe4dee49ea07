/-
  The landed record: what its functions answer.
  The landed journal: a Journal's block, made, Len, Safe, Size, Sync, Append; of one that nobody made.
  What journal's functions answer, as the laws of layer 12 ask them; what stands while a journal lives; awake.
-/
import Derived.Test.YtkbbeioednhefaaDoorRlt
import Derived.Test.YtkbbeioednhefaaDoorBln
import Derived.Test.YtkbbeioednhefaaDoorJnp
import Derived.Test.YtkbbeioednhefaaDoorOctb
namespace Go.Proofs.YtkbbeioednhefaaDoor.rcd
open Go.RowKit Go.Proofs.YtkbbeioednhefaaDoor.mem

theorem rc_is : RcIs crc.Tab where
  next := crc.Tab.next
  put k b w hT hb := lput_any k b w hT hb
  nxt s i w hT hs := lnext_any s i w hT (by omega)
  all s w hT hs := lall_any s w hT hs
  size n w _ hn := (size_any n (by omega) w).mono fun _ _ ⟨he, hw⟩ => ⟨he, hw ▸ Below.refl _ _⟩
end Go.Proofs.YtkbbeioednhefaaDoor.rcd

namespace Go.Proofs.YtkbbeioednhefaaDoor.jn
open Go.RowKit Go.Proofs.YtkbbeioednhefaaDoor.mem Go.Proofs.YtkbbeioednhefaaDoor.rcd Go.Proofs.YtkbbeioednhefaaDoor.rows Go.Proofs.YtkbbeioednhefaaDoor.bk

/-- a Journal's block: the file, itself, how many records there are, how many are safe -/
def JBlk (w : World) (g : Nat) (b sv : Value) (n m : Nat) : Prop := Blk w g 52 #[b, sv, .int .i64 (n : Int), .int .i64 (m : Int)]
theorem JBlk.c0 {w : World} {g : Nat} {b sv : Value} {n m : Nat} (h : JBlk w g b sv n m) : w.cell? ⟨g, 0, none⟩ = some b := Blk.cell h 0
theorem JBlk.c1 {w : World} {g : Nat} {b sv : Value} {n m : Nat} (h : JBlk w g b sv n m) : w.cell? ⟨g, 1, none⟩ = some sv := Blk.cell h 1
theorem JBlk.c2 {w : World} {g : Nat} {b sv : Value} {n m : Nat} (h : JBlk w g b sv n m) : w.cell? ⟨g, 2, none⟩ = some (.int .i64 (n : Int)) := Blk.cell h 2
theorem JBlk.c3 {w : World} {g : Nat} {b sv : Value} {n m : Nat} (h : JBlk w g b sv n m) : w.cell? ⟨g, 3, none⟩ = some (.int .i64 (m : Int)) := Blk.cell h 3
/-- .. in blocks of their own, none of them the journal's, none the table's -/
def Own (G : Nat → Prop) (g : Nat) : Nat → Prop := fun k => G k ∧ k ≠ g ∧ k ≠ 0
/-- a Journal that Open made -/
def JnOf (G : Nat → Prop) (w : World) (g : Nat) (b : Value) (j : Jr) : Prop :=
  JBlk w g b (.pointer (some ⟨g, 0, none⟩)) j.l.length j.m ∧ BlkIs (Own G g) w b j.s j.k ∧ (G g ∧ g ≠ 0) ∧ j.m ≤ j.l.length ∧ j.l.length ≤ j.s.length
def JnL (G : Nat → Prop) (w : World) (p b : Value) (j : Jr) : Prop := ∃ g, p = .pointer (some ⟨g, 0, none⟩) ∧ JnOf G w g b j
theorem own_new {G : Nat → Prop} {w : World} {g : Nat} (hT : crc.Tab w) (hn : New G w) (hg : g < w.heap.size) : New (Own G g) w := fun k hk => ⟨hn k hk, by omega, by have := hT.1; omega⟩
theorem tab_own {G : Nat → Prop} {w w' : World} {g : Nat} (hT : crc.Tab w) (ht : Turn (Own G g) w w') : crc.Tab w' := rcd.tab_turn hT ht fun h => h.2.2 rfl
theorem own_sub {G : Nat → Prop} {g : Nat} : ∀ k, Own G g k → G k := fun _ h => h.1
/-- nil, or one that nobody made -/
def JnNo (w : World) (p : Value) : Prop := p = .pointer none ∨ ∃ g, p = .pointer (some ⟨g, 0, none⟩) ∧ Blk w g 52 #[.pointer none, .pointer none, .int .i64 0, .int .i64 0]
theorem blk_lens {G : Nat → Prop} {w : World} {b : Value} {s : List UInt8} {k : Nat} (h : BlkIs G w b s k) : k ≤ s.length ∧ s.length ≤ 9223372036854775807 := by
  obtain ⟨g, v, _, _, hd, _, hk⟩ := h
  have := hd.len
  unfold maxLen at this
  exact ⟨hk, by omega⟩

theorem hasJ : (Tryd.prog.info? 52).isSome = true := by kernel_rfl
theorem jn_eql (a : Addr) (w : World) : (binOp .eql 28 (.pointer (some a)) (.pointer (some a))).run Tryd.prog w = .ok (.bool true) w := by
  obtain ⟨j, hj⟩ := Option.isSome_iff_exists.1 hasJ
  exact run_eql_ptr_same w a Tryd.underlying28 hj
theorem jmade_ok (g : Nat) (b : Value) (n m : Nat) (w : World) (h : JBlk w g b (.pointer (some ⟨g, 0, none⟩)) n m) : Calls Tryd.prog 41 #[.pointer (some ⟨g, 0, none⟩)] w fun e w' => e = .returned (.bool true) ∧ w = w' := by
  have h0 := h.c1
  have hne := jn_eql
  clear h
  go_enter Tryd.func41, Tryd.ntmps41
  go_wp2
  go_ret
  exact ⟨rfl, rfl⟩
theorem jmade_no (p : Value) (w : World) (h : JnNo w p) : Calls Tryd.prog 41 #[p] w fun e w' => e = .returned (.bool false) ∧ w = w' := by
  rcases h with rfl | ⟨g, rfl, h⟩
  · go_enter Tryd.func41, Tryd.ntmps41
    go_wp2
    go_ret
    exact ⟨rfl, rfl⟩
  · have h0 : w.cell? ⟨g, 1, none⟩ = some (.pointer none) := h.cell 1
    have hne := fun a w => eql_nil_left (t := 28) a w Tryd.underlying28
    clear h
    go_enter Tryd.func41, Tryd.ntmps41
    go_wp2
    go_ret
    exact ⟨rfl, rfl⟩

section
variable {G : Nat → Prop} {g : Nat} {b : Value} {j : Jr} {w : World}
theorem jlen_any (h : JnOf G w g b j) : Calls Tryd.prog 21 #[.pointer (some ⟨g, 0, none⟩)] w fun e w' => e = .returned (.int .i64 (j.l.length : Int)) ∧ w = w' := by
  have h2 := h.1.c2
  have HM := Lib.hid (jmade_ok g _ _ _ w h.1)
  clear h
  go_enter Tryd.func21, Tryd.ntmps21
  go_wp2_with (go_at_call 41; (with_reducible refine HM.out.mono ?_); rintro e w1 ⟨rfl, rfl⟩)
  go_ret
  exact ⟨rfl, rfl⟩
theorem jsafe_any (h : JnOf G w g b j) : Calls Tryd.prog 22 #[.pointer (some ⟨g, 0, none⟩)] w fun e w' => e = .returned (.int .i64 (j.m : Int)) ∧ w = w' := by
  have h2 := h.1.c3
  have HM := Lib.hid (jmade_ok g _ _ _ w h.1)
  clear h
  go_enter Tryd.func22, Tryd.ntmps22
  go_wp2_with (go_at_call 41; (with_reducible refine HM.out.mono ?_); rintro e w1 ⟨rfl, rfl⟩)
  go_ret
  exact ⟨rfl, rfl⟩
theorem jsize_any (h : JnOf G w g b j) : Calls Tryd.prog 23 #[.pointer (some ⟨g, 0, none⟩)] w fun e w' => e = .returned (.int .i64 (j.s.length : Int)) ∧ w = w' := by
  have h2 := h.1.c0
  have HM := Lib.hid (jmade_ok g _ _ _ w h.1)
  have HS := Lib.hid (size_any _ b j.s j.k w h.2.1)
  clear h
  go_enter Tryd.func23, Tryd.ntmps23
  go_wp2_with (first
    | (go_at_call 41; (with_reducible refine HM.out.mono ?_); rintro e w1 ⟨rfl, rfl⟩)
    | (go_at_call 47; (with_reducible refine HS.out.mono ?_); rintro e w1 ⟨rfl, rfl⟩))
  go_ret
  exact ⟨rfl, rfl⟩
set_option maxHeartbeats 4000000 in
theorem jsync_any (hT : crc.Tab w) (hn : New G w) (h : JnOf G w g b j) : Calls Tryd.prog 17 #[.pointer (some ⟨g, 0, none⟩)] w fun e w' => e = .returned (.int .i64 (syncJ j).2) ∧ JnOf G w' g b (syncJ j).1 ∧ Turn G w w' := by
  obtain ⟨hj, hb, hg, hm, hl⟩ := h
  have c0 := hj.c0
  have c2 := hj.c2
  have c3 := hj.c3
  have hlt : g < w.heap.size := Blk.lt hj
  have hls := blk_lens hb
  have ew : IntKind.i64.wrap ((j.l.length : Int) - (j.m : Int)) = (j.l.length : Int) - (j.m : Int) := by rw [IntKind.wrap_i64]; omega
  have HM := Lib.hid (jmade_ok g _ _ _ w hj)
  have HS := Lib.hid fun n => sync_any (Own G g) b j.s j.k (w.drewN n) (own_new hT hn hlt) (hb.next (below_drewN (Below.refl _ _) n))
  have HJ := Lib.hid hj
  have HG := Lib.hid hg
  have HL := Lib.hid hl
  unfold syncJ
  obtain ⟨N, hN⟩ : ∃ N, N = j.l.length := ⟨_, rfl⟩
  rw [← hN] at c2 ew HJ HL ⊢
  clear hj hb hg hm hl hls hn hlt hT
  have HN := Lib.hid hN
  clear hN
  go_enter Tryd.func17, Tryd.ntmps17
  go_wp2_with (go_at_call 41; (with_reducible refine HM.out.mono ?_); rintro e w1 ⟨rfl, rfl⟩)
  go_quiet (fail)
  go_wp2_with (go_at_call 44; (with_reducible refine (HS.out _).mono ?_); rintro e w2 ⟨rfl, hb2, ht2⟩; (have ht2 : Turn (Own G g) w w2 := ⟨ht2.os, ht2.tape, ht2.output, ht2.size, ht2.block⟩); (have hJ2 : JBlk w2 g b (.pointer (some ⟨g, 0, none⟩)) N j.m := Blk.turn HJ.out ht2 (fun hh => hh.2.1 rfl)); have d2 := hJ2.c2; have d3 := hJ2.c3; (have f3 : w2.frozen? ⟨g, 3, none⟩ = false := Blk.frozen hJ2 3); have HB2 := Lib.hid hb2; have HJ2 := Lib.hid hJ2; have HT2 := Lib.hid ht2; clear hb2 hJ2 ht2)
  go_ret
  have ht : ∀ u : Value, Turn (· = g) w2 (w2.setCell ⟨g, 3, none⟩ u) := fun u => (Turn.refl (· = g) w2).setCell (p := ⟨g, 3, none⟩) rfl _
  refine ⟨rfl, ⟨?_, (bk_is.turn HB2.out (ht _) fun k _ hk hh => hk.2.1 hh), HG.out, Nat.le_of_eq HN.out, HN.out ▸ HL.out⟩, (HT2.out.mono own_sub).trans ((ht _).mono fun k hk => hk ▸ HG.out.1)⟩
  have := Blk.set_ HJ2.out 3 (.int .i64 (N : Int))
  rw [← HN.out]
  exact this
end
end Go.Proofs.YtkbbeioednhefaaDoor.jn

namespace Go.Proofs.YtkbbeioednhefaaDoor.jn
open Go.RowKit Go.Proofs.YtkbbeioednhefaaDoor.mem Go.Proofs.YtkbbeioednhefaaDoor.sha Go.Proofs.YtkbbeioednhefaaDoor.opn Go.Proofs.YtkbbeioednhefaaDoor.rows Go.Proofs.YtkbbeioednhefaaDoor.ids Go.Proofs.YtkbbeioednhefaaDoor.rcd

/-- Bk G w b s: b is a file of the bytes s, in blocks of G; Jn G w p b j: p is a journal in the file b -/
structure JnIs (T : World → Prop) (Bk : (Nat → Prop) → World → Value → List UInt8 → Prop) (Jn : (Nat → Prop) → World → Value → Value → Jr → Prop) : Prop where
  next : ∀ {w w' : World}, T w → Below w.heap.size w w' → T w'
  wf : ∀ {G : Nat → Prop} {w : World} {p b : Value} {j : Jr}, Jn G w p b j → Wf j
  cap : ∀ {G : Nat → Prop} {w : World} {p b : Value} {j : Jr}, Jn G w p b j → Jn (fun k => G k ∧ k < w.heap.size) w p b j
  mono : ∀ {G H : Nat → Prop} {w : World} {p b : Value} {j : Jr}, Jn G w p b j → (∀ k, G k → H k) → Jn H w p b j
  turn : ∀ {G H : Nat → Prop} {w w' : World} {p b : Value} {j : Jr}, Jn G w p b j → Turn H w w' → (∀ k, k < w.heap.size → G k → ¬ H k) → Jn G w' p b j
  bnew : ∀ (w : World), T w → Calls Tryd.prog 10 #[] w fun e w' => ∃ b, e = .returned b ∧ Bk (w.heap.size ≤ ·) w' b [] ∧ Below w.heap.size w w'
  bwrite : ∀ (G : Nat → Prop) (b : Value) (s : List UInt8) (t : ByteArray) (w : World), T w → New G w → Bk G w b s → s.length + t.size ≤ 100000 → Calls Tryd.prog 11 #[b, .string t] w fun e w' => e = .returned (.int .i64 0) ∧ Bk G w' b (s ++ t.data.toList) ∧ Turn G w w'
  open_ : ∀ (G : Nat → Prop) (b : Value) (s : List UInt8) (w : World), T w → New G w → Bk G w b s → s.length ≤ 100000 → Calls Tryd.prog 12 #[b] w fun e w' =>
    ∃ p v G', e = .returned (.tuple #[p, v]) ∧ Jn G' w' p b (openJ s) ∧ New G' w' ∧ (∀ k, G' k → G k) ∧ OwnR w' (fun k => w.heap.size ≤ k ∧ ¬ G' k) v (openJ s).l ∧ Turn G w w'
  append : ∀ (G : Nat → Prop) (p b : Value) (j : Jr) (r : Rc) (w : World), T w → New G w → Jn G w p b j → j.s.length ≤ 100000 → r.body.length ≤ 300 → Calls Tryd.prog 15 #[p, recv r] w fun e w' => e = .returned (.int .i64 (appJ j r).2) ∧ Jn G w' p b (appJ j r).1 ∧ Turn G w w'
  sync : ∀ (G : Nat → Prop) (p b : Value) (j : Jr) (w : World), T w → New G w → Jn G w p b j → Calls Tryd.prog 17 #[p] w fun e w' => e = .returned (.int .i64 (syncJ j).2) ∧ Jn G w' p b (syncJ j).1 ∧ Turn G w w'
  crash : ∀ (G : Nat → Prop) (p b : Value) (j : Jr) (n : Int) (w : World), T w → New G w → Jn G w p b j → j.s.length ≤ 100000 → Calls Tryd.prog 19 #[p, .int .i64 n] w fun e w' =>
    ∃ v G', e = .returned v ∧ Jn G' w' p b (crashJ j n) ∧ New G' w' ∧ (∀ k, G' k → G k) ∧ OwnR w' (fun k => w.heap.size ≤ k ∧ ¬ G' k) v (crashJ j n).l ∧ Turn G w w'
  len : ∀ (G : Nat → Prop) (p b : Value) (j : Jr) (w : World), T w → Jn G w p b j → Calls Tryd.prog 21 #[p] w fun e w' => e = .returned (.int .i64 (j.l.length : Int)) ∧ Below w.heap.size w w'
  safe : ∀ (G : Nat → Prop) (p b : Value) (j : Jr) (w : World), T w → Jn G w p b j → Calls Tryd.prog 22 #[p] w fun e w' => e = .returned (.int .i64 (j.m : Int)) ∧ Below w.heap.size w w'
  size : ∀ (G : Nat → Prop) (p b : Value) (j : Jr) (w : World), T w → Jn G w p b j → Calls Tryd.prog 23 #[p] w fun e w' => e = .returned (.int .i64 (j.s.length : Int)) ∧ Below w.heap.size w w'
  data : ∀ (G : Nat → Prop) (p b : Value) (j : Jr) (w : World), T w → Jn G w p b j → Calls Tryd.prog 24 #[b] w fun e w' => e = .returned (.string (oct.tx j.s)) ∧ Below w.heap.size w w'
section
variable {T : World → Prop} {Bk : (Nat → Prop) → World → Value → List UInt8 → Prop} {Jn : (Nat → Prop) → World → Value → Value → Jr → Prop}
/-- what stands while one journal lives, in blocks of G, all new since w0 -/
structure Js (T : World → Prop) (Jn : (Nat → Prop) → World → Value → Value → Jr → Prop) (w0 : World) (G : Nat → Prop) (p b : Value) (j : Jr) (w : World) : Prop where
  t : T w
  n : New G w
  j : Jn G w p b j
  g : ∀ k, G k → w0.heap.size ≤ k
  below : Below w0.heap.size w0 w
variable {w0 w w' : World} {G G' F : Nat → Prop} {p b : Value} {j j' : Jr}
theorem Js.op (hI : JnIs T Bk Jn) (hT : T w0) (h : Js T Jn w0 G p b j w) (hj : Jn G w' p b j') (ht : Turn G w w') : Js T Jn w0 G p b j' w' := by
  have hB := h.below.trans (ht.below h.g)
  exact ⟨hI.next hT hB, h.n.turn ht, hj, h.g, hB⟩
theorem Js.op' (hI : JnIs T Bk Jn) (hT : T w0) (h : Js T Jn w0 G p b j w) (hj : Jn G' w' p b j') (hn : New G' w') (hg : ∀ k, G' k → G k) (ht : Turn G w w') : Js T Jn w0 G' p b j' w' := by
  have hB := h.below.trans (ht.below h.g)
  exact ⟨hI.next hT hB, hn, hj, fun k hk => h.g k (hg k hk), hB⟩
theorem Js.next (hI : JnIs T Bk Jn) (h : Js T Jn w0 G p b j w) (hb : Below w.heap.size w w') : Js T Jn w0 G p b j w' :=
  ⟨hI.next h.t hb, h.n.of hb.size, hI.turn h.j (Turn.ofBelow hb) fun k hk _ hh => by omega, h.g, h.below.trans (hb.mono h.below.size)⟩
/-- what the law itself lays and turns, outside of the journal's blocks: these are none of the journal's from then on -/
theorem Js.aside (hI : JnIs T Bk Jn) (hT : T w0) (h : Js T Jn w0 G p b j w) (ht : Turn F w w') (hF : ∀ k, k < w.heap.size → F k → ¬ G k) (hF0 : ∀ k, F k → w0.heap.size ≤ k) :
    ∃ G', Js T Jn w0 G' p b j w' ∧ (∀ k, G' k → G k) ∧ (∀ k, G' k → k < w.heap.size ∨ w'.heap.size ≤ k) := by
  have hB := h.below.trans (ht.below hF0)
  have hs := ht.size
  refine ⟨fun k => (G k ∧ k < w.heap.size) ∨ w'.heap.size ≤ k, ⟨hI.next hT hB, fun k hk => .inr hk, ?_, fun k hk => hk.elim (fun x => h.g k x.1) (fun x => by have := h.below.size; omega), hB⟩, fun k hk => hk.elim (·.1) (fun x => h.n k (Nat.le_trans hs x)), fun k hk => hk.imp (·.2) id⟩
  exact hI.mono (hI.turn (hI.cap h.j) ht fun k hk hg hf => hF k hk hf hg.1) fun k hk => .inl hk
set_option maxHeartbeats 4000000 in
set_option maxRecDepth 100000 in
theorem awake_any (hI : JnIs T Bk Jn) (w : World) (hT : T w) : Calls Tryd.prog 9 #[] w fun e w' => e = .returned (.bool true) ∧ Below w.heap.size w w' := by
  have HI := Lib.hid hI
  have HT := Lib.hid hT
  have h0 : openJ [] = ⟨[], 0, [], 0⟩ := rfl
  obtain ⟨jr, hjr⟩ : ∃ x : Rc, x = ⟨2, []⟩ := ⟨_, rfl⟩
  have h1 : appJ ⟨[], 0, [], 0⟩ jr = (⟨enR jr, 0, [jr], 0⟩, 0) := by rw [hjr]; unfold appJ; rw [if_neg (by decide)]; rfl
  have HS := Lib.hid fun (p b : Value) (G : Nat → Prop) u (h : Js T Jn w G p b ⟨[], 0, [], 0⟩ u) => hI.append G p b ⟨[], 0, [], 0⟩ jr u h.t h.n h.j (by decide) (by rw [hjr]; decide)
  rw [h1] at HS
  have HS' : Hid (∀ (p b : Value) (G : Nat → Prop) u, Js T Jn w G p b ⟨[], 0, [], 0⟩ u → Calls Tryd.prog 15 #[p, .agg #[.int .i64 2, .string ⟨#[]⟩]] u fun e w' => e = .returned (.int .i64 0) ∧ Jn G w' p b ⟨enR jr, 0, [jr], 0⟩ ∧ Turn G u w') := Lib.hid fun p b G u h => by
    have := HS.out p b G u h
    rw [hjr] at this ⊢
    exact this
  clear hI hT h1 HS
  go_enter Tryd.func9, Tryd.ntmps9
  go_wp2_with (first
    | (go_at_call 10; refine (HI.out.bnew _ HT.out).mono ?_; rintro e w1 ⟨b, rfl, hk1, hb1⟩)
    | (go_at_call 12; refine (HI.out.open_ (w.heap.size ≤ ·) b [] _ (HI.out.next HT.out hb1) (fun k hk => Nat.le_trans hb1.size hk) hk1 (by decide)).mono ?_; rintro e w2 ⟨p, v, G', rfl, hj2, hn2, hg2, hO2, ht2⟩; rw [h0] at hj2 hO2; obtain ⟨ad, cap, rfl⟩ := OwnK.form hO2; have hB2 : Below w.heap.size w w2 := hb1.trans (ht2.below fun _ h => h); have S2 : Js T Jn w G' p b ⟨[], 0, [], 0⟩ w2 := ⟨HI.out.next HT.out hB2, hn2, hj2, fun k hk => hg2 k hk, hB2⟩; clear hO2)
    | (go_at_call 15; refine (HS'.out p b G' _ S2).mono ?_; rintro e w3 ⟨rfl, hj3, ht3⟩; have S3 := S2.op HI.out HT.out hj3 ht3)
    | (go_at_call 21; refine (HI.out.len G' p b _ _ S3.t S3.j).mono ?_; rintro e w4 ⟨rfl, hb4⟩; have S4 := S3.next HI.out hb4)
    | (go_at_call 22; refine (HI.out.safe G' p b _ _ S4.t S4.j).mono ?_; rintro e w5 ⟨rfl, hb5⟩; have S5 := S4.next HI.out hb5)
    | (go_at_call 17; refine (HI.out.sync G' p b _ _ S5.t S5.n S5.j).mono ?_; rintro e w6 ⟨rfl, hj6, ht6⟩; have S6 := S5.op HI.out HT.out hj6 ht6))
  go_ret
  exact ⟨rfl, S6.below⟩
end
end Go.Proofs.YtkbbeioednhefaaDoor.jn
