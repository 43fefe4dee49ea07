/-
  petrelref11.Same.
  What record's functions answer.
  Contracts of package octet's calls: what each answers, and what becomes of the memory. Conditions: as each states.
  Contracts of package octet's calls, the second part: numbers appended.
-/
import Derived.Test.YtkbbeioednhefaaDoorRcaa
import Derived.Test.YtkbbeioednhefaaDoorMemi
import Derived.Test.YtkbbeioednhefaaDoorOctp
namespace Go.Proofs.YtkbbeioednhefaaDoor.rcd
open Go.RowKit Go.Proofs.YtkbbeioednhefaaDoor.mem Go.Proofs.YtkbbeioednhefaaDoor.sha Go.Proofs.YtkbbeioednhefaaDoor.opn Go.Proofs.YtkbbeioednhefaaDoor.rows Go.Proofs.YtkbbeioednhefaaDoor.ids

/-- two lists that are one -/
theorem same_eq {w : World} {va vb : Value} {L : List Rc} (hA : RcV w va L) (hB : RcV w vb L) (hm : L.length ≤ 1000000) :
    Calls Tryd.prog 14 #[va, vb] w fun e w' => e = .returned (.bool true) ∧ Below w.heap.size w w' := by
  obtain ⟨ad, c1, rfl, hC1⟩ := hA
  obtain ⟨bd, c2, rfl, hC2⟩ := hB
  obtain ⟨n, hn⟩ : ∃ n, n = L.length := ⟨_, rfl⟩
  rw [← hn] at hC1 hC2 hm ⊢
  have n0 : (0 : Int) ≤ (n : Int) := Int.natCast_nonneg _
  clear hn
  go_enter Tryd.func14, Tryd.ntmps14
  go_wp2_with fail
  go_loopg [5] (n + 1) (fun gk s5 wr => ∃ i : Nat, s5 = .int .i64 i ∧ i ≤ n ∧ n - i < gk ∧ Hid (Below w.heap.size w wr))
  case atStart => exact ⟨0, rfl, Nat.zero_le _, by omega, Lib.hid (Below.refl _ _)⟩
  case round =>
    obtain ⟨i, rfl, hi, hgk, HB⟩ := hrel
    have i0 : (0 : Int) ≤ (i : Int) := Int.natCast_nonneg _
    by_cases hlt : i < n
    · have hltz : (i : Int) < (n : Int) := by omega
      obtain ⟨b, off, rfl, hbl, a0, a1⟩ := hC1 i hlt
      obtain ⟨b', off', rfl, hbl', a0', a1'⟩ := hC2 i hlt
      replace a0 := (HB.out.cell (p := ⟨b, off + i * 2, none⟩) hbl).trans a0
      replace a1 := (HB.out.cell (p := ⟨b, off + i * 2 + 1, none⟩) hbl).trans a1
      replace a0' := (HB.out.cell (p := ⟨b', off' + i * 2, none⟩) hbl').trans a0'
      replace a1' := (HB.out.cell (p := ⟨b', off' + i * 2 + 1, none⟩) hbl').trans a1'
      obtain ⟨k, hk⟩ : ∃ k, k = (L.getD i zrc).k := ⟨_, rfl⟩
      obtain ⟨t, ht⟩ : ∃ t, t = oct.tx (L.getD i zrc).body := ⟨_, rfl⟩
      rw [← hk] at a0 a0'
      rw [← ht] at a1 a1'
      clear hk ht hC1 hC2
      go_upto_region 6 with fail
      go_quiet (fail)
      go_wp2_with fail
      go_roundg (n - i)
      case measure => omega
      case rel => exact ⟨i + 1, by go_num, hlt, by omega, Lib.hid (below_drewN HB.out _)⟩
    · have hlt' : ¬ (i : Int) < (n : Int) := by omega
      go_wp2_with fail
      go_ret
      exact ⟨rfl, HB.out⟩
end Go.Proofs.YtkbbeioednhefaaDoor.rcd

namespace Go.Proofs.YtkbbeioednhefaaDoor.rcd
open Go.RowKit Go.Proofs.YtkbbeioednhefaaDoor.mem Go.Proofs.YtkbbeioednhefaaDoor.sha Go.Proofs.YtkbbeioednhefaaDoor.opn Go.Proofs.YtkbbeioednhefaaDoor.rows Go.Proofs.YtkbbeioednhefaaDoor.ids

structure RcIs (T : World → Prop) : Prop where
  next : ∀ {w w' : World}, T w → Below w.heap.size w w' → T w'
  put : ∀ (k : Int) (b : List UInt8) (w : World), T w → b.length ≤ 140737488355328 → Calls Tryd.prog 42 #[recv ⟨k, b⟩] w fun e w' => e = .returned (.tuple #[.string (oct.tx (putR ⟨k, b⟩).1), .int .i64 (putR ⟨k, b⟩).2]) ∧ Below w.heap.size w w'
  nxt : ∀ (s : ByteArray) (i : Int) (w : World), T w → s.size ≤ 800000 → Calls Tryd.prog 90 #[.string s, .int .i64 i] w fun e w' => e = .returned (nextV (nextR s.data.toList i)) ∧ Below w.heap.size w w'
  all : ∀ (s : ByteArray) (w : World), T w → s.size ≤ 800000 → Calls Tryd.prog 56 #[.string s] w fun e w' => ∃ v, e = .returned (.tuple #[v, .int .i64 ((allT s.data.toList).2.1 : Int), .int .i64 (allT s.data.toList).2.2]) ∧ OwnR w' (w.heap.size ≤ ·) v (allT s.data.toList).1 ∧ Below w.heap.size w w'
  size : ∀ (n : Int) (w : World), T w → n ≤ 1000000 → Calls Tryd.prog 75 #[.int .i64 n] w fun e w' => e = .returned (.int .i64 (sizeR n)) ∧ Below w.heap.size w w'
theorem allR_len : ∀ (n : Nat) (t : List UInt8), (allR n t).1.length * 9 ≤ t.length
  | 0, _ => by simp [allR]
  | n + 1, t => by
    unfold allR
    split
    · simp
    · split
      · simp
      · next a b =>
        have hs := first_size (t := t) (Decidable.not_not.1 b)
        have := allR_len n (t.drop (firstR t).2.1.toNat)
        rw [List.length_drop] at this
        simp only [List.length_cons]
        omega
theorem allT_len (t : List UInt8) : (allT t).1.length ≤ t.length := by have := allR_len t.length t; unfold allT; omega
end Go.Proofs.YtkbbeioednhefaaDoor.rcd

namespace Go.Proofs.YtkbbeioednhefaaDoor.oct
open Go.RowKit Go.Proofs.YtkbbeioednhefaaDoor.mem

/-- a Writer's block: itself, its bytes, its error -/
def WBlk (w : World) (g : Nat) (v : Value) (err : Int) : Prop := Blk w g 123 #[.pointer (some ⟨g, 0, none⟩), v, .int .i64 err]

theorem WBlk.c0 {w : World} {g : Nat} {v : Value} {err : Int} (h : WBlk w g v err) : w.cell? ⟨g, 0, none⟩ = some (.pointer (some ⟨g, 0, none⟩)) := Blk.cell h 0
theorem WBlk.c1 {w : World} {g : Nat} {v : Value} {err : Int} (h : WBlk w g v err) : w.cell? ⟨g, 1, none⟩ = some v := Blk.cell h 1
theorem WBlk.c2 {w : World} {g : Nat} {v : Value} {err : Int} (h : WBlk w g v err) : w.cell? ⟨g, 2, none⟩ = some (.int .i64 err) := Blk.cell h 2

theorem hasW : (Tryd.prog.info? 123).isSome = true := by kernel_rfl

theorem wr_neq (a : Addr) (w : World) : (binOp .neq 101 (.pointer (some a)) (.pointer (some a))).run Tryd.prog w = .ok (.bool false) w := by
  obtain ⟨j, hj⟩ := Option.isSome_iff_exists.1 hasW
  exact Lib.run_neq_ptr_same w a Tryd.underlying101 hj

/-- what fault tells of a Writer: nil, or one that nobody made: 8 -/
def WFault (w : World) (p : Option Addr) (e : Int) : Prop :=
  (p = none ∧ e = 8) ∨ ∃ g, p = some ⟨g, 0, none⟩ ∧ ((e = 8 ∧ Blk w g 123 #[.pointer none, .slice none 0 0, .int .i64 0]) ∨ ∃ v, WBlk w g v e)

theorem WFault.block {w w' : World} {p : Option Addr} {e : Int} (h : WFault w p e) (hb : Below w.heap.size w w') : WFault w' p e := by
  rcases h with h | ⟨g, hg, h | ⟨v, h⟩⟩
  · exact .inl h
  · exact .inr ⟨g, hg, .inl ⟨h.1, h.2.below hb h.2.lt⟩⟩
  · exact .inr ⟨g, hg, .inr ⟨v, Blk.below h hb (Blk.lt h)⟩⟩

theorem new_any (w : World) : Calls Tryd.prog 60 #[] w fun e w' =>
    e = .returned (.pointer (some ⟨w.heap.size, 0, none⟩)) ∧ WBlk w' w.heap.size (.slice none 0 0) 0 ∧ Below w.heap.size w w' := by
  go_enter Tryd.func60, Tryd.ntmps60
  go_wp2
  go_ret
  exact ⟨rfl, Blk.new _ _ _, (Below.refl _ w).alloc (Nat.le_refl _) _⟩

theorem fault_ok (g : Nat) (v : Value) (err : Int) (w : World) (h : WBlk w g v err) :
    Calls Tryd.prog 78 #[.pointer (some ⟨g, 0, none⟩)] w fun e w' => e = .returned (.int .i64 err) ∧ w = w' := by
  have h0 := h.c0
  have h2 := h.c2
  have hne := wr_neq
  go_enter Tryd.func78, Tryd.ntmps78
  go_wp2
  go_ret
  exact ⟨rfl, rfl⟩

theorem fault_nil (w : World) :
    Calls Tryd.prog 78 #[.pointer none] w fun e w' => e = .returned (.int .i64 8) ∧ w = w' := by
  go_enter Tryd.func78, Tryd.ntmps78
  go_wp2
  go_ret
  exact ⟨rfl, rfl⟩

theorem fault_zero (g : Nat) (w : World) (h : Blk w g 123 #[.pointer none, .slice none 0 0, .int .i64 0]) :
    Calls Tryd.prog 78 #[.pointer (some ⟨g, 0, none⟩)] w fun e w' => e = .returned (.int .i64 8) ∧ w = w' := by
  have h0 : w.cell? ⟨g, 0, none⟩ = some (.pointer none) := h.cell 0
  have hne := fun a w => neq_nil_left (t := 101) a w Tryd.underlying101
  go_enter Tryd.func78, Tryd.ntmps78
  go_wp2
  go_ret
  exact ⟨rfl, rfl⟩

theorem fault_any (p : Option Addr) (err : Int) (w : World) (h : WFault w p err) :
    Calls Tryd.prog 78 #[.pointer p] w fun e w' => e = .returned (.int .i64 err) ∧ w = w' := by
  rcases h with ⟨rfl, rfl⟩ | ⟨g, rfl, ⟨rfl, h⟩ | ⟨v, h⟩⟩
  · exact fault_nil w
  · exact fault_zero g w h
  · exact fault_ok g v err w h

/-- keep, deferred: where an error stands already, or none came: nothing turns -/
theorem keep_still (p : Option Addr) (eb : Addr) (e0 e1 : Int) (u : FrameMode) (w : World) (h : WFault w p e0) (hc : w.cell? eb = some (.int .i64 e1)) (hs : e0 ≠ 0 ∨ e1 = 0) :
    CallsD Tryd.prog 79 #[.pointer p, .pointer (some eb)] u w fun e u' w' => u' = u ∧ (e = .returned (.tuple #[]) ∧ w = w') := by
  by_cases h0 : e0 = 0
  · subst h0
    obtain rfl : e1 = 0 := hs.resolve_left (by simp)
    go_enter_d Tryd.func79, Tryd.ntmps79
    go_wp2_with (go_at_call 78; refine (fault_any _ _ _ h).mono ?_; rintro e w' ⟨rfl, rfl⟩)
    go_end0
    exact ⟨rfl, rfl⟩
  · have hd : (e0 == 0) = false := by simpa using h0
    clear hs
    go_enter_d Tryd.func79, Tryd.ntmps79
    go_wp2_with (go_at_call 78; refine (fault_any _ _ _ h).mono ?_; rintro e w' ⟨rfl, rfl⟩)
    go_end0
    exact ⟨rfl, rfl⟩

theorem keep_sets (g : Nat) (eb : Addr) (v : Value) (e1 : Int) (u : FrameMode) (w : World) (h : WBlk w g v 0) (hc : w.cell? eb = some (.int .i64 e1)) (h1 : e1 ≠ 0) :
    CallsD Tryd.prog 79 #[.pointer (some ⟨g, 0, none⟩), .pointer (some eb)] u w fun e u' w' =>
      u' = u ∧ (e = .returned (.tuple #[]) ∧ w' = (w.setCell ⟨g, 1, none⟩ (.slice none 0 0)).setCell ⟨g, 2, none⟩ (.int .i64 e1)) := by
  have hd : (!e1 == 0) = true := by simpa using h1
  have c1 := h.c1
  have c2 := h.c2
  have f1 : w.frozen? ⟨g, 1, none⟩ = false := Blk.frozen h 1
  have f2 : w.frozen? ⟨g, 2, none⟩ = false := Blk.frozen h 2
  go_enter_d Tryd.func79, Tryd.ntmps79
  go_wp2_with (go_at_call 78; refine (fault_ok _ _ _ _ h).mono ?_; rintro e w' ⟨rfl, rfl⟩)
  go_end0
  exact ⟨rfl, rfl⟩
end Go.Proofs.YtkbbeioednhefaaDoor.oct

namespace Go.Proofs.YtkbbeioednhefaaDoor.oct
open Go.RowKit Go.Proofs.YtkbbeioednhefaaDoor.mem

theorem isSize_any (n : Int) (w : World) : Calls Tryd.prog 80 #[.int .i64 n] w fun e w' => e = .returned (.bool (sz n)) ∧ w = w' := by
  by_cases h1 : n = 1
  · subst h1
    go_enter Tryd.func80, Tryd.ntmps80
    go_wp2
    go_ret
    exact ⟨rfl, rfl⟩
  · by_cases h2 : n = 2
    · subst h2
      go_enter Tryd.func80, Tryd.ntmps80
      go_wp2
      go_ret
      exact ⟨rfl, rfl⟩
    · have h1' : (n == 1) = false := by simpa using h1
      have h2' : (n == 2) = false := by simpa using h2
      have hz : sz n = (n == 4) := by unfold sz; rw [h1', h2']; rfl
      have HZ := Lib.hid hz
      clear hz
      go_enter Tryd.func80, Tryd.ntmps80
      go_wp2
      go_ret
      rw [HZ.out]
      exact ⟨rfl, rfl⟩

theorem app1 (F : Nat → Prop) (v : Value) (m : Nat) (xs : List Value) (n : Int) (w : World) (hown : Owns w F v m xs) (hn : New F w) (hm : m + 1 ≤ 140737488355328) :
    Calls Tryd.prog 81 #[v, .int .i64 n, .int .i64 1] w fun e w' => ∃ v', e = .returned v' ∧ Owns w' F v' (m + 1) (xs ++ [.int .u8 (n % 256)]) ∧ Turn F w w' := by
  go_enter Tryd.func81, Tryd.ntmps81
  go_wp2_with (at_builtin; go_must (refine wp_append_new rfl (.tmp 29) (.tmp 32) rfl F _ v m xs rfl hown [_] 1 rfl rfl (one1 _) (by omega) hn ?_); intro v1 w1 ho1 ht1)
  go_ret
  exact ⟨v1, rfl, ho1, ht1⟩

theorem app2 (F : Nat → Prop) (v : Value) (m : Nat) (xs : List Value) (n : Int) (w : World) (hown : Owns w F v m xs) (hn : New F w) (hm : m + 2 ≤ 140737488355328) (h0 : 0 ≤ n) (h1 : n < 65536) :
    Calls Tryd.prog 81 #[v, .int .i64 n, .int .i64 2] w fun e w' => ∃ v', e = .returned v' ∧ Owns w' F v' (m + 1 + 1) (xs ++ [.int .u8 (n / 256)] ++ [.int .u8 (n % 256)]) ∧ Turn F w w' := by
  go_enter Tryd.func81, Tryd.ntmps81
  go_wp2_with (first
    | (at_builtin; refine wp_append_new rfl (.tmp 23) (.tmp 27) rfl F _ v m xs rfl hown [_] 1 rfl rfl (one1 _) (by omega) hn ?_; intro v1 w1 ho1 ht1)
    | (at_builtin; go_must (refine wp_append_new rfl (.tmp 29) (.tmp 32) rfl F _ v1 (m + 1) _ rfl ho1 [_] 1 rfl rfl (one1 _) (by omega) (hn.turn ht1) ?_); intro v2 w2 ho2 ht2))
  go_ret
  exact ⟨v2, rfl, ho2, ht1.trans ht2⟩

theorem app4 (F : Nat → Prop) (v : Value) (m : Nat) (xs : List Value) (n : Int) (w : World) (hown : Owns w F v m xs) (hn : New F w) (hm : m + 4 ≤ 140737488355328) (h0 : 0 ≤ n) (h1 : n < 4294967296) :
    Calls Tryd.prog 81 #[v, .int .i64 n, .int .i64 4] w fun e w' => ∃ v', e = .returned v' ∧ Owns w' F v' (m + 2 + 1 + 1) (xs ++ [.int .u8 (n / 16777216), .int .u8 (n / 65536 % 256)] ++ [.int .u8 (n / 256 % 256)] ++ [.int .u8 (n % 256)]) ∧ Turn F w w' := by
  go_enter Tryd.func81, Tryd.ntmps81
  go_wp2_with (first
    | (at_builtin; refine wp_append_new rfl (.tmp 14) (.tmp 21) rfl F _ v m xs rfl hown [_, _] 2 rfl rfl (one2 _ _) (by omega) hn ?_; intro v1 w1 ho1 ht1)
    | (at_builtin; refine wp_append_new rfl (.tmp 23) (.tmp 27) rfl F _ v1 (m + 2) _ rfl ho1 [_] 1 rfl rfl (one1 _) (by omega) (hn.turn ht1) ?_; intro v2 w2 ho2 ht2)
    | (at_builtin; go_must (refine wp_append_new rfl (.tmp 29) (.tmp 32) rfl F _ v2 (m + 2 + 1) _ rfl ho2 [_] 1 rfl rfl (one1 _) (by omega) (hn.turn (ht1.trans ht2)) ?_); intro v3 w3 ho3 ht3))
  go_ret
  exact ⟨v3, rfl, ho3, (ht1.trans ht2).trans ht3⟩
end Go.Proofs.YtkbbeioednhefaaDoor.oct
