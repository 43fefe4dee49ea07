/-
  Contracts of package octet's Reader: what each call answers and leaves, whatever it is given.
-/
import Derived.Test.YtbhkegdohiekfaaDoorOctb
import Derived.Lib.Strings
import Derived.Lib.BufferWrite
import Derived.Lib.UnsafeStr
import Derived.Lib.Walk
import Derived.Laws.MakeOwn
namespace Go.Proofs.YtbhkegdohiekfaaDoor.oct
open Go.RowKit Go.Proofs.YtbhkegdohiekfaaDoor.mem

def RBlk (w : World) (g : Nat) (rest : ByteArray) (err : Int) : Prop := Blk w g 83 #[.pointer (some ⟨g, 0, none⟩), .string rest, .int .i64 err]
theorem RBlk.c0 {w : World} {g : Nat} {rest : ByteArray} {err : Int} (h : RBlk w g rest err) : w.cell? ⟨g, 0, none⟩ = some (.pointer (some ⟨g, 0, none⟩)) := Blk.cell h 0
theorem RBlk.c1 {w : World} {g : Nat} {rest : ByteArray} {err : Int} (h : RBlk w g rest err) : w.cell? ⟨g, 1, none⟩ = some (.string rest) := Blk.cell h 1
theorem RBlk.c2 {w : World} {g : Nat} {rest : ByteArray} {err : Int} (h : RBlk w g rest err) : w.cell? ⟨g, 2, none⟩ = some (.int .i64 err) := Blk.cell h 2

theorem hasR : (Tryd.prog.info? 83).isSome = true := by kernel_rfl
theorem rd_neq (a : Addr) (w : World) : (binOp .neq 66 (.pointer (some a)) (.pointer (some a))).run Tryd.prog w = .ok (.bool false) w := by
  obtain ⟨j, hj⟩ := Option.isSome_iff_exists.1 hasR
  exact Lib.run_neq_ptr_same w a Tryd.underlying66 hj

def RFault (w : World) (p : Option Addr) (e : Int) : Prop :=
  (p = none ∧ e = 8) ∨ ∃ g, p = some ⟨g, 0, none⟩ ∧ ((e = 8 ∧ Blk w g 83 #[.pointer none, .string ⟨#[]⟩, .int .i64 0]) ∨ ∃ rest, RBlk w g rest e)
theorem RFault.block {w w' : World} {p : Option Addr} {e : Int} (h : RFault w p e) (hb : Below w.heap.size w w') : RFault w' p e := by
  rcases h with h | ⟨g, hg, h | ⟨v, h⟩⟩
  · exact .inl h
  · exact .inr ⟨g, hg, .inl ⟨h.1, h.2.below hb h.2.lt⟩⟩
  · exact .inr ⟨g, hg, .inr ⟨v, Blk.below h hb (Blk.lt h)⟩⟩
theorem RBlk.fault {w : World} {g : Nat} {rest : ByteArray} {err : Int} (h : RBlk w g rest err) : RFault w (some ⟨g, 0, none⟩) err := .inr ⟨g, rfl, .inr ⟨rest, h⟩⟩

theorem open_any (s : ByteArray) (w : World) : Calls Tryd.prog 32 #[.string s] w fun e w' =>
    e = .returned (.pointer (some ⟨w.heap.size, 0, none⟩)) ∧ RBlk w' w.heap.size s 0 ∧ Below w.heap.size w w' := by
  go_enter Tryd.func32, Tryd.ntmps32
  go_wp2
  go_ret
  exact ⟨rfl, Blk.new _ _ _, (Below.refl _ w).alloc (Nat.le_refl _) _⟩

theorem err_ok (g : Nat) (rest : ByteArray) (err : Int) (w : World) (h : RBlk w g rest err) :
    Calls Tryd.prog 34 #[.pointer (some ⟨g, 0, none⟩)] w fun e w' => e = .returned (.int .i64 err) ∧ w = w' := by
  have h0 := h.c0
  have h2 := h.c2
  have hne := rd_neq
  go_enter Tryd.func34, Tryd.ntmps34
  go_wp2
  go_ret
  exact ⟨rfl, rfl⟩
theorem err_nil (w : World) :
    Calls Tryd.prog 34 #[.pointer none] w fun e w' => e = .returned (.int .i64 8) ∧ w = w' := by
  go_enter Tryd.func34, Tryd.ntmps34
  go_wp2
  go_ret
  exact ⟨rfl, rfl⟩
theorem err_zero (g : Nat) (w : World) (h : Blk w g 83 #[.pointer none, .string ⟨#[]⟩, .int .i64 0]) :
    Calls Tryd.prog 34 #[.pointer (some ⟨g, 0, none⟩)] w fun e w' => e = .returned (.int .i64 8) ∧ w = w' := by
  have h0 : w.cell? ⟨g, 0, none⟩ = some (.pointer none) := h.cell 0
  have hne := fun a w => neq_nil_left (t := 66) a w Tryd.underlying66
  go_enter Tryd.func34, Tryd.ntmps34
  go_wp2
  go_ret
  exact ⟨rfl, rfl⟩
theorem err_any (p : Option Addr) (err : Int) (w : World) (h : RFault w p err) :
    Calls Tryd.prog 34 #[.pointer p] w fun e w' => e = .returned (.int .i64 err) ∧ w = w' := by
  rcases h with ⟨rfl, rfl⟩ | ⟨g, rfl, ⟨rfl, h⟩ | ⟨v, h⟩⟩
  · exact err_nil w
  · exact err_zero g w h
  · exact err_ok g v err w h

theorem rkeep_still (p : Option Addr) (eb : Addr) (e0 e1 : Int) (u : FrameMode) (w : World) (h : RFault w p e0) (hc : w.cell? eb = some (.int .i64 e1)) (hs : e0 ≠ 0 ∨ e1 = 0) :
    CallsD Tryd.prog 47 #[.pointer p, .pointer (some eb)] u w fun e u' w' => u' = u ∧ (e = .returned (.tuple #[]) ∧ w = w') := by
  by_cases h0 : e0 = 0
  · subst h0
    obtain rfl : e1 = 0 := hs.resolve_left (by simp)
    go_enter_d Tryd.func47, Tryd.ntmps47
    go_wp2_with (go_at_call 34; refine (err_any _ _ _ h).mono ?_; rintro e w' ⟨rfl, rfl⟩)
    go_end0
    exact ⟨rfl, rfl⟩
  · have hd : (e0 == 0) = false := by simpa using h0
    clear hs
    go_enter_d Tryd.func47, Tryd.ntmps47
    go_wp2_with (go_at_call 34; refine (err_any _ _ _ h).mono ?_; rintro e w' ⟨rfl, rfl⟩)
    go_end0
    exact ⟨rfl, rfl⟩

theorem rkeep_sets (g : Nat) (eb : Addr) (rest : ByteArray) (e1 : Int) (u : FrameMode) (w : World) (h : RBlk w g rest 0) (hc : w.cell? eb = some (.int .i64 e1)) (h1 : e1 ≠ 0) :
    CallsD Tryd.prog 47 #[.pointer (some ⟨g, 0, none⟩), .pointer (some eb)] u w fun e u' w' =>
      u' = u ∧ (e = .returned (.tuple #[]) ∧ w' = (w.setCell ⟨g, 1, none⟩ (.string ⟨#[]⟩)).setCell ⟨g, 2, none⟩ (.int .i64 e1)) := by
  have hd : (!e1 == 0) = true := by simpa using h1
  have c1 := h.c1
  have c2 := h.c2
  have f1 : w.frozen? ⟨g, 1, none⟩ = false := Blk.frozen h 1
  have f2 : w.frozen? ⟨g, 2, none⟩ = false := Blk.frozen h 2
  go_enter_d Tryd.func47, Tryd.ntmps47
  go_wp2_with (go_at_call 34; refine (err_ok _ _ _ _ h).mono ?_; rintro e w' ⟨rfl, rfl⟩)
  go_end0
  exact ⟨rfl, rfl⟩

theorem take_stuck (p : Option Addr) (e0 n : Int) (w : World) (h : RFault w p e0) (h0 : e0 ≠ 0) :
    Calls Tryd.prog 49 #[.pointer p, .int .i64 n] w fun e w' => e = .returned (.string ⟨#[]⟩) ∧ Below w.heap.size w w' := by
  have hd : (e0 != 0) = true := by simpa using h0
  have H0 := Lib.hid h0
  clear h0
  go_enter_defers Tryd.func49, Tryd.ntmps49
  go_wp2_with (go_at_call 34; refine (err_any _ _ _ h).mono ?_; rintro e w' ⟨rfl, rfl⟩)
  refine leaves_cons (f := 47) (args := #[.pointer p, .pointer (some ⟨w.heap.size, 0, none⟩)]) (by simp) (by simp [go_sem]) ?_
  have hb : Below w.heap.size w (w.alloc (.cells #[.int .i64 e0] 27)) := (Below.refl _ _).alloc (Nat.le_refl _) _
  refine (rkeep_still p _ e0 e0 .returning _ (h.block hb) ?_ (.inl H0.out)).mono ?_
  · exact (Blk.new w 27 #[.int .i64 e0]).cell 0
  rintro e u' w'' ⟨rfl, rfl, rfl⟩
  exact ⟨_, results_tmp rfl _ _ _, rfl, hb⟩

/-- only block g has turned, and what is new -/
def Only (w : World) (g : Nat) : Nat → Prop := fun k => k = g ∨ w.heap.size ≤ k
theorem Only.new (w : World) (g : Nat) : New (Only w g) w := fun _ hk => .inr hk
theorem Only.self (w : World) (g : Nat) : Only w g g := .inl rfl

/-- the Reader behind keep -/
theorem RBlk.dropped {w : World} {g : Nat} {rest : ByteArray} (h : RBlk w g rest 0) (e1 : Int) : RBlk ((w.setCell ⟨g, 1, none⟩ (.string ⟨#[]⟩)).setCell ⟨g, 2, none⟩ (.int .i64 e1)) g ⟨#[]⟩ e1 :=
  Blk.set_ (Blk.set_ h 1 _) 2 _

theorem take_neg (F : Nat → Prop) (g : Nat) (rest : ByteArray) (n : Int) (w : World) (h : RBlk w g rest 0) (hF : F g) (hn : New F w) (hneg : n < 0) :
    Calls Tryd.prog 49 #[.pointer (some ⟨g, 0, none⟩), .int .i64 n] w fun e w' => e = .returned (.string ⟨#[]⟩) ∧ RBlk w' g ⟨#[]⟩ 1 ∧ Turn F w w' := by
  go_enter_defers Tryd.func49, Tryd.ntmps49
  go_wp2_with (go_at_call 34; refine (err_ok _ _ _ _ h).mono ?_; rintro e w' ⟨rfl, rfl⟩)
  refine leaves_cons (f := 47) (args := #[.pointer (some ⟨g, 0, none⟩), .pointer (some ⟨w.heap.size, 0, none⟩)]) (by simp) (by simp [go_sem]) ?_
  have hw1 : RBlk (w.alloc (.cells #[.int .i64 1] 27)) g rest 0 := Blk.alloc h _
  refine (rkeep_sets g ⟨w.heap.size, 0, none⟩ rest 1 .returning _ hw1 ?_ (by decide)).mono ?_
  · exact (Blk.new w 27 #[.int .i64 1]).cell 0
  rintro e u' w'' ⟨rfl, rfl, rfl⟩
  exact ⟨_, results_tmp rfl _ _ _, rfl, hw1.dropped 1, (((Turn.refl F w).alloc hn _).setCell hF _).setCell hF _⟩

theorem take_short (F : Nat → Prop) (g : Nat) (rest : ByteArray) (n : Int) (w : World) (h : RBlk w g rest 0) (hF : F g) (hn : New F w) (hb : (rest.size : Int) < n) :
    Calls Tryd.prog 49 #[.pointer (some ⟨g, 0, none⟩), .int .i64 n] w fun e w' => e = .returned (.string ⟨#[]⟩) ∧ RBlk w' g ⟨#[]⟩ 2 ∧ Turn F w w' := by
  have hng : ¬ n < 0 := by omega
  have hw0 : RBlk (w.alloc (.cells #[.int .i64 0] 27)) g rest 0 := Blk.alloc h _
  have c1 := hw0.c1
  have hlt := Blk.lt h
  go_enter_defers Tryd.func49, Tryd.ntmps49
  go_wp2_with (go_at_call 34; refine (err_ok _ _ _ _ h).mono ?_; rintro e w' ⟨rfl, rfl⟩)
  refine leaves_cons (f := 47) (args := #[.pointer (some ⟨g, 0, none⟩), .pointer (some ⟨w.heap.size, 0, none⟩)]) (by simp) (by simp [go_sem]) ?_
  have hw1 : RBlk (w.alloc (.cells #[.int .i64 2] 27)) g rest 0 := Blk.alloc h _
  refine (rkeep_sets g ⟨w.heap.size, 0, none⟩ rest 2 .returning _ hw1 ?_ (by decide)).mono ?_
  · exact (Blk.new w 27 #[.int .i64 2]).cell 0
  rintro e u' w'' ⟨rfl, rfl, rfl⟩
  exact ⟨_, results_tmp rfl _ _ _, rfl, hw1.dropped 2, (((Turn.refl F w).alloc hn _).setCell hF _).setCell hF _⟩

theorem take_good (F : Nat → Prop) (g : Nat) (rest : ByteArray) (n : Nat) (w : World) (h : RBlk w g rest 0) (hF : F g) (hn : New F w) (hb : n ≤ rest.size) :
    Calls Tryd.prog 49 #[.pointer (some ⟨g, 0, none⟩), .int .i64 n] w fun e w' => e = .returned (.string (rest.extract 0 n)) ∧ RBlk w' g (rest.extract n rest.size) 0 ∧ Turn F w w' := by
  have hng : ¬ (n : Int) < 0 := by omega
  have hle : ¬ (rest.size : Int) < (n : Int) := by omega
  have hw0 : RBlk (w.alloc (.cells #[.int .i64 0] 27)) g rest 0 := Blk.alloc h _
  have c1 := hw0.c1
  have f1 : (w.alloc (.cells #[.int .i64 0] 27)).frozen? ⟨g, 1, none⟩ = false := Blk.frozen hw0 1
  have hlt := Blk.lt h
  go_enter_defers Tryd.func49, Tryd.ntmps49
  go_wp2_with (go_at_call 34; refine (err_ok _ _ _ _ h).mono ?_; rintro e w' ⟨rfl, rfl⟩)
  refine leaves_cons (f := 47) (args := #[.pointer (some ⟨g, 0, none⟩), .pointer (some ⟨w.heap.size, 0, none⟩)]) (by simp) (by simp [go_sem]) ?_
  have hs : (w.setCell ⟨g, 1, none⟩ (.string (rest.extract n rest.size))).heap.size = w.heap.size := by simp [World.setCell]
  have hw1 : RBlk ((w.setCell ⟨g, 1, none⟩ (.string (rest.extract n rest.size))).alloc (.cells #[.int .i64 0] 27)) g (rest.extract n rest.size) 0 := Blk.alloc (Blk.set_ h 1 _) _
  refine (rkeep_still _ ⟨w.heap.size, 0, none⟩ 0 0 .returning _ hw1.fault ?_ (.inr rfl)).mono ?_
  · rw [← hs]
    exact (Blk.new _ 27 #[.int .i64 0]).cell 0
  rintro e u' w'' ⟨rfl, rfl, rfl⟩
  exact ⟨_, results_tmp rfl _ _ _, rfl, hw1, ((Turn.refl F w).setCell (p := ⟨g, 1, none⟩) hF _).alloc hn _⟩

theorem take_any (F : Nat → Prop) (g : Nat) (rest : ByteArray) (err n : Int) (w : World) (h : RBlk w g rest err) (hF : F g) (hn : New F w) :
    Calls Tryd.prog 49 #[.pointer (some ⟨g, 0, none⟩), .int .i64 n] w fun e w' => e = .returned (.string (rTake (rest, err) n).1) ∧ RBlk w' g (rTake (rest, err) n).2.1 (rTake (rest, err) n).2.2 ∧ Turn F w w' := by
  by_cases he : err = 0
  · subst he
    by_cases h0 : n < 0
    · have e2 : rTake (rest, 0) n = (⟨#[]⟩, (⟨#[]⟩, 1)) := by unfold rTake; rw [if_neg (by simp), if_pos h0]
      rw [e2]
      exact take_neg F g rest n w h hF hn h0
    · by_cases h1 : (rest.size : Int) < n
      · have e2 : rTake (rest, 0) n = (⟨#[]⟩, (⟨#[]⟩, 2)) := by unfold rTake; rw [if_neg (by simp), if_neg h0, if_pos h1]
        rw [e2]
        exact take_short F g rest n w h hF hn h1
      · obtain ⟨k, rfl⟩ := Int.eq_ofNat_of_zero_le (by omega : 0 ≤ n)
        have e2 : rTake (rest, 0) (k : Int) = (rest.extract 0 k, (rest.extract k rest.size, 0)) := by unfold rTake; rw [if_neg (by simp), if_neg h0, if_neg h1, Int.toNat_natCast]
        rw [e2]
        exact take_good F g rest k w h hF hn (by omega)
  · have e2 : rTake (rest, err) n = (⟨#[]⟩, (rest, err)) := by unfold rTake; rw [if_pos he]
    rw [e2]
    exact (take_stuck _ err n w h.fault he).mono fun e w' ⟨h1, h2⟩ => ⟨h1, Blk.below h h2 (Blk.lt h), Turn.fresh h2 hn⟩

set_option maxRecDepth 100000 in
theorem clone_any (s : ByteArray) (w : World) (hlim : s.size ≤ 281474976710656) :
    Calls Tryd.prog 58 #[.string s] w fun e w' => e = .returned (.string s) ∧ Below w.heap.size w w' := by
  by_cases h0 : s.size = 0
  · have hs : s = ⟨#[]⟩ := by
      apply ByteArray.ext
      exact Array.eq_empty_of_size_eq_zero h0
    subst hs
    go_enter Tryd.func58, Tryd.ntmps58
    go_wp2
    go_ret
    exact ⟨rfl, Below.refl _ _⟩
  · obtain ⟨i0, hi, hz0, hz1, hz2⟩ := info_parts info5
    have hinfo : (Tryd.prog.info? 5).map (·.size) = some 1 := by rw [hi]; simp [hz1]
    have hco : Tryd.prog.cellsOf 5 = 1 := by simp [Program.cellsOf, hi, hz1]
    obtain ⟨M, hM⟩ : ∃ M, M = madeCells (Value.int .u8 0).cells (((s.size : Nat) : Int).toNat * i0.size) := ⟨_, rfl⟩
    have hMs : M.size = s.size := by rw [hM, size_madeCells, hz1]; simp
    have hmk : ∀ W : World, (Instr.makeSlice 49 (.int .i64 (s.size : Int)) (.int .i64 (s.size : Int))).run Tryd.prog W = .ok (.slice (some ⟨W.heap.size, 0, none⟩) s.size s.size) (W.alloc (.cells M 5)) := fun W => by
      have h := run_make (P := Tryd.prog) W 49 5 i0 (.int .u8 0) Tryd.underlying49 hi hz0 .i64 .i64 (s.size : Int) (s.size : Int) (by omega) (by omega) (by rw [hz2]; omega) (by omega)
      rw [← hM] at h
      simpa using h
    clear hM
    have hcp := Lib.run_copy_row_string (P := Tryd.prog) (w.alloc (.cells M 5)) 49 9 3 5 w.heap.size 0 s.size s.size s M 5 Tryd.underlying49 hinfo (heap_alloc_new w _) (Nat.le_refl _) (by omega)
    obtain ⟨Y, hY⟩ : ∃ Y, Y = (M.toList.take 0 ++ Lib.byteCells s.data.toList ++ M.toList.drop (0 + s.size)).toArray := ⟨_, rfl⟩
    rw [← hY] at hcp
    have hYl : Y.toList = Lib.byteCells s.data.toList := by
      rw [hY, List.toList_toArray, List.take_zero, List.nil_append, List.drop_of_length_le (by rw [Array.length_toList]; omega), List.append_nil]
    have hYs : Y.size = s.size := by rw [← Array.length_toList, hYl, Lib.byteCells_length, ← Lib.size_eq]
    have hgY : ((w.alloc (.cells M 5)).setRow w.heap.size Y).heap[w.heap.size]? = some (.cells Y 5 (0, 0)) := setRow_heap _ _ M _ 5 (0, 0) (heap_alloc_new w _)
    have hne : s.data.toList ≠ [] := fun e => h0 (by rw [Lib.size_eq, e]; rfl)
    have hUS := Lib.run_unsafeString_row (P := Tryd.prog) ((w.alloc (.cells M 5)).setRow w.heap.size Y) 91 3 9 5 Tryd.underlying91 hco w.heap.size Y.size (by unfold World.shape?; rw [hgY]) s.data.toList hne (by rw [← Lib.size_eq]; omega) (by rw [← Lib.size_eq]; omega)
      (fun j x hx => Lib.cells_of_row hgY Y.size j _ (by rw [List.take_of_length_le (by rw [Array.length_toList]; exact Nat.le_refl _), hYl]; simp [Lib.byteCells, hx]))
    rw [← Lib.size_eq] at hUS
    clear hY
    go_enter Tryd.func58, Tryd.ntmps58
    go_wp2
    go_ret
    have hb1 : Below w.heap.size w (w.alloc (.cells M 5)) := (Below.refl _ w).alloc (Nat.le_refl _) _
    have hb2 : Below w.heap.size (w.alloc (.cells M 5)) ((w.alloc (.cells M 5)).setRow w.heap.size Y) := ⟨rfl, rfl, rfl, by simp, fun k hk => setRow_other _ _ _ _ (by omega)⟩
    exact ⟨rfl, Lib.below_freeze (hb1.trans hb2) (p := ⟨w.heap.size, 0, none⟩) (Nat.le_refl _) _⟩

theorem sclone_any (s : ByteArray) (w : World) (hlim : s.size ≤ 281474976710656) :
    Calls Tryd.prog 56 #[.string s] w fun e w' => e = .returned (.string s) ∧ Below w.heap.size w w' := by
  go_enter Tryd.func56, Tryd.ntmps56
  go_wp2_with (go_at_call 58; refine (clone_any s _ hlim).mono ?_; rintro e w' ⟨rfl, hb⟩)
  go_ret
  exact ⟨rfl, hb⟩

end Go.Proofs.YtbhkegdohiekfaaDoor.oct
