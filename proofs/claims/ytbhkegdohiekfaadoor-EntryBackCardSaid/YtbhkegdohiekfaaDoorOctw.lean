/-
  Contracts of package octet's Writer: what each call answers and leaves, whatever it is given.
-/
import Derived.Test.YtbhkegdohiekfaaDoorOctb
namespace Go.Proofs.YtbhkegdohiekfaaDoor.oct
open Go.RowKit Go.Proofs.YtbhkegdohiekfaaDoor.mem

/-- a Writer of the call's own: its bytes, its error -/
def WrIs (w : World) (F : Nat → Prop) (g : Nat) (out : List UInt8) (err : Int) : Prop := ∃ v, WBlk w g v err ∧ Owns w F v out.length (bCells out) ∧ F g

theorem WrIs.fault {w : World} {F : Nat → Prop} {g : Nat} {out : List UInt8} {err : Int} (h : WrIs w F g out err) : WFault w (some ⟨g, 0, none⟩) err := by
  obtain ⟨v, hb, _, _⟩ := h
  exact .inr ⟨g, rfl, .inr ⟨v, hb⟩⟩

theorem WrIs.fresh {w w' : World} {F : Nat → Prop} {g : Nat} {out : List UInt8} {err : Int} (h : WrIs w F g out err) (hb : Below w.heap.size w w') : WrIs w' F g out err := by
  obtain ⟨v, hw, ho, hF⟩ := h
  exact ⟨v, Blk.below hw hb (Blk.lt hw), ho.turn (G := (w.heap.size ≤ ·)) (Turn.ofBelow hb) (fun k hk => Nat.not_le.2 (ho.lt hk)), hF⟩
/-- what turns blocks outside F leaves the Writer as it is -/
theorem WrIs.turn {w w' : World} {F G : Nat → Prop} {g : Nat} {out : List UInt8} {err : Int} (h : WrIs w F g out err) (ht : Turn G w w') (hd : ∀ k, k < w.heap.size → F k → ¬ G k) : WrIs w' F g out err := by
  obtain ⟨v, hw, ho, hF⟩ := h
  exact ⟨v, Blk.turn hw ht (hd g (Blk.lt hw) hF), ho.turn ht (fun k hk => hd k (ho.lt hk) (ho.2 k hk)), hF⟩

theorem num_stuck (p : Option Addr) (e0 n b : Int) (w : World) (h : WFault w p e0) (h0 : e0 ≠ 0) :
    Calls Tryd.prog 18 #[.pointer p, .int .i64 n, .int .i64 b] w fun e w' => e = .returned (.pointer p) ∧ Below w.heap.size w w' := by
  have hd : (e0 != 0) = true := by simpa using h0
  have H0 := Lib.hid h0
  clear h0
  go_enter_defers Tryd.func18, Tryd.ntmps18
  go_wp2_with (go_at_call 41; refine (fault_any _ _ _ h).mono ?_; rintro e w' ⟨rfl, rfl⟩)
  refine leaves_cons (f := 42) (args := #[.pointer p, .pointer (some ⟨w.heap.size, 0, none⟩)]) (by simp) (by simp [go_sem]) ?_
  have hb : Below w.heap.size w (w.alloc (.cells #[.int .i64 e0] 27)) := (Below.refl _ _).alloc (Nat.le_refl _) _
  refine (keep_still p _ e0 e0 .returning _ (h.block hb) ?_ (.inl H0.out)).mono ?_
  · exact (Blk.new w 27 #[.int .i64 e0]).cell 0
  rintro e u' w'' ⟨rfl, rfl, rfl⟩
  exact ⟨_, results_tmp rfl _ _ _, rfl, hb⟩

/-- the Writer behind keep: its error set, its bytes dropped -/
theorem WrIs.dropped {w : World} {F : Nat → Prop} {g : Nat} {v : Value} (h : WBlk w g v 0) (hF : F g) (e1 : Int) : WrIs ((w.setCell ⟨g, 1, none⟩ (.slice none 0 0)).setCell ⟨g, 2, none⟩ (.int .i64 e1)) F g [] e1 := by
  refine ⟨.slice none 0 0, ?_, Owns.nil _ F, hF⟩
  exact Blk.set_ (Blk.set_ h 1 _) 2 _

theorem num_size (F : Nat → Prop) (g : Nat) (out : List UInt8) (n b : Int) (w : World) (h : WrIs w F g out 0) (hn : New F w) (hb : sz b = false) :
    Calls Tryd.prog 18 #[.pointer (some ⟨g, 0, none⟩), .int .i64 n, .int .i64 b] w fun e w' => e = .returned (.pointer (some ⟨g, 0, none⟩)) ∧ WrIs w' F g [] 1 ∧ Turn F w w' := by
  obtain ⟨v, hw, ho, hF⟩ := h
  have hlt := Blk.lt hw
  go_enter_defers Tryd.func18, Tryd.ntmps18
  go_wp2_with (first
    | (go_at_call 41; refine (fault_ok _ _ _ _ hw).mono ?_; rintro e w' ⟨rfl, rfl⟩)
    | (go_at_call 43; refine (isSize_any _ _).mono ?_; rintro e w' ⟨rfl, rfl⟩; rw [hb]))
  refine leaves_cons (f := 42) (args := #[.pointer (some ⟨g, 0, none⟩), .pointer (some ⟨w.heap.size, 0, none⟩)]) (by simp) (by simp [go_sem]) ?_
  have hw1 : WBlk (w.alloc (.cells #[.int .i64 1] 27)) g v 0 := Blk.alloc hw _
  refine (keep_sets g ⟨w.heap.size, 0, none⟩ v 1 .returning _ hw1 ?_ (by decide)).mono ?_
  · exact (Blk.new w 27 #[.int .i64 1]).cell 0
  rintro e u' w'' ⟨rfl, rfl, rfl⟩
  exact ⟨_, results_tmp rfl _ _ _, rfl, WrIs.dropped hw1 hF 1, (((Turn.refl F w).alloc hn _).setCell hF _).setCell hF _⟩

theorem num_neg (F : Nat → Prop) (g : Nat) (out : List UInt8) (n b : Int) (w : World) (h : WrIs w F g out 0) (hn : New F w) (hb : sz b = true) (h0 : n < 0) :
    Calls Tryd.prog 18 #[.pointer (some ⟨g, 0, none⟩), .int .i64 n, .int .i64 b] w fun e w' => e = .returned (.pointer (some ⟨g, 0, none⟩)) ∧ WrIs w' F g [] 5 ∧ Turn F w w' := by
  obtain ⟨v, hw, ho, hF⟩ := h
  go_enter_defers Tryd.func18, Tryd.ntmps18
  go_wp2_with (first
    | (go_at_call 41; refine (fault_ok _ _ _ _ hw).mono ?_; rintro e w' ⟨rfl, rfl⟩)
    | (go_at_call 43; refine (isSize_any _ _).mono ?_; rintro e w' ⟨rfl, rfl⟩; rw [hb]))
  refine leaves_cons (f := 42) (args := #[.pointer (some ⟨g, 0, none⟩), .pointer (some ⟨w.heap.size, 0, none⟩)]) (by simp) (by simp [go_sem]) ?_
  have hw1 : WBlk (w.alloc (.cells #[.int .i64 5] 27)) g v 0 := Blk.alloc hw _
  refine (keep_sets g ⟨w.heap.size, 0, none⟩ v 5 .returning _ hw1 ?_ (by decide)).mono ?_
  · exact (Blk.new w 27 #[.int .i64 5]).cell 0
  rintro e u' w'' ⟨rfl, rfl, rfl⟩
  exact ⟨_, results_tmp rfl _ _ _, rfl, WrIs.dropped hw1 hF 5, (((Turn.refl F w).alloc hn _).setCell hF _).setCell hF _⟩

theorem num_wide1 (F : Nat → Prop) (g : Nat) (out : List UInt8) (n : Int) (w : World) (h : WrIs w F g out 0) (hn : New F w) (h0 : 256 ≤ n) (h1 : n ≤ 9223372036854775807) :
    Calls Tryd.prog 18 #[.pointer (some ⟨g, 0, none⟩), .int .i64 n, .int .i64 1] w fun e w' => e = .returned (.pointer (some ⟨g, 0, none⟩)) ∧ WrIs w' F g [] 5 ∧ Turn F w w' := by
  obtain ⟨v, hw, ho, hF⟩ := h
  have hb : sz 1 = true := rfl
  have hng : ¬ n < 0 := by omega
  have hd : (n / 256 != 0) = true := by simp; omega
  go_enter_defers Tryd.func18, Tryd.ntmps18
  go_wp2_with (first
    | (go_at_call 41; refine (fault_ok _ _ _ _ hw).mono ?_; rintro e w' ⟨rfl, rfl⟩)
    | (go_at_call 43; refine (isSize_any _ _).mono ?_; rintro e w' ⟨rfl, rfl⟩; rw [hb]))
  refine leaves_cons (f := 42) (args := #[.pointer (some ⟨g, 0, none⟩), .pointer (some ⟨w.heap.size, 0, none⟩)]) (by simp) (by simp [go_sem]) ?_
  have hw1 : WBlk (w.alloc (.cells #[.int .i64 5] 27)) g v 0 := Blk.alloc hw _
  refine (keep_sets g ⟨w.heap.size, 0, none⟩ v 5 .returning _ hw1 ?_ (by decide)).mono ?_
  · exact (Blk.new w 27 #[.int .i64 5]).cell 0
  rintro e u' w'' ⟨rfl, rfl, rfl⟩
  exact ⟨_, results_tmp rfl _ _ _, rfl, WrIs.dropped hw1 hF 5, (((Turn.refl F w).alloc hn _).setCell hF _).setCell hF _⟩

theorem num_wide2 (F : Nat → Prop) (g : Nat) (out : List UInt8) (n : Int) (w : World) (h : WrIs w F g out 0) (hn : New F w) (h0 : 65536 ≤ n) (h1 : n ≤ 9223372036854775807) :
    Calls Tryd.prog 18 #[.pointer (some ⟨g, 0, none⟩), .int .i64 n, .int .i64 2] w fun e w' => e = .returned (.pointer (some ⟨g, 0, none⟩)) ∧ WrIs w' F g [] 5 ∧ Turn F w w' := by
  obtain ⟨v, hw, ho, hF⟩ := h
  have hb : sz 2 = true := rfl
  have hng : ¬ n < 0 := by omega
  have hd : (n / 65536 != 0) = true := by simp; omega
  go_enter_defers Tryd.func18, Tryd.ntmps18
  go_wp2_with (first
    | (go_at_call 41; refine (fault_ok _ _ _ _ hw).mono ?_; rintro e w' ⟨rfl, rfl⟩)
    | (go_at_call 43; refine (isSize_any _ _).mono ?_; rintro e w' ⟨rfl, rfl⟩; rw [hb]))
  refine leaves_cons (f := 42) (args := #[.pointer (some ⟨g, 0, none⟩), .pointer (some ⟨w.heap.size, 0, none⟩)]) (by simp) (by simp [go_sem]) ?_
  have hw1 : WBlk (w.alloc (.cells #[.int .i64 5] 27)) g v 0 := Blk.alloc hw _
  refine (keep_sets g ⟨w.heap.size, 0, none⟩ v 5 .returning _ hw1 ?_ (by decide)).mono ?_
  · exact (Blk.new w 27 #[.int .i64 5]).cell 0
  rintro e u' w'' ⟨rfl, rfl, rfl⟩
  exact ⟨_, results_tmp rfl _ _ _, rfl, WrIs.dropped hw1 hF 5, (((Turn.refl F w).alloc hn _).setCell hF _).setCell hF _⟩

theorem num_wide4 (F : Nat → Prop) (g : Nat) (out : List UInt8) (n : Int) (w : World) (h : WrIs w F g out 0) (hn : New F w) (h0 : 4294967296 ≤ n) (h1 : n ≤ 9223372036854775807) :
    Calls Tryd.prog 18 #[.pointer (some ⟨g, 0, none⟩), .int .i64 n, .int .i64 4] w fun e w' => e = .returned (.pointer (some ⟨g, 0, none⟩)) ∧ WrIs w' F g [] 5 ∧ Turn F w w' := by
  obtain ⟨v, hw, ho, hF⟩ := h
  have hb : sz 4 = true := rfl
  have hng : ¬ n < 0 := by omega
  have hd : (n / 4294967296 != 0) = true := by simp; omega
  go_enter_defers Tryd.func18, Tryd.ntmps18
  go_wp2_with (first
    | (go_at_call 41; refine (fault_ok _ _ _ _ hw).mono ?_; rintro e w' ⟨rfl, rfl⟩)
    | (go_at_call 43; refine (isSize_any _ _).mono ?_; rintro e w' ⟨rfl, rfl⟩; rw [hb]))
  refine leaves_cons (f := 42) (args := #[.pointer (some ⟨g, 0, none⟩), .pointer (some ⟨w.heap.size, 0, none⟩)]) (by simp) (by simp [go_sem]) ?_
  have hw1 : WBlk (w.alloc (.cells #[.int .i64 5] 27)) g v 0 := Blk.alloc hw _
  refine (keep_sets g ⟨w.heap.size, 0, none⟩ v 5 .returning _ hw1 ?_ (by decide)).mono ?_
  · exact (Blk.new w 27 #[.int .i64 5]).cell 0
  rintro e u' w'' ⟨rfl, rfl, rfl⟩
  exact ⟨_, results_tmp rfl _ _ _, rfl, WrIs.dropped hw1 hF 5, (((Turn.refl F w).alloc hn _).setCell hF _).setCell hF _⟩

theorem Row.not {w : World} {F : Nat → Prop} {v : Value} {n : Nat} {xs : List Value} {g : Nat} {err : Int} (h : Owns w F v n xs) (hw : WBlk w g v err) : ¬ Row w v g := by
  rintro (hk | hk)
  · exact h.ne_ hw (by decide) hk
  · have := Blk.lt hw; omega

/-- the Writer behind an append: its new bytes stored -/
theorem WrIs.stored {w w1 : World} {F : Nat → Prop} {g : Nat} {v v' : Value} {n n' : Nat} {xs : List Value} {out : List UInt8} (hw : WBlk w g v 0) (ho : Owns w F v n xs) (hn : New F w) (hF : F g)
    (ho' : Owns w1 (Row w v) v' n' (bCells out)) (ht : Turn (Row w v) w w1) (hl : n' = out.length) : WrIs (w1.setCell ⟨g, 1, none⟩ v') F g out 0 := by
  subst hl
  have hw1 : WBlk w1 g v 0 := Blk.turn hw ht (Row.not ho hw)
  refine ⟨v', Blk.set_ hw1 1 v', ?_, hF⟩
  refine ((ho'.mono (Row.sub ho hn)).turn (G := (· = g)) ((Turn.refl (· = g) w1).setCell (p := ⟨g, 1, none⟩) rfl _) fun k hk e => ?_)
  subst e
  exact ho'.ne_ hw1 (by decide) hk

theorem num_good1 (F : Nat → Prop) (g : Nat) (out : List UInt8) (n : Int) (w : World) (h : WrIs w F g out 0) (hn : New F w) (hl : out.length + 4 ≤ 140737488355328) (h0 : 0 ≤ n) (h1 : n < 256) :
    Calls Tryd.prog 18 #[.pointer (some ⟨g, 0, none⟩), .int .i64 n, .int .i64 1] w fun e w' => e = .returned (.pointer (some ⟨g, 0, none⟩)) ∧ WrIs w' F g (out ++ be n 1) 0 ∧ Turn F w w' := by
  obtain ⟨v, hw, ho, hF⟩ := h
  have hb : sz 1 = true := rfl
  have hng : ¬ n < 0 := by omega
  have hd : (n / 256 != 0) = false := by simp; omega
  have hw0 : WBlk (w.alloc (.cells #[.int .i64 0] 27)) g v 0 := Blk.alloc hw _
  have c1 := hw0.c1
  have hlt := Blk.lt hw
  go_enter_defers Tryd.func18, Tryd.ntmps18
  go_wp2_with (first
    | (go_at_call 41; refine (fault_ok _ _ _ _ hw).mono ?_; rintro e w' ⟨rfl, rfl⟩)
    | (go_at_call 43; refine (isSize_any _ _).mono ?_; rintro e w' ⟨rfl, rfl⟩; rw [hb])
    | (go_at_call 44; go_must (refine (app1 (Row (w.alloc (.cells #[.int .i64 0] 27)) v) v _ _ n _ (ho.alloc _).row (Row.new _ _) (by omega)).mono ?_); rintro e w1 ⟨v1, rfl, ho1, ht1⟩; obtain ⟨ad1, k1, cc1, rfl⟩ := ho1.form; have hw1 : WBlk w1 g v 0 := Blk.turn hw0 ht1 (Row.not (ho.alloc _) hw0); have d1 := hw1.c1; have f1 : w1.frozen? ⟨g, 1, none⟩ = false := Blk.frozen hw1 1))
  refine leaves_cons (f := 42) (args := #[.pointer (some ⟨g, 0, none⟩), .pointer (some ⟨w.heap.size, 0, none⟩)]) (by simp) (by simp [go_sem]) ?_
  have hE : Blk (w.alloc (.cells #[.int .i64 0] 27)) w.heap.size 27 #[.int .i64 0] := Blk.new w _ _
  have hE1 : Blk w1 w.heap.size 27 #[.int .i64 0] := Blk.turn hE ht1 (by
    rintro (hk | hk)
    · exact (ho.alloc _).ne_ hE (by decide) hk
    · simp at hk; omega)
  have ho1' : Owns w1 (Row (w.alloc (.cells #[.int .i64 0] 27)) v) (.slice ad1 k1 cc1) (out.length + 1) (bCells (out ++ be n 1)) := by
    rw [bCells_append, be1 n h0]
    simpa [List.append_assoc] using ho1
  have hS : WrIs (w1.setCell ⟨g, 1, none⟩ (.slice ad1 k1 cc1)) F g (out ++ be n 1) 0 := WrIs.stored hw0 (ho.alloc _) (hn.alloc _) hF ho1' ht1 (by simp [be])
  refine (keep_still _ ⟨w.heap.size, 0, none⟩ 0 0 .returning _ hS.fault ?_ (.inr rfl)).mono ?_
  · exact (Blk.far hE1 (p := ⟨g, 1, none⟩) (by simp; omega) _).cell 0
  rintro e u' w'' ⟨rfl, rfl, rfl⟩
  exact ⟨_, results_tmp rfl _ _ _, rfl, hS, (((Turn.refl F w).alloc hn _).trans (ht1.mono (Row.sub (ho.alloc _) (hn.alloc _)))).setCell hF _⟩

theorem num_good2 (F : Nat → Prop) (g : Nat) (out : List UInt8) (n : Int) (w : World) (h : WrIs w F g out 0) (hn : New F w) (hl : out.length + 4 ≤ 140737488355328) (h0 : 0 ≤ n) (h1 : n < 65536) :
    Calls Tryd.prog 18 #[.pointer (some ⟨g, 0, none⟩), .int .i64 n, .int .i64 2] w fun e w' => e = .returned (.pointer (some ⟨g, 0, none⟩)) ∧ WrIs w' F g (out ++ be n 2) 0 ∧ Turn F w w' := by
  obtain ⟨v, hw, ho, hF⟩ := h
  have hb : sz 2 = true := rfl
  have hng : ¬ n < 0 := by omega
  have hd : (n / 65536 != 0) = false := by simp; omega
  have hw0 : WBlk (w.alloc (.cells #[.int .i64 0] 27)) g v 0 := Blk.alloc hw _
  have c1 := hw0.c1
  have hlt := Blk.lt hw
  go_enter_defers Tryd.func18, Tryd.ntmps18
  go_wp2_with (first
    | (go_at_call 41; refine (fault_ok _ _ _ _ hw).mono ?_; rintro e w' ⟨rfl, rfl⟩)
    | (go_at_call 43; refine (isSize_any _ _).mono ?_; rintro e w' ⟨rfl, rfl⟩; rw [hb])
    | (go_at_call 44; go_must (refine (app2 (Row (w.alloc (.cells #[.int .i64 0] 27)) v) v _ _ n _ (ho.alloc _).row (Row.new _ _) (by omega) h0 h1).mono ?_); rintro e w1 ⟨v1, rfl, ho1, ht1⟩; obtain ⟨ad1, k1, cc1, rfl⟩ := ho1.form; have hw1 : WBlk w1 g v 0 := Blk.turn hw0 ht1 (Row.not (ho.alloc _) hw0); have d1 := hw1.c1; have f1 : w1.frozen? ⟨g, 1, none⟩ = false := Blk.frozen hw1 1))
  refine leaves_cons (f := 42) (args := #[.pointer (some ⟨g, 0, none⟩), .pointer (some ⟨w.heap.size, 0, none⟩)]) (by simp) (by simp [go_sem]) ?_
  have hE : Blk (w.alloc (.cells #[.int .i64 0] 27)) w.heap.size 27 #[.int .i64 0] := Blk.new w _ _
  have hE1 : Blk w1 w.heap.size 27 #[.int .i64 0] := Blk.turn hE ht1 (by
    rintro (hk | hk)
    · exact (ho.alloc _).ne_ hE (by decide) hk
    · simp at hk; omega)
  have ho1' : Owns w1 (Row (w.alloc (.cells #[.int .i64 0] 27)) v) (.slice ad1 k1 cc1) (out.length + 1 + 1) (bCells (out ++ be n 2)) := by
    rw [bCells_append, be2 n h0 h1]
    simpa [List.append_assoc] using ho1
  have hS : WrIs (w1.setCell ⟨g, 1, none⟩ (.slice ad1 k1 cc1)) F g (out ++ be n 2) 0 := WrIs.stored hw0 (ho.alloc _) (hn.alloc _) hF ho1' ht1 (by simp [be])
  refine (keep_still _ ⟨w.heap.size, 0, none⟩ 0 0 .returning _ hS.fault ?_ (.inr rfl)).mono ?_
  · exact (Blk.far hE1 (p := ⟨g, 1, none⟩) (by simp; omega) _).cell 0
  rintro e u' w'' ⟨rfl, rfl, rfl⟩
  exact ⟨_, results_tmp rfl _ _ _, rfl, hS, (((Turn.refl F w).alloc hn _).trans (ht1.mono (Row.sub (ho.alloc _) (hn.alloc _)))).setCell hF _⟩

theorem num_good4 (F : Nat → Prop) (g : Nat) (out : List UInt8) (n : Int) (w : World) (h : WrIs w F g out 0) (hn : New F w) (hl : out.length + 4 ≤ 140737488355328) (h0 : 0 ≤ n) (h1 : n < 4294967296) :
    Calls Tryd.prog 18 #[.pointer (some ⟨g, 0, none⟩), .int .i64 n, .int .i64 4] w fun e w' => e = .returned (.pointer (some ⟨g, 0, none⟩)) ∧ WrIs w' F g (out ++ be n 4) 0 ∧ Turn F w w' := by
  obtain ⟨v, hw, ho, hF⟩ := h
  have hb : sz 4 = true := rfl
  have hng : ¬ n < 0 := by omega
  have hd : (n / 4294967296 != 0) = false := by simp; omega
  have hw0 : WBlk (w.alloc (.cells #[.int .i64 0] 27)) g v 0 := Blk.alloc hw _
  have c1 := hw0.c1
  have hlt := Blk.lt hw
  go_enter_defers Tryd.func18, Tryd.ntmps18
  go_wp2_with (first
    | (go_at_call 41; refine (fault_ok _ _ _ _ hw).mono ?_; rintro e w' ⟨rfl, rfl⟩)
    | (go_at_call 43; refine (isSize_any _ _).mono ?_; rintro e w' ⟨rfl, rfl⟩; rw [hb])
    | (go_at_call 44; go_must (refine (app4 (Row (w.alloc (.cells #[.int .i64 0] 27)) v) v _ _ n _ (ho.alloc _).row (Row.new _ _) (by omega) h0 h1).mono ?_); rintro e w1 ⟨v1, rfl, ho1, ht1⟩; obtain ⟨ad1, k1, cc1, rfl⟩ := ho1.form; have hw1 : WBlk w1 g v 0 := Blk.turn hw0 ht1 (Row.not (ho.alloc _) hw0); have d1 := hw1.c1; have f1 : w1.frozen? ⟨g, 1, none⟩ = false := Blk.frozen hw1 1))
  refine leaves_cons (f := 42) (args := #[.pointer (some ⟨g, 0, none⟩), .pointer (some ⟨w.heap.size, 0, none⟩)]) (by simp) (by simp [go_sem]) ?_
  have hE : Blk (w.alloc (.cells #[.int .i64 0] 27)) w.heap.size 27 #[.int .i64 0] := Blk.new w _ _
  have hE1 : Blk w1 w.heap.size 27 #[.int .i64 0] := Blk.turn hE ht1 (by
    rintro (hk | hk)
    · exact (ho.alloc _).ne_ hE (by decide) hk
    · simp at hk; omega)
  have ho1' : Owns w1 (Row (w.alloc (.cells #[.int .i64 0] 27)) v) (.slice ad1 k1 cc1) (out.length + 2 + 1 + 1) (bCells (out ++ be n 4)) := by
    rw [bCells_append, be4 n h0 h1]
    simpa [List.append_assoc] using ho1
  have hS : WrIs (w1.setCell ⟨g, 1, none⟩ (.slice ad1 k1 cc1)) F g (out ++ be n 4) 0 := WrIs.stored hw0 (ho.alloc _) (hn.alloc _) hF ho1' ht1 (by simp [be])
  refine (keep_still _ ⟨w.heap.size, 0, none⟩ 0 0 .returning _ hS.fault ?_ (.inr rfl)).mono ?_
  · exact (Blk.far hE1 (p := ⟨g, 1, none⟩) (by simp; omega) _).cell 0
  rintro e u' w'' ⟨rfl, rfl, rfl⟩
  exact ⟨_, results_tmp rfl _ _ _, rfl, hS, (((Turn.refl F w).alloc hn _).trans (ht1.mono (Row.sub (ho.alloc _) (hn.alloc _)))).setCell hF _⟩


theorem num_any (F : Nat → Prop) (g : Nat) (out : List UInt8) (err : Int) (n b : Int) (w : World) (h : WrIs w F g out err) (hn : New F w) (hl : out.length + 4 ≤ 140737488355328) (hmax : n ≤ 9223372036854775807) :
    Calls Tryd.prog 18 #[.pointer (some ⟨g, 0, none⟩), .int .i64 n, .int .i64 b] w fun e w' => e = .returned (.pointer (some ⟨g, 0, none⟩)) ∧ WrIs w' F g (wNum (out, err) n b).1 (wNum (out, err) n b).2 ∧ Turn F w w' := by
  by_cases he : err = 0
  · subst he
    by_cases hs : sz b = false
    · have e : numErr n b = 1 := by unfold numErr; rw [if_pos hs]
      have e2 : wNum (out, 0) n b = ([], 1) := by unfold wNum; rw [if_neg (by simp), e, if_pos (by decide)]
      rw [e2]
      exact num_size F g out n b w h hn hs
    · by_cases hng : n < 0
      · have e : numErr n b = 5 := by unfold numErr; rw [if_neg hs, if_pos (.inl hng)]
        have e2 : wNum (out, 0) n b = ([], 5) := by unfold wNum; rw [if_neg (by simp), e, if_pos (by decide)]
        rw [e2]
        exact num_neg F g out n b w h hn (by simpa using hs) hng
      · have hb : b = 1 ∨ b = 2 ∨ b = 4 := by simp [sz] at hs; omega
        by_cases hw : (if b = 1 then 256 else if b = 2 then 65536 else 4294967296) ≤ n
        · have e : numErr n b = 5 := by unfold numErr; rw [if_neg hs, if_pos (.inr hw)]
          have e2 : wNum (out, 0) n b = ([], 5) := by unfold wNum; rw [if_neg (by simp), e, if_pos (by decide)]
          rw [e2]
          rcases hb with rfl | rfl | rfl
          · exact num_wide1 F g out n w h hn (by simpa using hw) hmax
          · exact num_wide2 F g out n w h hn (by simpa using hw) hmax
          · exact num_wide4 F g out n w h hn (by simpa using hw) hmax
        · have e : numErr n b = 0 := by unfold numErr; rw [if_neg hs, if_neg (by rintro (h | h) <;> contradiction)]
          have e2 : wNum (out, 0) n b = (out ++ be n b, 0) := by unfold wNum; rw [if_neg (by simp), e, if_neg (by decide)]
          rw [e2]
          rcases hb with rfl | rfl | rfl
          · exact num_good1 F g out n w h hn hl (by omega) (by simpa using hw)
          · exact num_good2 F g out n w h hn hl (by omega) (by simpa using hw)
          · exact num_good4 F g out n w h hn hl (by omega) (by simpa using hw)
  · have e2 : wNum (out, err) n b = (out, err) := by unfold wNum; rw [if_pos he]
    rw [e2]
    refine (num_stuck _ err n b w h.fault he).mono fun e w' ⟨h1, h2⟩ => ⟨h1, ?_, Turn.fresh h2 hn⟩
    exact h.fresh h2
end Go.Proofs.YtbhkegdohiekfaaDoor.oct
