/-
  What the listed variable gives the walks of crc; and that the program's own start lays it.
  Contracts of package octet's calls: what each answers, and what becomes of the memory. Conditions: as each states.
-/
import Derived.Test.YtdnkbgiellhfnaaDoorKitw
import Derived.Test.YtdnkbgiellhfnaaDoorCrcht
import Derived.Test.YtdnkbgiellhfnaaDoorMem
namespace Go.Proofs.YtdnkbgiellhfnaaDoor.kit
open Go.ChangeShapes Go.WideShapes Go.ChangeAt Go.RowKit Go.Proofs.YtdnkbgiellhfnaaDoor.sha

def listedC : List (String × DataW Unit) := [("petrel/crc.steps", Rows.laid_petrel_crc_steps)]
theorem gSteps : Tryd.prog.globalNamed "petrel/crc.steps" = some 0 := by kernel_rfl
theorem tSteps : (Tryd.prog.globals[0]?).map (·.type) = some 87 := by kernel_rfl
theorem door_metC (os : Os) (args : Array Value) : laidMetH Tryd.prog listedC ((World.doorLaid Tryd.prog 400 os).forCall (fun _ _ => 0) ⟨#[], args, []⟩).memory :=
  laidMetH_of_parts3 (fuel := 8) (laidMet_of_run' 8 (by kernel_rfl) (by kernel_rfl)) (by kernel_rfl) (by kernel_rfl)
theorem steps_of_laid {W : World} (h : laidMetH Tryd.prog listedC W) : crc.Tab W := by
  rw [MakeChecks.laidMetH_plain _ _ _ (by kernel_rfl)] at h
  obtain ⟨ps, ⟨g0, t0, cs0, f0, p0, q0, hg0, ht0, hv0, hd0, _, _⟩, _, _⟩ := h
  obtain rfl := Option.some.inj (gSteps.symm.trans hg0)
  obtain rfl := Option.some.inj (tSteps.symm.trans ht0)
  have k0 := words_of_trod crc.stepsL Tryd.underlying87 _ hd0
  have c0 : ∀ j, j < 16 → W.cell? ⟨0, j, none⟩ = some (.int .u32 (U (crc.stepsL.getD j 0))) := fun j hj => by
    rw [World.var?_cell hg0 hv0 j, ← k0 j hj rfl]
    simp
  exact ⟨block_lt_of_cell (c0 0 (by decide)), c0⟩
end Go.Proofs.YtdnkbgiellhfnaaDoor.kit

namespace Go.Proofs.YtdnkbgiellhfnaaDoor.oct
open Go.RowKit Go.Proofs.YtdnkbgiellhfnaaDoor.mem

/-- a Writer's block: itself, its bytes, its error -/
def WBlk (w : World) (g : Nat) (v : Value) (err : Int) : Prop := Blk w g 74 #[.pointer (some ⟨g, 0, none⟩), v, .int .i64 err]

theorem WBlk.c0 {w : World} {g : Nat} {v : Value} {err : Int} (h : WBlk w g v err) : w.cell? ⟨g, 0, none⟩ = some (.pointer (some ⟨g, 0, none⟩)) := Blk.cell h 0
theorem WBlk.c1 {w : World} {g : Nat} {v : Value} {err : Int} (h : WBlk w g v err) : w.cell? ⟨g, 1, none⟩ = some v := Blk.cell h 1
theorem WBlk.c2 {w : World} {g : Nat} {v : Value} {err : Int} (h : WBlk w g v err) : w.cell? ⟨g, 2, none⟩ = some (.int .i64 err) := Blk.cell h 2

theorem hasW : (Tryd.prog.info? 74).isSome = true := by kernel_rfl

theorem wr_neq (a : Addr) (w : World) : (binOp .neq 54 (.pointer (some a)) (.pointer (some a))).run Tryd.prog w = .ok (.bool false) w := by
  obtain ⟨j, hj⟩ := Option.isSome_iff_exists.1 hasW
  exact Lib.run_neq_ptr_same w a Tryd.underlying54 hj

/-- what fault tells of a Writer: nil, or one that nobody made: 8 -/
def WFault (w : World) (p : Option Addr) (e : Int) : Prop :=
  (p = none ∧ e = 8) ∨ ∃ g, p = some ⟨g, 0, none⟩ ∧ ((e = 8 ∧ Blk w g 74 #[.pointer none, .slice none 0 0, .int .i64 0]) ∨ ∃ v, WBlk w g v e)

theorem WFault.block {w w' : World} {p : Option Addr} {e : Int} (h : WFault w p e) (hb : Below w.heap.size w w') : WFault w' p e := by
  rcases h with h | ⟨g, hg, h | ⟨v, h⟩⟩
  · exact .inl h
  · exact .inr ⟨g, hg, .inl ⟨h.1, h.2.below hb h.2.lt⟩⟩
  · exact .inr ⟨g, hg, .inr ⟨v, Blk.below h hb (Blk.lt h)⟩⟩

theorem new_any (w : World) : Calls Tryd.prog 19 #[] w fun e w' =>
    e = .returned (.pointer (some ⟨w.heap.size, 0, none⟩)) ∧ WBlk w' w.heap.size (.slice none 0 0) 0 ∧ Below w.heap.size w w' := by
  go_enter Tryd.func19, Tryd.ntmps19
  go_wp2
  go_ret
  exact ⟨rfl, Blk.new _ _ _, (Below.refl _ w).alloc (Nat.le_refl _) _⟩

theorem fault_ok (g : Nat) (v : Value) (err : Int) (w : World) (h : WBlk w g v err) :
    Calls Tryd.prog 32 #[.pointer (some ⟨g, 0, none⟩)] w fun e w' => e = .returned (.int .i64 err) ∧ w = w' := by
  have h0 := h.c0
  have h2 := h.c2
  have hne := wr_neq
  go_enter Tryd.func32, Tryd.ntmps32
  go_wp2
  go_ret
  exact ⟨rfl, rfl⟩

theorem fault_nil (w : World) :
    Calls Tryd.prog 32 #[.pointer none] w fun e w' => e = .returned (.int .i64 8) ∧ w = w' := by
  go_enter Tryd.func32, Tryd.ntmps32
  go_wp2
  go_ret
  exact ⟨rfl, rfl⟩

theorem fault_zero (g : Nat) (w : World) (h : Blk w g 74 #[.pointer none, .slice none 0 0, .int .i64 0]) :
    Calls Tryd.prog 32 #[.pointer (some ⟨g, 0, none⟩)] w fun e w' => e = .returned (.int .i64 8) ∧ w = w' := by
  have h0 : w.cell? ⟨g, 0, none⟩ = some (.pointer none) := h.cell 0
  have hne := fun a w => neq_nil_left (t := 54) a w Tryd.underlying54
  go_enter Tryd.func32, Tryd.ntmps32
  go_wp2
  go_ret
  exact ⟨rfl, rfl⟩

theorem fault_any (p : Option Addr) (err : Int) (w : World) (h : WFault w p err) :
    Calls Tryd.prog 32 #[.pointer p] w fun e w' => e = .returned (.int .i64 err) ∧ w = w' := by
  rcases h with ⟨rfl, rfl⟩ | ⟨g, rfl, ⟨rfl, h⟩ | ⟨v, h⟩⟩
  · exact fault_nil w
  · exact fault_zero g w h
  · exact fault_ok g v err w h

/-- keep, deferred: where an error stands already, or none came: nothing turns -/
theorem keep_still (p : Option Addr) (eb : Addr) (e0 e1 : Int) (u : FrameMode) (w : World) (h : WFault w p e0) (hc : w.cell? eb = some (.int .i64 e1)) (hs : e0 ≠ 0 ∨ e1 = 0) :
    CallsD Tryd.prog 33 #[.pointer p, .pointer (some eb)] u w fun e u' w' => u' = u ∧ (e = .returned (.tuple #[]) ∧ w = w') := by
  by_cases h0 : e0 = 0
  · subst h0
    obtain rfl : e1 = 0 := hs.resolve_left (by simp)
    go_enter_d Tryd.func33, Tryd.ntmps33
    go_wp2_with (go_at_call 32; refine (fault_any _ _ _ h).mono ?_; rintro e w' ⟨rfl, rfl⟩)
    go_end0
    exact ⟨rfl, rfl⟩
  · have hd : (e0 == 0) = false := by simpa using h0
    clear hs
    go_enter_d Tryd.func33, Tryd.ntmps33
    go_wp2_with (go_at_call 32; refine (fault_any _ _ _ h).mono ?_; rintro e w' ⟨rfl, rfl⟩)
    go_end0
    exact ⟨rfl, rfl⟩

theorem keep_sets (g : Nat) (eb : Addr) (v : Value) (e1 : Int) (u : FrameMode) (w : World) (h : WBlk w g v 0) (hc : w.cell? eb = some (.int .i64 e1)) (h1 : e1 ≠ 0) :
    CallsD Tryd.prog 33 #[.pointer (some ⟨g, 0, none⟩), .pointer (some eb)] u w fun e u' w' =>
      u' = u ∧ (e = .returned (.tuple #[]) ∧ w' = (w.setCell ⟨g, 1, none⟩ (.slice none 0 0)).setCell ⟨g, 2, none⟩ (.int .i64 e1)) := by
  have hd : (!e1 == 0) = true := by simpa using h1
  have c1 := h.c1
  have c2 := h.c2
  have f1 : w.frozen? ⟨g, 1, none⟩ = false := Blk.frozen h 1
  have f2 : w.frozen? ⟨g, 2, none⟩ = false := Blk.frozen h 2
  go_enter_d Tryd.func33, Tryd.ntmps33
  go_wp2_with (go_at_call 32; refine (fault_ok _ _ _ _ h).mono ?_; rintro e w' ⟨rfl, rfl⟩)
  go_end0
  exact ⟨rfl, rfl⟩
end Go.Proofs.YtdnkbgiellhfnaaDoor.oct
