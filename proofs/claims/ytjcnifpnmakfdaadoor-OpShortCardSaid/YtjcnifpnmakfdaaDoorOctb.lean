/-
  The landed op: Belongs, isKind, isNumber, given; the table of what kinds have (op.has, block 0).
  What the listed table of op gives the walks; and that the program's own start lays it.
  Contracts of package octet's calls: what each answers, and what becomes of the memory. Conditions: as each states.
  Contracts of package octet's calls, the second part: numbers appended.
-/
import Derived.Test.YtjcnifpnmakfdaaDoorOpwl
import Derived.Test.YtjcnifpnmakfdaaDoorIsb
import Derived.Test.YtjcnifpnmakfdaaDoorMem
import Derived.LaidMore
import Derived.Stop.Joined
import Derived.Test.YtjcnifpnmakfdaaDoorOctp
namespace Go.Proofs.YtjcnifpnmakfdaaDoor.opn
open Go.RowKit Go.Proofs.YtjcnifpnmakfdaaDoor.mem Go.Proofs.YtjcnifpnmakfdaaDoor.sha Go.Proofs.YtjcnifpnmakfdaaDoor.ids

def tabL : List Int := [0, 1, 4, 20, 7, 22, 12, 8]
/-- the table lies in block 0 -/
def Tab (w : World) : Prop := 1 ≤ w.heap.size ∧ ∀ j, j < 8 → w.cell? ⟨0, j, none⟩ = some (.int .i64 (tabL.getD j 0))
theorem Tab.next {w w' : World} (h : Tab w) (hb : Below w.heap.size w w') : Tab w' :=
  ⟨Nat.le_trans h.1 hb.size, fun j hj => (hb.cell (p := ⟨0, j, none⟩) (Nat.lt_of_lt_of_le (show 0 < 1 by decide) h.1)).trans (h.2 j hj)⟩

theorem lbelongs_any (k : Int) (w : World) : Calls Tryd.prog 14 #[.int .i64 k] w fun e w' => e = .returned (.int .i64 (belongs k)) ∧ w = w' := by
  by_cases h0 : 1 ≤ k ∧ k ≤ 7
  · rcases (show k = 1 ∨ k = 2 ∨ k = 3 ∨ k = 4 ∨ k = 5 ∨ k = 6 ∨ k = 7 by omega) with rfl | rfl | rfl | rfl | rfl | rfl | rfl
    all_goals
      go_enter Tryd.func14, Tryd.ntmps14
      go_wp2
      go_ret
      exact ⟨rfl, rfl⟩
  have b1 : (k == 1) = false := by simp; omega
  have b2 : (k == 2) = false := by simp; omega
  have b3 : (k == 3) = false := by simp; omega
  have b4 : (k == 4) = false := by simp; omega
  have b5 : (k == 5) = false := by simp; omega
  have b6 : (k == 6) = false := by simp; omega
  have b7 : (k == 7) = false := by simp; omega
  have e : belongs k = 0 := by
    unfold belongs
    rw [if_neg (by omega), if_neg (by omega), if_neg (by omega), if_neg (by omega), if_neg (by omega), if_neg (by omega), if_neg (by omega)]
  have HE := Lib.hid e
  clear e h0
  go_enter Tryd.func14, Tryd.ntmps14
  go_wp2
  go_ret
  rw [HE.out]
  exact ⟨rfl, rfl⟩

def kindB (k : Int) : Bool := decide (1 ≤ k ∧ k ≤ 7)
theorem kindB_eq (k : Int) : (belongs k != 0) = kindB k := by
  unfold kindB
  by_cases h0 : 1 ≤ k ∧ k ≤ 7
  · rcases (show k = 1 ∨ k = 2 ∨ k = 3 ∨ k = 4 ∨ k = 5 ∨ k = 6 ∨ k = 7 by omega) with rfl | rfl | rfl | rfl | rfl | rfl | rfl <;> decide
  · unfold belongs
    rw [if_neg (by omega), if_neg (by omega), if_neg (by omega), if_neg (by omega), if_neg (by omega), if_neg (by omega), if_neg (by omega), decide_eq_false h0]
    rfl
theorem kindB_has (k : Int) : kindB k = true ↔ has k ≠ [] := by
  unfold kindB
  by_cases h0 : 1 ≤ k ∧ k ≤ 7
  · refine iff_of_true (decide_eq_true h0) ?_
    rcases (show k = 1 ∨ k = 2 ∨ k = 3 ∨ k = 4 ∨ k = 5 ∨ k = 6 ∨ k = 7 by omega) with rfl | rfl | rfl | rfl | rfl | rfl | rfl <;> exact List.cons_ne_nil _ _
  · refine iff_of_false (by rw [decide_eq_false h0]; decide) (fun h => h ?_)
    unfold has
    rw [if_neg (by omega), if_neg (by omega), if_neg (by omega), if_neg (by omega), if_neg (by omega), if_neg (by omega), if_neg (by omega)]
theorem isKind_any (k : Int) (w : World) : Calls Tryd.prog 27 #[.int .i64 k] w fun e w' => e = .returned (.bool (kindB k)) ∧ w = w' := by
  have HK := Lib.hid (kindB_eq k)
  go_enter Tryd.func27, Tryd.ntmps27
  go_wp2_with (go_at_call 14; with_reducible refine (lbelongs_any _ _).mono ?_; rintro e w2 ⟨rfl, rfl⟩)
  go_ret
  rw [← HK.out]
  exact ⟨rfl, rfl⟩

def numB (k n : Int) : Bool := decide ((if k = 4 then 0 else -2147483648) ≤ n ∧ n < 2147483648)
set_option maxHeartbeats 1000000 in
theorem isNumber_any (k n : Int) (w : World) : Calls Tryd.prog 29 #[.int .i64 k, .int .i64 n] w fun e w' => e = .returned (.bool (numB k n)) ∧ w = w' := by
  by_cases hk : k = 4
  · subst hk
    by_cases h1 : 0 ≤ n
    · by_cases h2 : n < 2147483648
      · have HE : Hid (numB 4 n = true) := Lib.hid (decide_eq_true ⟨h1, h2⟩)
        go_enter Tryd.func29, Tryd.ntmps29
        go_wp2_with fail
        go_ret
        rw [HE.out]
        exact ⟨rfl, rfl⟩
      · have HE : Hid (numB 4 n = false) := Lib.hid (decide_eq_false fun h => h2 h.2)
        have h2 : 2147483648 ≤ n := by omega
        go_enter Tryd.func29, Tryd.ntmps29
        go_wp2_with fail
        go_ret
        rw [HE.out]
        exact ⟨rfl, rfl⟩
    · have HE : Hid (numB 4 n = false) := Lib.hid (decide_eq_false fun h => h1 h.1)
      have h1 : n < 0 := by omega
      go_enter Tryd.func29, Tryd.ntmps29
      go_wp2_with fail
      go_ret
      rw [HE.out]
      exact ⟨rfl, rfl⟩
  · have b4 : (k == 4) = false := beq_eq_false_iff_ne.2 hk
    by_cases h1 : -2147483648 ≤ n
    · by_cases h2 : n < 2147483648
      · have HE : Hid (numB k n = true) := Lib.hid (decide_eq_true (by rw [if_neg hk]; exact ⟨h1, h2⟩))
        clear hk
        go_enter Tryd.func29, Tryd.ntmps29
        go_wp2_with fail
        go_ret
        rw [HE.out]
        exact ⟨rfl, rfl⟩
      · have HE : Hid (numB k n = false) := Lib.hid (decide_eq_false fun h => h2 h.2)
        have h2 : 2147483648 ≤ n := by omega
        clear hk
        go_enter Tryd.func29, Tryd.ntmps29
        go_wp2_with fail
        go_ret
        rw [HE.out]
        exact ⟨rfl, rfl⟩
    · have HE : Hid (numB k n = false) := Lib.hid (decide_eq_false (by rw [if_neg hk]; exact fun h => h1 h.1))
      have h1 : n < -2147483648 := by omega
      clear hk
      go_enter Tryd.func29, Tryd.ntmps29
      go_wp2_with fail
      go_ret
      rw [HE.out]
      exact ⟨rfl, rfl⟩
end Go.Proofs.YtjcnifpnmakfdaaDoor.opn

namespace Go.Proofs.YtjcnifpnmakfdaaDoor.kit
open Go.ChangeShapes Go.WideShapes Go.ChangeAt Go.RowKit Go.Proofs.YtjcnifpnmakfdaaDoor.sha

/-- what the places of an array of numbers hold -/
theorem ints_of_trod {H : Type} {enc : TypeId × Value → H} {w : World} {base : Nat} {sp : Nat → Bool} {held : Bool} {fuel n : Nat} {t : TypeId} {p : List MemPlace} (L : List Int) (ht : Tryd.prog.underlying t = some (.array n 3)) (cs : List Value)
    (h : DataW.trod enc Tryd.prog w base sp held fuel t cs = some (.agg (L.map fun x => DataW.lit (.int .i64 x)), p)) (j : Nat) (hj : j < n) (hL : L.length = n) : cs[j]? = some (.int .i64 (L.getD j 0)) := by
  obtain ⟨xs, m1, rfl, hx1, hlen, hn, hel⟩ := DataW.trod_array ht h
  have c1 : Tryd.prog.cellsOf 3 = 1 := by kernel_rfl
  simp only [Prod.mk.injEq, DataW.agg.injEq] at hx1
  have hj2 := hel j hj
  rw [c1, Nat.mul_one] at hj2
  have hxj : xs[j]? = some (xs[j]'(by omega)) := List.getElem?_eq_getElem (by omega)
  rw [hxj] at hj2
  obtain ⟨k, e1, e2, _⟩ := DataW.trod_int Tryd.underlying3 hj2
  have hk : (xs.map (·.1))[j]? = some (.lit (.int .i64 k)) := by rw [List.getElem?_map, hxj]; simp [e2]
  have hLj : L[j]? = some (L[j]'(by rw [hL]; exact hj)) := List.getElem?_eq_getElem (by rw [hL]; exact hj)
  rw [← hx1.1, List.getElem?_map, hLj] at hk
  have hkU : (L[j]'(by rw [hL]; exact hj)) = k := by simpa using hk
  rw [List.getD_eq_getElem?_getD, hLj, Option.getD_some, hkU]
  have := congrArg (fun l : List Value => l[0]?) e1
  simpa [List.getElem?_take, List.getElem?_drop] using this

def listedO : List (String × DataW Unit) := [("petrel/op.has", Rows.laid_petrel_op_has)]
theorem gHas : Tryd.prog.globalNamed "petrel/op.has" = some 0 := by kernel_rfl
theorem tHas : (Tryd.prog.globals[0]?).map (·.type) = some 56 := by kernel_rfl
theorem door_metO (os : Os) (args : Array Value) : laidMetH Tryd.prog listedO ((World.doorLaid Tryd.prog 400 os).forCall (fun _ _ => 0) ⟨#[], args, []⟩).memory :=
  laidMetH_of_parts3 (fuel := 8) (laidMet_of_run' 8 (by kernel_rfl) (by kernel_rfl)) (by kernel_rfl) (by kernel_rfl)
theorem has_of_laid {W : World} (h : laidMetH Tryd.prog listedO W) : opn.Tab W := by
  rw [MakeChecks.laidMetH_plain _ _ _ (by kernel_rfl)] at h
  obtain ⟨ps, ⟨g0, t0, cs0, f0, p0, q0, hg0, ht0, hv0, hd0, _, _⟩, _, _⟩ := h
  obtain rfl := Option.some.inj (gHas.symm.trans hg0)
  obtain rfl := Option.some.inj (tHas.symm.trans ht0)
  have k0 := ints_of_trod opn.tabL Tryd.underlying56 _ hd0
  have c0 : ∀ j, j < 8 → W.cell? ⟨0, j, none⟩ = some (.int .i64 (opn.tabL.getD j 0)) := fun j hj => by
    rw [World.var?_cell hg0 hv0 j, ← k0 j hj rfl]
    simp
  exact ⟨block_lt_of_cell (c0 0 (by decide)), c0⟩
end Go.Proofs.YtjcnifpnmakfdaaDoor.kit

namespace Go.Proofs.YtjcnifpnmakfdaaDoor.oct
open Go.RowKit Go.Proofs.YtjcnifpnmakfdaaDoor.mem

/-- a Writer's block: itself, its bytes, its error -/
def WBlk (w : World) (g : Nat) (v : Value) (err : Int) : Prop := Blk w g 72 #[.pointer (some ⟨g, 0, none⟩), v, .int .i64 err]

theorem WBlk.c0 {w : World} {g : Nat} {v : Value} {err : Int} (h : WBlk w g v err) : w.cell? ⟨g, 0, none⟩ = some (.pointer (some ⟨g, 0, none⟩)) := Blk.cell h 0
theorem WBlk.c1 {w : World} {g : Nat} {v : Value} {err : Int} (h : WBlk w g v err) : w.cell? ⟨g, 1, none⟩ = some v := Blk.cell h 1
theorem WBlk.c2 {w : World} {g : Nat} {v : Value} {err : Int} (h : WBlk w g v err) : w.cell? ⟨g, 2, none⟩ = some (.int .i64 err) := Blk.cell h 2

theorem hasW : (Tryd.prog.info? 72).isSome = true := by kernel_rfl

theorem wr_neq (a : Addr) (w : World) : (binOp .neq 45 (.pointer (some a)) (.pointer (some a))).run Tryd.prog w = .ok (.bool false) w := by
  obtain ⟨j, hj⟩ := Option.isSome_iff_exists.1 hasW
  exact Lib.run_neq_ptr_same w a Tryd.underlying45 hj

/-- what fault tells of a Writer: nil, or one that nobody made: 8 -/
def WFault (w : World) (p : Option Addr) (e : Int) : Prop :=
  (p = none ∧ e = 8) ∨ ∃ g, p = some ⟨g, 0, none⟩ ∧ ((e = 8 ∧ Blk w g 72 #[.pointer none, .slice none 0 0, .int .i64 0]) ∨ ∃ v, WBlk w g v e)

theorem WFault.block {w w' : World} {p : Option Addr} {e : Int} (h : WFault w p e) (hb : Below w.heap.size w w') : WFault w' p e := by
  rcases h with h | ⟨g, hg, h | ⟨v, h⟩⟩
  · exact .inl h
  · exact .inr ⟨g, hg, .inl ⟨h.1, h.2.below hb h.2.lt⟩⟩
  · exact .inr ⟨g, hg, .inr ⟨v, Blk.below h hb (Blk.lt h)⟩⟩

theorem new_any (w : World) : Calls Tryd.prog 18 #[] w fun e w' =>
    e = .returned (.pointer (some ⟨w.heap.size, 0, none⟩)) ∧ WBlk w' w.heap.size (.slice none 0 0) 0 ∧ Below w.heap.size w w' := by
  go_enter Tryd.func18, Tryd.ntmps18
  go_wp2
  go_ret
  exact ⟨rfl, Blk.new _ _ _, (Below.refl _ w).alloc (Nat.le_refl _) _⟩

theorem fault_ok (g : Nat) (v : Value) (err : Int) (w : World) (h : WBlk w g v err) :
    Calls Tryd.prog 44 #[.pointer (some ⟨g, 0, none⟩)] w fun e w' => e = .returned (.int .i64 err) ∧ w = w' := by
  have h0 := h.c0
  have h2 := h.c2
  have hne := wr_neq
  go_enter Tryd.func44, Tryd.ntmps44
  go_wp2
  go_ret
  exact ⟨rfl, rfl⟩

theorem fault_nil (w : World) :
    Calls Tryd.prog 44 #[.pointer none] w fun e w' => e = .returned (.int .i64 8) ∧ w = w' := by
  go_enter Tryd.func44, Tryd.ntmps44
  go_wp2
  go_ret
  exact ⟨rfl, rfl⟩

theorem fault_zero (g : Nat) (w : World) (h : Blk w g 72 #[.pointer none, .slice none 0 0, .int .i64 0]) :
    Calls Tryd.prog 44 #[.pointer (some ⟨g, 0, none⟩)] w fun e w' => e = .returned (.int .i64 8) ∧ w = w' := by
  have h0 : w.cell? ⟨g, 0, none⟩ = some (.pointer none) := h.cell 0
  have hne := fun a w => neq_nil_left (t := 45) a w Tryd.underlying45
  go_enter Tryd.func44, Tryd.ntmps44
  go_wp2
  go_ret
  exact ⟨rfl, rfl⟩

theorem fault_any (p : Option Addr) (err : Int) (w : World) (h : WFault w p err) :
    Calls Tryd.prog 44 #[.pointer p] w fun e w' => e = .returned (.int .i64 err) ∧ w = w' := by
  rcases h with ⟨rfl, rfl⟩ | ⟨g, rfl, ⟨rfl, h⟩ | ⟨v, h⟩⟩
  · exact fault_nil w
  · exact fault_zero g w h
  · exact fault_ok g v err w h

/-- keep, deferred: where an error stands already, or none came: nothing turns -/
theorem keep_still (p : Option Addr) (eb : Addr) (e0 e1 : Int) (u : FrameMode) (w : World) (h : WFault w p e0) (hc : w.cell? eb = some (.int .i64 e1)) (hs : e0 ≠ 0 ∨ e1 = 0) :
    CallsD Tryd.prog 45 #[.pointer p, .pointer (some eb)] u w fun e u' w' => u' = u ∧ (e = .returned (.tuple #[]) ∧ w = w') := by
  by_cases h0 : e0 = 0
  · subst h0
    obtain rfl : e1 = 0 := hs.resolve_left (by simp)
    go_enter_d Tryd.func45, Tryd.ntmps45
    go_wp2_with (go_at_call 44; refine (fault_any _ _ _ h).mono ?_; rintro e w' ⟨rfl, rfl⟩)
    go_end0
    exact ⟨rfl, rfl⟩
  · have hd : (e0 == 0) = false := by simpa using h0
    clear hs
    go_enter_d Tryd.func45, Tryd.ntmps45
    go_wp2_with (go_at_call 44; refine (fault_any _ _ _ h).mono ?_; rintro e w' ⟨rfl, rfl⟩)
    go_end0
    exact ⟨rfl, rfl⟩

theorem keep_sets (g : Nat) (eb : Addr) (v : Value) (e1 : Int) (u : FrameMode) (w : World) (h : WBlk w g v 0) (hc : w.cell? eb = some (.int .i64 e1)) (h1 : e1 ≠ 0) :
    CallsD Tryd.prog 45 #[.pointer (some ⟨g, 0, none⟩), .pointer (some eb)] u w fun e u' w' =>
      u' = u ∧ (e = .returned (.tuple #[]) ∧ w' = (w.setCell ⟨g, 1, none⟩ (.slice none 0 0)).setCell ⟨g, 2, none⟩ (.int .i64 e1)) := by
  have hd : (!e1 == 0) = true := by simpa using h1
  have c1 := h.c1
  have c2 := h.c2
  have f1 : w.frozen? ⟨g, 1, none⟩ = false := Blk.frozen h 1
  have f2 : w.frozen? ⟨g, 2, none⟩ = false := Blk.frozen h 2
  go_enter_d Tryd.func45, Tryd.ntmps45
  go_wp2_with (go_at_call 44; refine (fault_ok _ _ _ _ h).mono ?_; rintro e w' ⟨rfl, rfl⟩)
  go_end0
  exact ⟨rfl, rfl⟩
end Go.Proofs.YtjcnifpnmakfdaaDoor.oct

namespace Go.Proofs.YtjcnifpnmakfdaaDoor.oct
open Go.RowKit Go.Proofs.YtjcnifpnmakfdaaDoor.mem

theorem isSize_any (n : Int) (w : World) : Calls Tryd.prog 46 #[.int .i64 n] w fun e w' => e = .returned (.bool (sz n)) ∧ w = w' := by
  by_cases h1 : n = 1
  · subst h1
    go_enter Tryd.func46, Tryd.ntmps46
    go_wp2
    go_ret
    exact ⟨rfl, rfl⟩
  · by_cases h2 : n = 2
    · subst h2
      go_enter Tryd.func46, Tryd.ntmps46
      go_wp2
      go_ret
      exact ⟨rfl, rfl⟩
    · have h1' : (n == 1) = false := by simpa using h1
      have h2' : (n == 2) = false := by simpa using h2
      have hz : sz n = (n == 4) := by unfold sz; rw [h1', h2']; rfl
      have HZ := Lib.hid hz
      clear hz
      go_enter Tryd.func46, Tryd.ntmps46
      go_wp2
      go_ret
      rw [HZ.out]
      exact ⟨rfl, rfl⟩

theorem app1 (F : Nat → Prop) (v : Value) (m : Nat) (xs : List Value) (n : Int) (w : World) (hown : Owns w F v m xs) (hn : New F w) (hm : m + 1 ≤ 140737488355328) :
    Calls Tryd.prog 47 #[v, .int .i64 n, .int .i64 1] w fun e w' => ∃ v', e = .returned v' ∧ Owns w' F v' (m + 1) (xs ++ [.int .u8 (n % 256)]) ∧ Turn F w w' := by
  go_enter Tryd.func47, Tryd.ntmps47
  go_wp2_with (at_builtin; go_must (refine wp_append_new rfl (.tmp 29) (.tmp 32) rfl F _ v m xs rfl hown [_] 1 rfl rfl (one1 _) (by omega) hn ?_); intro v1 w1 ho1 ht1)
  go_ret
  exact ⟨v1, rfl, ho1, ht1⟩

theorem app2 (F : Nat → Prop) (v : Value) (m : Nat) (xs : List Value) (n : Int) (w : World) (hown : Owns w F v m xs) (hn : New F w) (hm : m + 2 ≤ 140737488355328) (h0 : 0 ≤ n) (h1 : n < 65536) :
    Calls Tryd.prog 47 #[v, .int .i64 n, .int .i64 2] w fun e w' => ∃ v', e = .returned v' ∧ Owns w' F v' (m + 1 + 1) (xs ++ [.int .u8 (n / 256)] ++ [.int .u8 (n % 256)]) ∧ Turn F w w' := by
  go_enter Tryd.func47, Tryd.ntmps47
  go_wp2_with (first
    | (at_builtin; refine wp_append_new rfl (.tmp 23) (.tmp 27) rfl F _ v m xs rfl hown [_] 1 rfl rfl (one1 _) (by omega) hn ?_; intro v1 w1 ho1 ht1)
    | (at_builtin; go_must (refine wp_append_new rfl (.tmp 29) (.tmp 32) rfl F _ v1 (m + 1) _ rfl ho1 [_] 1 rfl rfl (one1 _) (by omega) (hn.turn ht1) ?_); intro v2 w2 ho2 ht2))
  go_ret
  exact ⟨v2, rfl, ho2, ht1.trans ht2⟩

theorem app4 (F : Nat → Prop) (v : Value) (m : Nat) (xs : List Value) (n : Int) (w : World) (hown : Owns w F v m xs) (hn : New F w) (hm : m + 4 ≤ 140737488355328) (h0 : 0 ≤ n) (h1 : n < 4294967296) :
    Calls Tryd.prog 47 #[v, .int .i64 n, .int .i64 4] w fun e w' => ∃ v', e = .returned v' ∧ Owns w' F v' (m + 2 + 1 + 1) (xs ++ [.int .u8 (n / 16777216), .int .u8 (n / 65536 % 256)] ++ [.int .u8 (n / 256 % 256)] ++ [.int .u8 (n % 256)]) ∧ Turn F w w' := by
  go_enter Tryd.func47, Tryd.ntmps47
  go_wp2_with (first
    | (at_builtin; refine wp_append_new rfl (.tmp 14) (.tmp 21) rfl F _ v m xs rfl hown [_, _] 2 rfl rfl (one2 _ _) (by omega) hn ?_; intro v1 w1 ho1 ht1)
    | (at_builtin; refine wp_append_new rfl (.tmp 23) (.tmp 27) rfl F _ v1 (m + 2) _ rfl ho1 [_] 1 rfl rfl (one1 _) (by omega) (hn.turn ht1) ?_; intro v2 w2 ho2 ht2)
    | (at_builtin; go_must (refine wp_append_new rfl (.tmp 29) (.tmp 32) rfl F _ v2 (m + 2 + 1) _ rfl ho2 [_] 1 rfl rfl (one1 _) (by omega) (hn.turn (ht1.trans ht2)) ?_); intro v3 w3 ho3 ht3))
  go_ret
  exact ⟨v3, rfl, ho3, (ht1.trans ht2).trans ht3⟩
end Go.Proofs.YtjcnifpnmakfdaaDoor.oct
