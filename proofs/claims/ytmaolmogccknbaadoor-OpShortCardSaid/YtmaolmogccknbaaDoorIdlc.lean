/-
  The landed op: Belongs, isKind, isNumber, given; the table of what kinds have (op.has, block 0).
  What the listed table of op gives the walks; and that the program's own start lays it.
  An id's array as a slice of bytes, copied into, as a text, as a result; ids one behind the other.
-/
import Derived.Test.YtmaolmogccknbaaDoorOpws
import Derived.Test.YtmaolmogccknbaaDoorIsb
import Derived.Test.YtmaolmogccknbaaDoorMem
import Derived.LaidMore
import Derived.Stop.Joined
import Derived.Test.YtmaolmogccknbaaDoorOpi
import Derived.Test.YtmaolmogccknbaaDoorOpr
import Derived.Lib.Strings
namespace Go.Proofs.YtmaolmogccknbaaDoor.opn
open Go.RowKit Go.Proofs.YtmaolmogccknbaaDoor.mem Go.Proofs.YtmaolmogccknbaaDoor.sha Go.Proofs.YtmaolmogccknbaaDoor.ids

def tabL : List Int := [0, 1, 4, 20, 7, 22, 12, 8]
/-- the table lies in block 0 -/
def Tab (w : World) : Prop := 0 + 1 ≤ w.heap.size ∧ ∀ j, j < 8 → w.cell? ⟨0, j, none⟩ = some (.int .i64 (tabL.getD j 0))
theorem Tab.next {w w' : World} (h : Tab w) (hb : Below w.heap.size w w') : Tab w' :=
  ⟨Nat.le_trans h.1 hb.size, fun j hj => (hb.cell (p := ⟨0, j, none⟩) (Nat.lt_of_lt_of_le (show 0 < 0 + 1 by decide) h.1)).trans (h.2 j hj)⟩

theorem lbelongs_any (k : Int) (w : World) : Calls Tryd.prog 18 #[.int .i64 k] w fun e w' => e = .returned (.int .i64 (belongs k)) ∧ w = w' := by
  by_cases h0 : 1 ≤ k ∧ k ≤ 7
  · rcases (show k = 1 ∨ k = 2 ∨ k = 3 ∨ k = 4 ∨ k = 5 ∨ k = 6 ∨ k = 7 by omega) with rfl | rfl | rfl | rfl | rfl | rfl | rfl
    all_goals
      go_enter Tryd.func18, Tryd.ntmps18
      go_wp2
      go_ret
      exact ⟨rfl, rfl⟩
  have b1 : (k == 1) = false := by simp; omega
  have b2 : (k == 2) = false := by simp; omega
  have b3 : (k == 3) = false := by simp; omega
  have b4 : (k == 4) = false := by simp; omega
  have b5 : (k == 5) = false := by simp; omega
  have b6 : (k == 6) = false := by simp; omega
  have b7 : (k == 7) = false := by simp; omega
  have e : belongs k = 0 := by
    unfold belongs
    rw [if_neg (by omega), if_neg (by omega), if_neg (by omega), if_neg (by omega), if_neg (by omega), if_neg (by omega), if_neg (by omega)]
  have HE := Lib.hid e
  clear e h0
  go_enter Tryd.func18, Tryd.ntmps18
  go_wp2
  go_ret
  rw [HE.out]
  exact ⟨rfl, rfl⟩

def kindB (k : Int) : Bool := decide (1 ≤ k ∧ k ≤ 7)
theorem kindB_eq (k : Int) : (belongs k != 0) = kindB k := by
  unfold kindB
  by_cases h0 : 1 ≤ k ∧ k ≤ 7
  · rcases (show k = 1 ∨ k = 2 ∨ k = 3 ∨ k = 4 ∨ k = 5 ∨ k = 6 ∨ k = 7 by omega) with rfl | rfl | rfl | rfl | rfl | rfl | rfl <;> decide
  · unfold belongs
    rw [if_neg (by omega), if_neg (by omega), if_neg (by omega), if_neg (by omega), if_neg (by omega), if_neg (by omega), if_neg (by omega), decide_eq_false h0]
    rfl
theorem kindB_has (k : Int) : kindB k = true ↔ has k ≠ [] := by
  unfold kindB
  by_cases h0 : 1 ≤ k ∧ k ≤ 7
  · refine iff_of_true (decide_eq_true h0) ?_
    rcases (show k = 1 ∨ k = 2 ∨ k = 3 ∨ k = 4 ∨ k = 5 ∨ k = 6 ∨ k = 7 by omega) with rfl | rfl | rfl | rfl | rfl | rfl | rfl <;> exact List.cons_ne_nil _ _
  · refine iff_of_false (by rw [decide_eq_false h0]; decide) (fun h => h ?_)
    unfold has
    rw [if_neg (by omega), if_neg (by omega), if_neg (by omega), if_neg (by omega), if_neg (by omega), if_neg (by omega), if_neg (by omega)]
theorem isKind_any (k : Int) (w : World) : Calls Tryd.prog 45 #[.int .i64 k] w fun e w' => e = .returned (.bool (kindB k)) ∧ w = w' := by
  have HK := Lib.hid (kindB_eq k)
  go_enter Tryd.func45, Tryd.ntmps45
  go_wp2_with (go_at_call 18; with_reducible refine (lbelongs_any _ _).mono ?_; rintro e w2 ⟨rfl, rfl⟩)
  go_ret
  rw [← HK.out]
  exact ⟨rfl, rfl⟩

def numB (k n : Int) : Bool := decide ((if k = 4 then 0 else -2147483648) ≤ n ∧ n < 2147483648)
set_option maxHeartbeats 1000000 in
theorem isNumber_any (k n : Int) (w : World) : Calls Tryd.prog 47 #[.int .i64 k, .int .i64 n] w fun e w' => e = .returned (.bool (numB k n)) ∧ w = w' := by
  by_cases hk : k = 4
  · subst hk
    by_cases h1 : 0 ≤ n
    · by_cases h2 : n < 2147483648
      · have HE : Hid (numB 4 n = true) := Lib.hid (decide_eq_true ⟨h1, h2⟩)
        go_enter Tryd.func47, Tryd.ntmps47
        go_wp2_with fail
        go_ret
        rw [HE.out]
        exact ⟨rfl, rfl⟩
      · have HE : Hid (numB 4 n = false) := Lib.hid (decide_eq_false fun h => h2 h.2)
        have h2 : 2147483648 ≤ n := by omega
        go_enter Tryd.func47, Tryd.ntmps47
        go_wp2_with fail
        go_ret
        rw [HE.out]
        exact ⟨rfl, rfl⟩
    · have HE : Hid (numB 4 n = false) := Lib.hid (decide_eq_false fun h => h1 h.1)
      have h1 : n < 0 := by omega
      go_enter Tryd.func47, Tryd.ntmps47
      go_wp2_with fail
      go_ret
      rw [HE.out]
      exact ⟨rfl, rfl⟩
  · have b4 : (k == 4) = false := beq_eq_false_iff_ne.2 hk
    by_cases h1 : -2147483648 ≤ n
    · by_cases h2 : n < 2147483648
      · have HE : Hid (numB k n = true) := Lib.hid (decide_eq_true (by rw [if_neg hk]; exact ⟨h1, h2⟩))
        clear hk
        go_enter Tryd.func47, Tryd.ntmps47
        go_wp2_with fail
        go_ret
        rw [HE.out]
        exact ⟨rfl, rfl⟩
      · have HE : Hid (numB k n = false) := Lib.hid (decide_eq_false fun h => h2 h.2)
        have h2 : 2147483648 ≤ n := by omega
        clear hk
        go_enter Tryd.func47, Tryd.ntmps47
        go_wp2_with fail
        go_ret
        rw [HE.out]
        exact ⟨rfl, rfl⟩
    · have HE : Hid (numB k n = false) := Lib.hid (decide_eq_false (by rw [if_neg hk]; exact fun h => h1 h.1))
      have h1 : n < -2147483648 := by omega
      clear hk
      go_enter Tryd.func47, Tryd.ntmps47
      go_wp2_with fail
      go_ret
      rw [HE.out]
      exact ⟨rfl, rfl⟩
end Go.Proofs.YtmaolmogccknbaaDoor.opn

namespace Go.Proofs.YtmaolmogccknbaaDoor.kit
open Go.ChangeShapes Go.WideShapes Go.ChangeAt Go.RowKit Go.Proofs.YtmaolmogccknbaaDoor.sha

/-- what the places of an array of numbers hold -/
theorem ints_of_trod {H : Type} {enc : TypeId × Value → H} {w : World} {base : Nat} {sp : Nat → Bool} {held : Bool} {fuel n : Nat} {t : TypeId} {p : List MemPlace} (L : List Int) (ht : Tryd.prog.underlying t = some (.array n 3)) (cs : List Value)
    (h : DataW.trod enc Tryd.prog w base sp held fuel t cs = some (.agg (L.map fun x => DataW.lit (.int .i64 x)), p)) (j : Nat) (hj : j < n) (hL : L.length = n) : cs[j]? = some (.int .i64 (L.getD j 0)) := by
  obtain ⟨xs, m1, rfl, hx1, hlen, hn, hel⟩ := DataW.trod_array ht h
  have c1 : Tryd.prog.cellsOf 3 = 1 := by kernel_rfl
  simp only [Prod.mk.injEq, DataW.agg.injEq] at hx1
  have hj2 := hel j hj
  rw [c1, Nat.mul_one] at hj2
  have hxj : xs[j]? = some (xs[j]'(by omega)) := List.getElem?_eq_getElem (by omega)
  rw [hxj] at hj2
  obtain ⟨k, e1, e2, _⟩ := DataW.trod_int Tryd.underlying3 hj2
  have hk : (xs.map (·.1))[j]? = some (.lit (.int .i64 k)) := by rw [List.getElem?_map, hxj]; simp [e2]
  have hLj : L[j]? = some (L[j]'(by rw [hL]; exact hj)) := List.getElem?_eq_getElem (by rw [hL]; exact hj)
  rw [← hx1.1, List.getElem?_map, hLj] at hk
  have hkU : (L[j]'(by rw [hL]; exact hj)) = k := by simpa using hk
  rw [List.getD_eq_getElem?_getD, hLj, Option.getD_some, hkU]
  have := congrArg (fun l : List Value => l[0]?) e1
  simpa [List.getElem?_take, List.getElem?_drop] using this

def listedO : List (String × DataW Unit) := [("petrel/op.has", Rows.laid_petrel_op_has)]
theorem gHas : Tryd.prog.globalNamed "petrel/op.has" = some 0 := by kernel_rfl
theorem tHas : (Tryd.prog.globals[0]?).map (·.type) = some 75 := by kernel_rfl
theorem door_metO (os : Os) (args : Array Value) : laidMetH Tryd.prog listedO ((World.doorLaid Tryd.prog 400 os).forCall (fun _ _ => 0) ⟨#[], args, []⟩).memory :=
  laidMetH_of_parts3 (fuel := 8) (laidMet_of_run' 8 (by kernel_rfl) (by kernel_rfl)) (by kernel_rfl) (by kernel_rfl)
theorem has_of_laid {W : World} (h : laidMetH Tryd.prog listedO W) : opn.Tab W := by
  rw [MakeChecks.laidMetH_plain _ _ _ (by kernel_rfl)] at h
  obtain ⟨ps, ⟨g0, t0, cs0, f0, p0, q0, hg0, ht0, hv0, hd0, _, _⟩, _, _⟩ := h
  obtain rfl := Option.some.inj (gHas.symm.trans hg0)
  obtain rfl := Option.some.inj (tHas.symm.trans ht0)
  have k0 := ints_of_trod opn.tabL Tryd.underlying75 _ hd0
  have c0 : ∀ j, j < 8 → W.cell? ⟨0, j, none⟩ = some (.int .i64 (opn.tabL.getD j 0)) := fun j hj => by
    rw [World.var?_cell hg0 hv0 j, ← k0 j hj rfl]
    simp
  exact ⟨block_lt_of_cell (c0 0 (by decide)), c0⟩
end Go.Proofs.YtmaolmogccknbaaDoor.kit

namespace Go.Proofs.YtmaolmogccknbaaDoor.opn
open Go.RowKit Go.Proofs.YtmaolmogccknbaaDoor.mem Go.Proofs.YtmaolmogccknbaaDoor.sha Go.Proofs.YtmaolmogccknbaaDoor.ids

/-- an array's whole as a slice of bytes -/
theorem run_slice_id (V : Nat) (w : World) : (Instr.sliceAt 23 (.pointer (some ⟨V, 0, none⟩)) none none none).run Tryd.prog w = .ok (.slice (some ⟨V, 0, none⟩) 32 32) w := by
  kernel_rfl
theorem info_u8 : (Tryd.prog.info? 5).map (·.size) = some 1 := by kernel_rfl
theorem byteCells_bv (l : List UInt8) : Lib.byteCells l = bv l := rfl
theorem results_idv {fn : Func} {p : Tmp} (h : fn.results = #[.cell p 23]) (tmps : Array Value) (w : World) (g : Nat) (t : TypeId) (y : Id)
    (hp : tmps.getD p undef = .pointer (some ⟨g, 0, none⟩)) (hg : Blk w g t (bv y).toArray) (hy : y.length = 32) :
    (results fn tmps).run Tryd.prog w = .ok (idv y) w := by
  have hp' : tmps[p]?.getD undef = .pointer (some ⟨g, 0, none⟩) := by simpa using hp
  have hl := run_loadVar_row w g t 23 (bv y).toArray (0, 0) _ hg Tryd.underlying23 rfl (by rw [info_id', List.size_toArray, bv_length, hy])
  simp [results, h, hp', asAddr, hl, idv]
theorem idcopy {y z : Id} (hy : y.length = 0 ∨ y.length = 32) (hz : z = mkId y) : ((bv zid).toArray.toList.take 0 ++ bv y ++ (bv zid).toArray.toList.drop (0 + y.length)).toArray = (bv z).toArray := by
  rw [List.take_zero, List.nil_append, Nat.zero_add]
  rcases hy with h | h
  · have e := List.eq_nil_of_length_eq_zero h
    rw [hz, e]
    rfl
  · rw [h, List.drop_of_length_le (by simp [bv_length, zid_len]), List.append_nil, hz]
    unfold mkId
    rw [if_neg (fun e => by rw [e] at h; simp at h)]
theorem run_exec_slice {P : Program} {ρ : Operand → Value} {o : Oper} {x : Operand} {t : TypeId} {p v : Value} {w : World} (ho : o.op = .slice t x none none none) (hx : ρ x = p) (h : (Instr.sliceAt t p none none none).run P w = .ok v w) :
    (execOp ρ o).run P w = .ok (.value v) w := by
  unfold execOp
  simp [ho, hx, h]
theorem idText (w : World) (g : Nat) (l : List UInt8) (hl : l.length = 32) (h : Blk w g 23 (bv l).toArray) : (convert 103 9 (.slice (some ⟨g, 0, none⟩) 32 32)).run Tryd.prog w = .ok (.string (oct.tx l)) w := by
  have hx := run_convert_bytes_back w 103 9 5 ⟨g, 0, none⟩ 32 l Tryd.underlying103 Tryd.underlying5 Tryd.underlying9 (fun j hj => by
    rw [Addr.add_lit, Nat.zero_add, h.cell, List.getElem?_toArray]
    unfold bv
    rw [List.getElem?_map, List.getElem?_eq_getElem hj]
    rfl)
  rw [hl] at hx
  exact hx
/-- what has been written of a list -/
theorem flat_snoc (L : List Id) (k : Nat) (h : k < L.length) : (L.take (k + 1)).flatten = (L.take k).flatten ++ L.getD k [] := by
  rw [List.take_succ_eq_append_getElem h, List.flatten_append, List.getD_eq_getElem?_getD, List.getElem?_eq_getElem h]
  simp
theorem flat_take_len {L : List Id} (h : okIds L) (k : Nat) : ((L.take k).flatten).length = min k L.length * 32 := by
  rw [flat_len (h.take k), List.length_take]
end Go.Proofs.YtmaolmogccknbaaDoor.opn
