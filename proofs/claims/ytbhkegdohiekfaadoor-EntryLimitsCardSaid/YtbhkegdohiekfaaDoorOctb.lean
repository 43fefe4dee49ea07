/-
  An id's array as a slice of bytes, copied into, as a text, as a result.
  Contracts of package octet's calls: what each answers, and what becomes of the memory. Conditions: as each states.
  Contracts of package octet's calls, the second part: numbers appended.
-/
import Derived.Test.YtbhkegdohiekfaaDoorOpi
import Derived.Lib.Strings
import Derived.Test.YtbhkegdohiekfaaDoorMem
import Derived.Test.YtbhkegdohiekfaaDoorOctp
namespace Go.Proofs.YtbhkegdohiekfaaDoor.opn
open Go.RowKit Go.Proofs.YtbhkegdohiekfaaDoor.mem Go.Proofs.YtbhkegdohiekfaaDoor.sha Go.Proofs.YtbhkegdohiekfaaDoor.ids

/-- an array's whole as a slice of bytes -/
theorem run_slice_id (V : Nat) (w : World) : (Instr.sliceAt 23 (.pointer (some ⟨V, 0, none⟩)) none none none).run Tryd.prog w = .ok (.slice (some ⟨V, 0, none⟩) 32 32) w := by
  kernel_rfl
theorem info_u8 : (Tryd.prog.info? 5).map (·.size) = some 1 := by kernel_rfl
theorem byteCells_bv (l : List UInt8) : Lib.byteCells l = bv l := rfl
theorem results_idv {fn : Func} {p : Tmp} (h : fn.results = #[.cell p 23]) (tmps : Array Value) (w : World) (g : Nat) (t : TypeId) (y : Id)
    (hp : tmps.getD p undef = .pointer (some ⟨g, 0, none⟩)) (hg : Blk w g t (bv y).toArray) (hy : y.length = 32) :
    (results fn tmps).run Tryd.prog w = .ok (idv y) w := by
  have hp' : tmps[p]?.getD undef = .pointer (some ⟨g, 0, none⟩) := by simpa using hp
  have hl := run_loadVar_row w g t 23 (bv y).toArray (0, 0) _ hg Tryd.underlying23 rfl (by rw [info_id', List.size_toArray, bv_length, hy])
  simp [results, h, hp', asAddr, hl, idv]
theorem idcopy {y z : Id} (hy : y.length = 0 ∨ y.length = 32) (hz : z = mkId y) : ((bv zid).toArray.toList.take 0 ++ bv y ++ (bv zid).toArray.toList.drop (0 + y.length)).toArray = (bv z).toArray := by
  rw [List.take_zero, List.nil_append, Nat.zero_add]
  rcases hy with h | h
  · have e := List.eq_nil_of_length_eq_zero h
    rw [hz, e]
    rfl
  · rw [h, List.drop_of_length_le (by simp [bv_length, zid_len]), List.append_nil, hz]
    unfold mkId
    rw [if_neg (fun e => by rw [e] at h; simp at h)]
theorem run_exec_slice {P : Program} {ρ : Operand → Value} {o : Oper} {x : Operand} {t : TypeId} {p v : Value} {w : World} (ho : o.op = .slice t x none none none) (hx : ρ x = p) (h : (Instr.sliceAt t p none none none).run P w = .ok v w) :
    (execOp ρ o).run P w = .ok (.value v) w := by
  unfold execOp
  simp [ho, hx, h]
theorem idText (w : World) (g : Nat) (l : List UInt8) (hl : l.length = 32) (h : Blk w g 23 (bv l).toArray) : (convert 49 9 (.slice (some ⟨g, 0, none⟩) 32 32)).run Tryd.prog w = .ok (.string (oct.tx l)) w := by
  have hx := run_convert_bytes_back w 49 9 5 ⟨g, 0, none⟩ 32 l Tryd.underlying49 Tryd.underlying5 Tryd.underlying9 (fun j hj => by
    rw [Addr.add_lit, Nat.zero_add, h.cell, List.getElem?_toArray]
    unfold bv
    rw [List.getElem?_map, List.getElem?_eq_getElem hj]
    rfl)
  rw [hl] at hx
  exact hx
end Go.Proofs.YtbhkegdohiekfaaDoor.opn

namespace Go.Proofs.YtbhkegdohiekfaaDoor.oct
open Go.RowKit Go.Proofs.YtbhkegdohiekfaaDoor.mem

/-- a Writer's block: itself, its bytes, its error -/
def WBlk (w : World) (g : Nat) (v : Value) (err : Int) : Prop := Blk w g 76 #[.pointer (some ⟨g, 0, none⟩), v, .int .i64 err]

theorem WBlk.c0 {w : World} {g : Nat} {v : Value} {err : Int} (h : WBlk w g v err) : w.cell? ⟨g, 0, none⟩ = some (.pointer (some ⟨g, 0, none⟩)) := Blk.cell h 0
theorem WBlk.c1 {w : World} {g : Nat} {v : Value} {err : Int} (h : WBlk w g v err) : w.cell? ⟨g, 1, none⟩ = some v := Blk.cell h 1
theorem WBlk.c2 {w : World} {g : Nat} {v : Value} {err : Int} (h : WBlk w g v err) : w.cell? ⟨g, 2, none⟩ = some (.int .i64 err) := Blk.cell h 2

theorem hasW : (Tryd.prog.info? 76).isSome = true := by kernel_rfl

theorem wr_neq (a : Addr) (w : World) : (binOp .neq 51 (.pointer (some a)) (.pointer (some a))).run Tryd.prog w = .ok (.bool false) w := by
  obtain ⟨j, hj⟩ := Option.isSome_iff_exists.1 hasW
  exact Lib.run_neq_ptr_same w a Tryd.underlying51 hj

/-- what fault tells of a Writer: nil, or one that nobody made: 8 -/
def WFault (w : World) (p : Option Addr) (e : Int) : Prop :=
  (p = none ∧ e = 8) ∨ ∃ g, p = some ⟨g, 0, none⟩ ∧ ((e = 8 ∧ Blk w g 76 #[.pointer none, .slice none 0 0, .int .i64 0]) ∨ ∃ v, WBlk w g v e)

theorem WFault.block {w w' : World} {p : Option Addr} {e : Int} (h : WFault w p e) (hb : Below w.heap.size w w') : WFault w' p e := by
  rcases h with h | ⟨g, hg, h | ⟨v, h⟩⟩
  · exact .inl h
  · exact .inr ⟨g, hg, .inl ⟨h.1, h.2.below hb h.2.lt⟩⟩
  · exact .inr ⟨g, hg, .inr ⟨v, Blk.below h hb (Blk.lt h)⟩⟩

theorem new_any (w : World) : Calls Tryd.prog 17 #[] w fun e w' =>
    e = .returned (.pointer (some ⟨w.heap.size, 0, none⟩)) ∧ WBlk w' w.heap.size (.slice none 0 0) 0 ∧ Below w.heap.size w w' := by
  go_enter Tryd.func17, Tryd.ntmps17
  go_wp2
  go_ret
  exact ⟨rfl, Blk.new _ _ _, (Below.refl _ w).alloc (Nat.le_refl _) _⟩

theorem fault_ok (g : Nat) (v : Value) (err : Int) (w : World) (h : WBlk w g v err) :
    Calls Tryd.prog 41 #[.pointer (some ⟨g, 0, none⟩)] w fun e w' => e = .returned (.int .i64 err) ∧ w = w' := by
  have h0 := h.c0
  have h2 := h.c2
  have hne := wr_neq
  go_enter Tryd.func41, Tryd.ntmps41
  go_wp2
  go_ret
  exact ⟨rfl, rfl⟩

theorem fault_nil (w : World) :
    Calls Tryd.prog 41 #[.pointer none] w fun e w' => e = .returned (.int .i64 8) ∧ w = w' := by
  go_enter Tryd.func41, Tryd.ntmps41
  go_wp2
  go_ret
  exact ⟨rfl, rfl⟩

theorem fault_zero (g : Nat) (w : World) (h : Blk w g 76 #[.pointer none, .slice none 0 0, .int .i64 0]) :
    Calls Tryd.prog 41 #[.pointer (some ⟨g, 0, none⟩)] w fun e w' => e = .returned (.int .i64 8) ∧ w = w' := by
  have h0 : w.cell? ⟨g, 0, none⟩ = some (.pointer none) := h.cell 0
  have hne := fun a w => neq_nil_left (t := 51) a w Tryd.underlying51
  go_enter Tryd.func41, Tryd.ntmps41
  go_wp2
  go_ret
  exact ⟨rfl, rfl⟩

theorem fault_any (p : Option Addr) (err : Int) (w : World) (h : WFault w p err) :
    Calls Tryd.prog 41 #[.pointer p] w fun e w' => e = .returned (.int .i64 err) ∧ w = w' := by
  rcases h with ⟨rfl, rfl⟩ | ⟨g, rfl, ⟨rfl, h⟩ | ⟨v, h⟩⟩
  · exact fault_nil w
  · exact fault_zero g w h
  · exact fault_ok g v err w h

/-- keep, deferred: where an error stands already, or none came: nothing turns -/
theorem keep_still (p : Option Addr) (eb : Addr) (e0 e1 : Int) (u : FrameMode) (w : World) (h : WFault w p e0) (hc : w.cell? eb = some (.int .i64 e1)) (hs : e0 ≠ 0 ∨ e1 = 0) :
    CallsD Tryd.prog 42 #[.pointer p, .pointer (some eb)] u w fun e u' w' => u' = u ∧ (e = .returned (.tuple #[]) ∧ w = w') := by
  by_cases h0 : e0 = 0
  · subst h0
    obtain rfl : e1 = 0 := hs.resolve_left (by simp)
    go_enter_d Tryd.func42, Tryd.ntmps42
    go_wp2_with (go_at_call 41; refine (fault_any _ _ _ h).mono ?_; rintro e w' ⟨rfl, rfl⟩)
    go_end0
    exact ⟨rfl, rfl⟩
  · have hd : (e0 == 0) = false := by simpa using h0
    clear hs
    go_enter_d Tryd.func42, Tryd.ntmps42
    go_wp2_with (go_at_call 41; refine (fault_any _ _ _ h).mono ?_; rintro e w' ⟨rfl, rfl⟩)
    go_end0
    exact ⟨rfl, rfl⟩

theorem keep_sets (g : Nat) (eb : Addr) (v : Value) (e1 : Int) (u : FrameMode) (w : World) (h : WBlk w g v 0) (hc : w.cell? eb = some (.int .i64 e1)) (h1 : e1 ≠ 0) :
    CallsD Tryd.prog 42 #[.pointer (some ⟨g, 0, none⟩), .pointer (some eb)] u w fun e u' w' =>
      u' = u ∧ (e = .returned (.tuple #[]) ∧ w' = (w.setCell ⟨g, 1, none⟩ (.slice none 0 0)).setCell ⟨g, 2, none⟩ (.int .i64 e1)) := by
  have hd : (!e1 == 0) = true := by simpa using h1
  have c1 := h.c1
  have c2 := h.c2
  have f1 : w.frozen? ⟨g, 1, none⟩ = false := Blk.frozen h 1
  have f2 : w.frozen? ⟨g, 2, none⟩ = false := Blk.frozen h 2
  go_enter_d Tryd.func42, Tryd.ntmps42
  go_wp2_with (go_at_call 41; refine (fault_ok _ _ _ _ h).mono ?_; rintro e w' ⟨rfl, rfl⟩)
  go_end0
  exact ⟨rfl, rfl⟩
end Go.Proofs.YtbhkegdohiekfaaDoor.oct

namespace Go.Proofs.YtbhkegdohiekfaaDoor.oct
open Go.RowKit Go.Proofs.YtbhkegdohiekfaaDoor.mem

theorem isSize_any (n : Int) (w : World) : Calls Tryd.prog 43 #[.int .i64 n] w fun e w' => e = .returned (.bool (sz n)) ∧ w = w' := by
  by_cases h1 : n = 1
  · subst h1
    go_enter Tryd.func43, Tryd.ntmps43
    go_wp2
    go_ret
    exact ⟨rfl, rfl⟩
  · by_cases h2 : n = 2
    · subst h2
      go_enter Tryd.func43, Tryd.ntmps43
      go_wp2
      go_ret
      exact ⟨rfl, rfl⟩
    · have h1' : (n == 1) = false := by simpa using h1
      have h2' : (n == 2) = false := by simpa using h2
      have hz : sz n = (n == 4) := by unfold sz; rw [h1', h2']; rfl
      have HZ := Lib.hid hz
      clear hz
      go_enter Tryd.func43, Tryd.ntmps43
      go_wp2
      go_ret
      rw [HZ.out]
      exact ⟨rfl, rfl⟩

theorem app1 (F : Nat → Prop) (v : Value) (m : Nat) (xs : List Value) (n : Int) (w : World) (hown : Owns w F v m xs) (hn : New F w) (hm : m + 1 ≤ 140737488355328) :
    Calls Tryd.prog 44 #[v, .int .i64 n, .int .i64 1] w fun e w' => ∃ v', e = .returned v' ∧ Owns w' F v' (m + 1) (xs ++ [.int .u8 (n % 256)]) ∧ Turn F w w' := by
  go_enter Tryd.func44, Tryd.ntmps44
  go_wp2_with (at_builtin; go_must (refine wp_append_new rfl (.tmp 29) (.tmp 32) rfl F _ v m xs rfl hown [_] 1 rfl rfl (one1 _) (by omega) hn ?_); intro v1 w1 ho1 ht1)
  go_ret
  exact ⟨v1, rfl, ho1, ht1⟩

theorem app2 (F : Nat → Prop) (v : Value) (m : Nat) (xs : List Value) (n : Int) (w : World) (hown : Owns w F v m xs) (hn : New F w) (hm : m + 2 ≤ 140737488355328) (h0 : 0 ≤ n) (h1 : n < 65536) :
    Calls Tryd.prog 44 #[v, .int .i64 n, .int .i64 2] w fun e w' => ∃ v', e = .returned v' ∧ Owns w' F v' (m + 1 + 1) (xs ++ [.int .u8 (n / 256)] ++ [.int .u8 (n % 256)]) ∧ Turn F w w' := by
  go_enter Tryd.func44, Tryd.ntmps44
  go_wp2_with (first
    | (at_builtin; refine wp_append_new rfl (.tmp 23) (.tmp 27) rfl F _ v m xs rfl hown [_] 1 rfl rfl (one1 _) (by omega) hn ?_; intro v1 w1 ho1 ht1)
    | (at_builtin; go_must (refine wp_append_new rfl (.tmp 29) (.tmp 32) rfl F _ v1 (m + 1) _ rfl ho1 [_] 1 rfl rfl (one1 _) (by omega) (hn.turn ht1) ?_); intro v2 w2 ho2 ht2))
  go_ret
  exact ⟨v2, rfl, ho2, ht1.trans ht2⟩

theorem app4 (F : Nat → Prop) (v : Value) (m : Nat) (xs : List Value) (n : Int) (w : World) (hown : Owns w F v m xs) (hn : New F w) (hm : m + 4 ≤ 140737488355328) (h0 : 0 ≤ n) (h1 : n < 4294967296) :
    Calls Tryd.prog 44 #[v, .int .i64 n, .int .i64 4] w fun e w' => ∃ v', e = .returned v' ∧ Owns w' F v' (m + 2 + 1 + 1) (xs ++ [.int .u8 (n / 16777216), .int .u8 (n / 65536 % 256)] ++ [.int .u8 (n / 256 % 256)] ++ [.int .u8 (n % 256)]) ∧ Turn F w w' := by
  go_enter Tryd.func44, Tryd.ntmps44
  go_wp2_with (first
    | (at_builtin; refine wp_append_new rfl (.tmp 14) (.tmp 21) rfl F _ v m xs rfl hown [_, _] 2 rfl rfl (one2 _ _) (by omega) hn ?_; intro v1 w1 ho1 ht1)
    | (at_builtin; refine wp_append_new rfl (.tmp 23) (.tmp 27) rfl F _ v1 (m + 2) _ rfl ho1 [_] 1 rfl rfl (one1 _) (by omega) (hn.turn ht1) ?_; intro v2 w2 ho2 ht2)
    | (at_builtin; go_must (refine wp_append_new rfl (.tmp 29) (.tmp 32) rfl F _ v2 (m + 2 + 1) _ rfl ho2 [_] 1 rfl rfl (one1 _) (by omega) (hn.turn (ht1.trans ht2)) ?_); intro v3 w3 ho3 ht3))
  go_ret
  exact ⟨v3, rfl, ho3, (ht1.trans ht2).trans ht3⟩
end Go.Proofs.YtbhkegdohiekfaaDoor.oct
