/-
  An id's array as a slice of bytes, copied into, as a text, as a result.
  Contracts of package octet's calls: what each answers, and what becomes of the memory. Conditions: as each states.
  Contracts of package octet's calls, the second part: numbers appended.
  Contracts of package octet's Writer: what each call answers and leaves, whatever it is given.
  Contracts of package octet's Writer, the rest: Text, Raw, Done.
  octet's Writer: numbers and raw bytes behind what was written.
  The landed wire: PutId.
  Ids one behind the other, as bytes.
  The landed wire: PutIds.
  The landed wire: PutText.
-/
import Derived.Test.YtpeneeddfgmjpaaGreatDoorOpd
import Derived.Lib.Strings
import Derived.Lib.UnsafeStr
import Derived.Outline
import Derived.Deep.RegionWith
import Derived.Deep.CutRange
import Derived.Deep.CutBlock
import Derived.Test.YtpeneeddfgmjpaaGreatDoorIda
import Derived.Laws.IdiomStrings
import Derived.Laws.BytesArg
import Derived.Test.YtpeneeddfgmjpaaGreatDoorOpp
import Derived.Test.YtpeneeddfgmjpaaGreatDoorHdm
import Derived.Test.YtpeneeddfgmjpaaGreatDoorIds
namespace Go.Proofs.YtpeneeddfgmjpaaGreatDoor.opn
open Go.RowKit Go.Proofs.YtpeneeddfgmjpaaGreatDoor.mem Go.Proofs.YtpeneeddfgmjpaaGreatDoor.sha Go.Proofs.YtpeneeddfgmjpaaGreatDoor.ids

/-- an array's whole as a slice of bytes -/
theorem run_slice_id (V : Nat) (w : World) : (Instr.sliceAt 24 (.pointer (some ⟨V, 0, none⟩)) none none none).run Tryz.prog w = .ok (.slice (some ⟨V, 0, none⟩) 32 32) w := by
 kernel_rfl
theorem info_u8 : (Tryz.prog.info? 5).map (·.size) = some 1 := by kernel_rfl
theorem byteCells_bv (l : List UInt8) : Lib.byteCells l = bv l := rfl
theorem results_idv {fn : Func} {p : Tmp} (h : fn.results = #[.cell p 24]) (tmps : Array Value) (w : World) (g : Nat) (t : TypeId) (y : Id)
  (hp : tmps.getD p undef = .pointer (some ⟨g, 0, none⟩)) (hg : Blk w g t (bv y).toArray) (hy : y.length = 32) :
  (results fn tmps).run Tryz.prog w = .ok (idv y) w := by
 have hp' : tmps[p]?.getD undef = .pointer (some ⟨g, 0, none⟩) := by simpa using hp
 have hl := run_loadVar_row w g t 24 (bv y).toArray (0, 0) _ hg Tryz.underlying24 rfl (by rw [info_id', List.size_toArray, bv_length, hy])
 simp [results, h, hp', asAddr, hl, idv]
theorem idcopy {y z : Id} (hy : y.length = 0 ∨ y.length = 32) (hz : z = mkId y) : ((bv zid).toArray.toList.take 0 ++ bv y ++ (bv zid).toArray.toList.drop (0 + y.length)).toArray = (bv z).toArray := by
 rw [List.take_zero, List.nil_append, Nat.zero_add]
 rcases hy with h | h
 ·
  have e := List.eq_nil_of_length_eq_zero h
  rw [hz, e]
  rfl
 ·
  rw [h, List.drop_of_length_le (by simp [bv_length, zid_len]), List.append_nil, hz]
  unfold mkId
  rw [if_neg (fun e => by rw [e] at h; simp at h)]
theorem run_exec_slice {P : Program} {ρ : Operand → Value} {o : Oper} {x : Operand} {t : TypeId} {p v : Value} {w : World} (ho : o.op = .slice t x none none none) (hx : ρ x = p) (h : (Instr.sliceAt t p none none none).run P w = .ok v w) :
  (execOp ρ o).run P w = .ok (.value v) w := by
 unfold execOp
 simp [ho, hx, h]
theorem idText (w : World) (g : Nat) (l : List UInt8) (hl : l.length = 32) (h : Blk w g 24 (bv l).toArray) : (convert 42 9 (.slice (some ⟨g, 0, none⟩) 32 32)).run Tryz.prog w = .ok (.string (oct.tx l)) w := by
 have hx := run_convert_bytes_back w 42 9 5 ⟨g, 0, none⟩ 32 l Tryz.underlying42 Tryz.underlying5 Tryz.underlying9 (fun j hj => by
  rw [Addr.add_lit, Nat.zero_add, h.cell, List.getElem?_toArray]
  unfold bv
  rw [List.getElem?_map, List.getElem?_eq_getElem hj]
  rfl)
 rw [hl] at hx
 exact hx
end Go.Proofs.YtpeneeddfgmjpaaGreatDoor.opn

namespace Go.Proofs.YtpeneeddfgmjpaaGreatDoor.oct
open Go.RowKit Go.Proofs.YtpeneeddfgmjpaaGreatDoor.mem

/-- a Writer's block: itself, its bytes, its error -/
def WBlk (w : World) (g : Nat) (v : Value) (err : Int) : Prop := Blk w g 146 #[.pointer (some ⟨g, 0, none⟩), v, .int .i64 err]

theorem WBlk.c0 {w : World} {g : Nat} {v : Value} {err : Int} (h : WBlk w g v err) : w.cell? ⟨g, 0, none⟩ = some (.pointer (some ⟨g, 0, none⟩)) := Blk.cell h 0
theorem WBlk.c1 {w : World} {g : Nat} {v : Value} {err : Int} (h : WBlk w g v err) : w.cell? ⟨g, 1, none⟩ = some v := Blk.cell h 1
theorem WBlk.c2 {w : World} {g : Nat} {v : Value} {err : Int} (h : WBlk w g v err) : w.cell? ⟨g, 2, none⟩ = some (.int .i64 err) := Blk.cell h 2

theorem hasW : (Tryz.prog.info? 146).isSome = true := by kernel_rfl

theorem wr_neq (a : Addr) (w : World) : (binOp .neq 111 (.pointer (some a)) (.pointer (some a))).run Tryz.prog w = .ok (.bool false) w := by
 obtain ⟨j, hj⟩ := Option.isSome_iff_exists.1 hasW
 exact Lib.run_neq_ptr_same w a Tryz.underlying111 hj

/-- what fault tells of a Writer: nil, or one that nobody made: 8 -/
def WFault (w : World) (p : Option Addr) (e : Int) : Prop :=
 (p = none ∧ e = 8) ∨ ∃ g, p = some ⟨g, 0, none⟩ ∧ ((e = 8 ∧ Blk w g 146 #[.pointer none, .slice none 0 0, .int .i64 0]) ∨ ∃ v, WBlk w g v e)

theorem WFault.block {w w' : World} {p : Option Addr} {e : Int} (h : WFault w p e) (hb : Below w.heap.size w w') : WFault w' p e := by
 rcases h with h | ⟨g, hg, h | ⟨v, h⟩⟩
 ·
  exact .inl h
 ·
  exact .inr ⟨g, hg, .inl ⟨h.1, h.2.below hb h.2.lt⟩⟩
 ·
  exact .inr ⟨g, hg, .inr ⟨v, Blk.below h hb (Blk.lt h)⟩⟩

theorem new_any (w : World) : Calls Tryz.prog 79 #[] w fun e w' =>
  e = .returned (.pointer (some ⟨w.heap.size, 0, none⟩)) ∧ WBlk w' w.heap.size (.slice none 0 0) 0 ∧ Below w.heap.size w w' := by
 go_enter Tryz.func79, Tryz.ntmps79
 go_wp2
 go_ret
 exact ⟨rfl, Blk.new _ _ _, (Below.refl _ w).alloc (Nat.le_refl _) _⟩

theorem fault_ok (g : Nat) (v : Value) (err : Int) (w : World) (h : WBlk w g v err) :
  Calls Tryz.prog 103 #[.pointer (some ⟨g, 0, none⟩)] w fun e w' => e = .returned (.int .i64 err) ∧ w = w' := by
 have h0 := h.c0
 have h2 := h.c2
 have hne := wr_neq
 go_enter Tryz.func103, Tryz.ntmps103
 go_wp2
 go_ret
 exact ⟨rfl, rfl⟩

theorem fault_nil (w : World) :
  Calls Tryz.prog 103 #[.pointer none] w fun e w' => e = .returned (.int .i64 8) ∧ w = w' := by
 go_enter Tryz.func103, Tryz.ntmps103
 go_wp2
 go_ret
 exact ⟨rfl, rfl⟩

theorem fault_zero (g : Nat) (w : World) (h : Blk w g 146 #[.pointer none, .slice none 0 0, .int .i64 0]) :
  Calls Tryz.prog 103 #[.pointer (some ⟨g, 0, none⟩)] w fun e w' => e = .returned (.int .i64 8) ∧ w = w' := by
 have h0 : w.cell? ⟨g, 0, none⟩ = some (.pointer none) := h.cell 0
 have hne := fun a w => neq_nil_left (t := 111) a w Tryz.underlying111
 go_enter Tryz.func103, Tryz.ntmps103
 go_wp2
 go_ret
 exact ⟨rfl, rfl⟩

theorem fault_any (p : Option Addr) (err : Int) (w : World) (h : WFault w p err) :
  Calls Tryz.prog 103 #[.pointer p] w fun e w' => e = .returned (.int .i64 err) ∧ w = w' := by
 rcases h with ⟨rfl, rfl⟩ | ⟨g, rfl, ⟨rfl, h⟩ | ⟨v, h⟩⟩
 ·
  exact fault_nil w
 ·
  exact fault_zero g w h
 ·
  exact fault_ok g v err w h

/-- keep, deferred: where an error stands already, or none came: nothing turns -/
theorem keep_still (p : Option Addr) (eb : Addr) (e0 e1 : Int) (u : FrameMode) (w : World) (h : WFault w p e0) (hc : w.cell? eb = some (.int .i64 e1)) (hs : e0 ≠ 0 ∨ e1 = 0) :
  CallsD Tryz.prog 104 #[.pointer p, .pointer (some eb)] u w fun e u' w' => u' = u ∧ (e = .returned (.tuple #[]) ∧ w = w') := by
 by_cases h0 : e0 = 0
 ·
  subst h0
  obtain rfl : e1 = 0 := hs.resolve_left (by simp)
  go_enter_d Tryz.func104, Tryz.ntmps104
  go_wp2_with (go_at_call 103; refine (fault_any _ _ _ h).mono ?_; rintro e w' ⟨rfl, rfl⟩)
  go_end0
  exact ⟨rfl, rfl⟩
 ·
  have hd : (e0 == 0) = false := by simpa using h0
  clear hs
  go_enter_d Tryz.func104, Tryz.ntmps104
  go_wp2_with (go_at_call 103; refine (fault_any _ _ _ h).mono ?_; rintro e w' ⟨rfl, rfl⟩)
  go_end0
  exact ⟨rfl, rfl⟩

theorem keep_sets (g : Nat) (eb : Addr) (v : Value) (e1 : Int) (u : FrameMode) (w : World) (h : WBlk w g v 0) (hc : w.cell? eb = some (.int .i64 e1)) (h1 : e1 ≠ 0) :
  CallsD Tryz.prog 104 #[.pointer (some ⟨g, 0, none⟩), .pointer (some eb)] u w fun e u' w' =>
   u' = u ∧ (e = .returned (.tuple #[]) ∧ w' = (w.setCell ⟨g, 1, none⟩ (.slice none 0 0)).setCell ⟨g, 2, none⟩ (.int .i64 e1)) := by
 have hd : (!e1 == 0) = true := by simpa using h1
 have c1 := h.c1
 have c2 := h.c2
 have f1 : w.frozen? ⟨g, 1, none⟩ = false := Blk.frozen h 1
 have f2 : w.frozen? ⟨g, 2, none⟩ = false := Blk.frozen h 2
 go_enter_d Tryz.func104, Tryz.ntmps104
 go_wp2_with (go_at_call 103; refine (fault_ok _ _ _ _ h).mono ?_; rintro e w' ⟨rfl, rfl⟩)
 go_end0
 exact ⟨rfl, rfl⟩
end Go.Proofs.YtpeneeddfgmjpaaGreatDoor.oct

namespace Go.Proofs.YtpeneeddfgmjpaaGreatDoor.oct
open Go.RowKit Go.Proofs.YtpeneeddfgmjpaaGreatDoor.mem

theorem isSize_any (n : Int) (w : World) : Calls Tryz.prog 105 #[.int .i64 n] w fun e w' => e = .returned (.bool (sz n)) ∧ w = w' := by
 by_cases h1 : n = 1
 ·
  subst h1
  go_enter Tryz.func105, Tryz.ntmps105
  go_wp2
  go_ret
  exact ⟨rfl, rfl⟩
 ·
  by_cases h2 : n = 2
  ·
   subst h2
   go_enter Tryz.func105, Tryz.ntmps105
   go_wp2
   go_ret
   exact ⟨rfl, rfl⟩
  ·
   have h1' : (n == 1) = false := by simpa using h1
   have h2' : (n == 2) = false := by simpa using h2
   have hz : sz n = (n == 4) := by unfold sz; rw [h1', h2']; rfl
   have HZ := Lib.hid hz
   clear hz
   go_enter Tryz.func105, Tryz.ntmps105
   go_wp2
   go_ret
   rw [HZ.out]
   exact ⟨rfl, rfl⟩

theorem app1 (F : Nat → Prop) (v : Value) (m : Nat) (xs : List Value) (n : Int) (w : World) (hown : Owns w F v m xs) (hn : New F w) (hm : m + 1 ≤ 140737488355328) :
  Calls Tryz.prog 106 #[v, .int .i64 n, .int .i64 1] w fun e w' => ∃ v', e = .returned v' ∧ Owns w' F v' (m + 1) (xs ++ [.int .u8 (n % 256)]) ∧ Turn F w w' := by
 go_enter Tryz.func106, Tryz.ntmps106
 go_wp2_with (at_builtin; go_must (refine wp_append_new rfl (.tmp 29) (.tmp 32) rfl F _ v m xs rfl hown [_] 1 rfl rfl (one1 _) (by omega) hn ?_); intro v1 w1 ho1 ht1)
 go_ret
 exact ⟨v1, rfl, ho1, ht1⟩

theorem app2 (F : Nat → Prop) (v : Value) (m : Nat) (xs : List Value) (n : Int) (w : World) (hown : Owns w F v m xs) (hn : New F w) (hm : m + 2 ≤ 140737488355328) (h0 : 0 ≤ n) (h1 : n < 65536) :
  Calls Tryz.prog 106 #[v, .int .i64 n, .int .i64 2] w fun e w' => ∃ v', e = .returned v' ∧ Owns w' F v' (m + 1 + 1) (xs ++ [.int .u8 (n / 256)] ++ [.int .u8 (n % 256)]) ∧ Turn F w w' := by
 go_enter Tryz.func106, Tryz.ntmps106
 go_wp2_with (first
  | (at_builtin; refine wp_append_new rfl (.tmp 23) (.tmp 27) rfl F _ v m xs rfl hown [_] 1 rfl rfl (one1 _) (by omega) hn ?_; intro v1 w1 ho1 ht1)
  | (at_builtin; go_must (refine wp_append_new rfl (.tmp 29) (.tmp 32) rfl F _ v1 (m + 1) _ rfl ho1 [_] 1 rfl rfl (one1 _) (by omega) (hn.turn ht1) ?_); intro v2 w2 ho2 ht2))
 go_ret
 exact ⟨v2, rfl, ho2, ht1.trans ht2⟩

theorem app4 (F : Nat → Prop) (v : Value) (m : Nat) (xs : List Value) (n : Int) (w : World) (hown : Owns w F v m xs) (hn : New F w) (hm : m + 4 ≤ 140737488355328) (h0 : 0 ≤ n) (h1 : n < 4294967296) :
  Calls Tryz.prog 106 #[v, .int .i64 n, .int .i64 4] w fun e w' => ∃ v', e = .returned v' ∧ Owns w' F v' (m + 2 + 1 + 1) (xs ++ [.int .u8 (n / 16777216), .int .u8 (n / 65536 % 256)] ++ [.int .u8 (n / 256 % 256)] ++ [.int .u8 (n % 256)]) ∧ Turn F w w' := by
 go_enter Tryz.func106, Tryz.ntmps106
 go_wp2_with (first
  | (at_builtin; refine wp_append_new rfl (.tmp 14) (.tmp 21) rfl F _ v m xs rfl hown [_, _] 2 rfl rfl (one2 _ _) (by omega) hn ?_; intro v1 w1 ho1 ht1)
  | (at_builtin; refine wp_append_new rfl (.tmp 23) (.tmp 27) rfl F _ v1 (m + 2) _ rfl ho1 [_] 1 rfl rfl (one1 _) (by omega) (hn.turn ht1) ?_; intro v2 w2 ho2 ht2)
  | (at_builtin; go_must (refine wp_append_new rfl (.tmp 29) (.tmp 32) rfl F _ v2 (m + 2 + 1) _ rfl ho2 [_] 1 rfl rfl (one1 _) (by omega) (hn.turn (ht1.trans ht2)) ?_); intro v3 w3 ho3 ht3))
 go_ret
 exact ⟨v3, rfl, ho3, (ht1.trans ht2).trans ht3⟩
end Go.Proofs.YtpeneeddfgmjpaaGreatDoor.oct

namespace Go.Proofs.YtpeneeddfgmjpaaGreatDoor.oct
open Go.RowKit Go.Proofs.YtpeneeddfgmjpaaGreatDoor.mem

/-- a Writer of the call's own: its bytes, its error -/
def WrIs (w : World) (F : Nat → Prop) (g : Nat) (out : List UInt8) (err : Int) : Prop := ∃ v, WBlk w g v err ∧ Owns w F v out.length (bCells out) ∧ F g

theorem WrIs.fault {w : World} {F : Nat → Prop} {g : Nat} {out : List UInt8} {err : Int} (h : WrIs w F g out err) : WFault w (some ⟨g, 0, none⟩) err := by
 obtain ⟨v, hb, _, _⟩ := h
 exact .inr ⟨g, rfl, .inr ⟨v, hb⟩⟩

theorem WrIs.fresh {w w' : World} {F : Nat → Prop} {g : Nat} {out : List UInt8} {err : Int} (h : WrIs w F g out err) (hb : Below w.heap.size w w') : WrIs w' F g out err := by
 obtain ⟨v, hw, ho, hF⟩ := h
 exact ⟨v, Blk.below hw hb (Blk.lt hw), ho.turn (G := (w.heap.size ≤ ·)) (Turn.ofBelow hb) (fun k hk => Nat.not_le.2 (ho.lt hk)), hF⟩
/-- what turns blocks outside F leaves the Writer as it is -/
theorem WrIs.turn {w w' : World} {F G : Nat → Prop} {g : Nat} {out : List UInt8} {err : Int} (h : WrIs w F g out err) (ht : Turn G w w') (hd : ∀ k, k < w.heap.size → F k → ¬ G k) : WrIs w' F g out err := by
 obtain ⟨v, hw, ho, hF⟩ := h
 exact ⟨v, Blk.turn hw ht (hd g (Blk.lt hw) hF), ho.turn ht (fun k hk => hd k (ho.lt hk) (ho.2 k hk)), hF⟩

theorem num_stuck (p : Option Addr) (e0 n b : Int) (w : World) (h : WFault w p e0) (h0 : e0 ≠ 0) :
  Calls Tryz.prog 81 #[.pointer p, .int .i64 n, .int .i64 b] w fun e w' => e = .returned (.pointer p) ∧ Below w.heap.size w w' := by
 have hd : (e0 != 0) = true := by simpa using h0
 have H0 := Lib.hid h0
 clear h0
 go_enter_defers Tryz.func81, Tryz.ntmps81
 go_wp2_with (go_at_call 103; refine (fault_any _ _ _ h).mono ?_; rintro e w' ⟨rfl, rfl⟩)
 refine leaves_cons (f := 104) (args := #[.pointer p, .pointer (some ⟨w.heap.size, 0, none⟩)]) (by simp) (by simp [go_sem]) ?_
 have hb : Below w.heap.size w (w.alloc (.cells #[.int .i64 e0] 30)) := (Below.refl _ _).alloc (Nat.le_refl _) _
 refine (keep_still p _ e0 e0 .returning _ (h.block hb) ?_ (.inl H0.out)).mono ?_
 ·
  exact (Blk.new w 30 #[.int .i64 e0]).cell 0
 rintro e u' w'' ⟨rfl, rfl, rfl⟩
 exact ⟨_, results_tmp rfl _ _ _, rfl, hb⟩

/-- the Writer behind keep: its error set, its bytes dropped -/
theorem WrIs.dropped {w : World} {F : Nat → Prop} {g : Nat} {v : Value} (h : WBlk w g v 0) (hF : F g) (e1 : Int) : WrIs ((w.setCell ⟨g, 1, none⟩ (.slice none 0 0)).setCell ⟨g, 2, none⟩ (.int .i64 e1)) F g [] e1 := by
 refine ⟨.slice none 0 0, ?_, Owns.nil _ F, hF⟩
 exact Blk.set_ (Blk.set_ h 1 _) 2 _

theorem num_size (F : Nat → Prop) (g : Nat) (out : List UInt8) (n b : Int) (w : World) (h : WrIs w F g out 0) (hn : New F w) (hb : sz b = false) :
  Calls Tryz.prog 81 #[.pointer (some ⟨g, 0, none⟩), .int .i64 n, .int .i64 b] w fun e w' => e = .returned (.pointer (some ⟨g, 0, none⟩)) ∧ WrIs w' F g [] 1 ∧ Turn F w w' := by
 obtain ⟨v, hw, ho, hF⟩ := h
 have hlt := Blk.lt hw
 go_enter_defers Tryz.func81, Tryz.ntmps81
 go_wp2_with (first
  | (go_at_call 103; refine (fault_ok _ _ _ _ hw).mono ?_; rintro e w' ⟨rfl, rfl⟩)
  | (go_at_call 105; refine (isSize_any _ _).mono ?_; rintro e w' ⟨rfl, rfl⟩; rw [hb]))
 refine leaves_cons (f := 104) (args := #[.pointer (some ⟨g, 0, none⟩), .pointer (some ⟨w.heap.size, 0, none⟩)]) (by simp) (by simp [go_sem]) ?_
 have hw1 : WBlk (w.alloc (.cells #[.int .i64 1] 30)) g v 0 := Blk.alloc hw _
 refine (keep_sets g ⟨w.heap.size, 0, none⟩ v 1 .returning _ hw1 ?_ (by decide)).mono ?_
 ·
  exact (Blk.new w 30 #[.int .i64 1]).cell 0
 rintro e u' w'' ⟨rfl, rfl, rfl⟩
 exact ⟨_, results_tmp rfl _ _ _, rfl, WrIs.dropped hw1 hF 1, (((Turn.refl F w).alloc hn _).setCell hF _).setCell hF _⟩

theorem num_neg (F : Nat → Prop) (g : Nat) (out : List UInt8) (n b : Int) (w : World) (h : WrIs w F g out 0) (hn : New F w) (hb : sz b = true) (h0 : n < 0) :
  Calls Tryz.prog 81 #[.pointer (some ⟨g, 0, none⟩), .int .i64 n, .int .i64 b] w fun e w' => e = .returned (.pointer (some ⟨g, 0, none⟩)) ∧ WrIs w' F g [] 5 ∧ Turn F w w' := by
 obtain ⟨v, hw, ho, hF⟩ := h
 go_enter_defers Tryz.func81, Tryz.ntmps81
 go_wp2_with (first
  | (go_at_call 103; refine (fault_ok _ _ _ _ hw).mono ?_; rintro e w' ⟨rfl, rfl⟩)
  | (go_at_call 105; refine (isSize_any _ _).mono ?_; rintro e w' ⟨rfl, rfl⟩; rw [hb]))
 refine leaves_cons (f := 104) (args := #[.pointer (some ⟨g, 0, none⟩), .pointer (some ⟨w.heap.size, 0, none⟩)]) (by simp) (by simp [go_sem]) ?_
 have hw1 : WBlk (w.alloc (.cells #[.int .i64 5] 30)) g v 0 := Blk.alloc hw _
 refine (keep_sets g ⟨w.heap.size, 0, none⟩ v 5 .returning _ hw1 ?_ (by decide)).mono ?_
 ·
  exact (Blk.new w 30 #[.int .i64 5]).cell 0
 rintro e u' w'' ⟨rfl, rfl, rfl⟩
 exact ⟨_, results_tmp rfl _ _ _, rfl, WrIs.dropped hw1 hF 5, (((Turn.refl F w).alloc hn _).setCell hF _).setCell hF _⟩

theorem num_wide1 (F : Nat → Prop) (g : Nat) (out : List UInt8) (n : Int) (w : World) (h : WrIs w F g out 0) (hn : New F w) (h0 : 256 ≤ n) (h1 : n ≤ 9223372036854775807) :
  Calls Tryz.prog 81 #[.pointer (some ⟨g, 0, none⟩), .int .i64 n, .int .i64 1] w fun e w' => e = .returned (.pointer (some ⟨g, 0, none⟩)) ∧ WrIs w' F g [] 5 ∧ Turn F w w' := by
 obtain ⟨v, hw, ho, hF⟩ := h
 have hb : sz 1 = true := rfl
 have hng : ¬ n < 0 := by omega
 have hd : (n / 256 != 0) = true := by simp; omega
 go_enter_defers Tryz.func81, Tryz.ntmps81
 go_wp2_with (first
  | (go_at_call 103; refine (fault_ok _ _ _ _ hw).mono ?_; rintro e w' ⟨rfl, rfl⟩)
  | (go_at_call 105; refine (isSize_any _ _).mono ?_; rintro e w' ⟨rfl, rfl⟩; rw [hb]))
 refine leaves_cons (f := 104) (args := #[.pointer (some ⟨g, 0, none⟩), .pointer (some ⟨w.heap.size, 0, none⟩)]) (by simp) (by simp [go_sem]) ?_
 have hw1 : WBlk (w.alloc (.cells #[.int .i64 5] 30)) g v 0 := Blk.alloc hw _
 refine (keep_sets g ⟨w.heap.size, 0, none⟩ v 5 .returning _ hw1 ?_ (by decide)).mono ?_
 ·
  exact (Blk.new w 30 #[.int .i64 5]).cell 0
 rintro e u' w'' ⟨rfl, rfl, rfl⟩
 exact ⟨_, results_tmp rfl _ _ _, rfl, WrIs.dropped hw1 hF 5, (((Turn.refl F w).alloc hn _).setCell hF _).setCell hF _⟩

theorem num_wide2 (F : Nat → Prop) (g : Nat) (out : List UInt8) (n : Int) (w : World) (h : WrIs w F g out 0) (hn : New F w) (h0 : 65536 ≤ n) (h1 : n ≤ 9223372036854775807) :
  Calls Tryz.prog 81 #[.pointer (some ⟨g, 0, none⟩), .int .i64 n, .int .i64 2] w fun e w' => e = .returned (.pointer (some ⟨g, 0, none⟩)) ∧ WrIs w' F g [] 5 ∧ Turn F w w' := by
 obtain ⟨v, hw, ho, hF⟩ := h
 have hb : sz 2 = true := rfl
 have hng : ¬ n < 0 := by omega
 have hd : (n / 65536 != 0) = true := by simp; omega
 go_enter_defers Tryz.func81, Tryz.ntmps81
 go_wp2_with (first
  | (go_at_call 103; refine (fault_ok _ _ _ _ hw).mono ?_; rintro e w' ⟨rfl, rfl⟩)
  | (go_at_call 105; refine (isSize_any _ _).mono ?_; rintro e w' ⟨rfl, rfl⟩; rw [hb]))
 refine leaves_cons (f := 104) (args := #[.pointer (some ⟨g, 0, none⟩), .pointer (some ⟨w.heap.size, 0, none⟩)]) (by simp) (by simp [go_sem]) ?_
 have hw1 : WBlk (w.alloc (.cells #[.int .i64 5] 30)) g v 0 := Blk.alloc hw _
 refine (keep_sets g ⟨w.heap.size, 0, none⟩ v 5 .returning _ hw1 ?_ (by decide)).mono ?_
 ·
  exact (Blk.new w 30 #[.int .i64 5]).cell 0
 rintro e u' w'' ⟨rfl, rfl, rfl⟩
 exact ⟨_, results_tmp rfl _ _ _, rfl, WrIs.dropped hw1 hF 5, (((Turn.refl F w).alloc hn _).setCell hF _).setCell hF _⟩

theorem num_wide4 (F : Nat → Prop) (g : Nat) (out : List UInt8) (n : Int) (w : World) (h : WrIs w F g out 0) (hn : New F w) (h0 : 4294967296 ≤ n) (h1 : n ≤ 9223372036854775807) :
  Calls Tryz.prog 81 #[.pointer (some ⟨g, 0, none⟩), .int .i64 n, .int .i64 4] w fun e w' => e = .returned (.pointer (some ⟨g, 0, none⟩)) ∧ WrIs w' F g [] 5 ∧ Turn F w w' := by
 obtain ⟨v, hw, ho, hF⟩ := h
 have hb : sz 4 = true := rfl
 have hng : ¬ n < 0 := by omega
 have hd : (n / 4294967296 != 0) = true := by simp; omega
 go_enter_defers Tryz.func81, Tryz.ntmps81
 go_wp2_with (first
  | (go_at_call 103; refine (fault_ok _ _ _ _ hw).mono ?_; rintro e w' ⟨rfl, rfl⟩)
  | (go_at_call 105; refine (isSize_any _ _).mono ?_; rintro e w' ⟨rfl, rfl⟩; rw [hb]))
 refine leaves_cons (f := 104) (args := #[.pointer (some ⟨g, 0, none⟩), .pointer (some ⟨w.heap.size, 0, none⟩)]) (by simp) (by simp [go_sem]) ?_
 have hw1 : WBlk (w.alloc (.cells #[.int .i64 5] 30)) g v 0 := Blk.alloc hw _
 refine (keep_sets g ⟨w.heap.size, 0, none⟩ v 5 .returning _ hw1 ?_ (by decide)).mono ?_
 ·
  exact (Blk.new w 30 #[.int .i64 5]).cell 0
 rintro e u' w'' ⟨rfl, rfl, rfl⟩
 exact ⟨_, results_tmp rfl _ _ _, rfl, WrIs.dropped hw1 hF 5, (((Turn.refl F w).alloc hn _).setCell hF _).setCell hF _⟩

theorem Row.not {w : World} {F : Nat → Prop} {v : Value} {n : Nat} {xs : List Value} {g : Nat} {err : Int} (h : Owns w F v n xs) (hw : WBlk w g v err) : ¬ Row w v g := by
 rintro (hk | hk)
 ·
  exact h.ne_ hw (by decide) hk
 ·
  have := Blk.lt hw; omega

/-- the Writer behind an append: its new bytes stored -/
theorem WrIs.stored {w w1 : World} {F : Nat → Prop} {g : Nat} {v v' : Value} {n n' : Nat} {xs : List Value} {out : List UInt8} (hw : WBlk w g v 0) (ho : Owns w F v n xs) (hn : New F w) (hF : F g)
  (ho' : Owns w1 (Row w v) v' n' (bCells out)) (ht : Turn (Row w v) w w1) (hl : n' = out.length) : WrIs (w1.setCell ⟨g, 1, none⟩ v') F g out 0 := by
 subst hl
 have hw1 : WBlk w1 g v 0 := Blk.turn hw ht (Row.not ho hw)
 refine ⟨v', Blk.set_ hw1 1 v', ?_, hF⟩
 refine ((ho'.mono (Row.sub ho hn)).turn (G := (· = g)) ((Turn.refl (· = g) w1).setCell (p := ⟨g, 1, none⟩) rfl _) fun k hk e => ?_)
 subst e
 exact ho'.ne_ hw1 (by decide) hk

theorem num_good1 (F : Nat → Prop) (g : Nat) (out : List UInt8) (n : Int) (w : World) (h : WrIs w F g out 0) (hn : New F w) (hl : out.length + 4 ≤ 140737488355328) (h0 : 0 ≤ n) (h1 : n < 256) :
  Calls Tryz.prog 81 #[.pointer (some ⟨g, 0, none⟩), .int .i64 n, .int .i64 1] w fun e w' => e = .returned (.pointer (some ⟨g, 0, none⟩)) ∧ WrIs w' F g (out ++ be n 1) 0 ∧ Turn F w w' := by
 obtain ⟨v, hw, ho, hF⟩ := h
 have hb : sz 1 = true := rfl
 have hng : ¬ n < 0 := by omega
 have hd : (n / 256 != 0) = false := by simp; omega
 have hw0 : WBlk (w.alloc (.cells #[.int .i64 0] 30)) g v 0 := Blk.alloc hw _
 have c1 := hw0.c1
 have hlt := Blk.lt hw
 go_enter_defers Tryz.func81, Tryz.ntmps81
 go_wp2_with (first
  | (go_at_call 103; refine (fault_ok _ _ _ _ hw).mono ?_; rintro e w' ⟨rfl, rfl⟩)
  | (go_at_call 105; refine (isSize_any _ _).mono ?_; rintro e w' ⟨rfl, rfl⟩; rw [hb])
  | (go_at_call 106; go_must (refine (app1 (Row (w.alloc (.cells #[.int .i64 0] 30)) v) v _ _ n _ (ho.alloc _).row (Row.new _ _) (by omega)).mono ?_); rintro e w1 ⟨v1, rfl, ho1, ht1⟩; obtain ⟨ad1, k1, cc1, rfl⟩ := ho1.form; have hw1 : WBlk w1 g v 0 := Blk.turn hw0 ht1 (Row.not (ho.alloc _) hw0); have d1 := hw1.c1; have f1 : w1.frozen? ⟨g, 1, none⟩ = false := Blk.frozen hw1 1))
 refine leaves_cons (f := 104) (args := #[.pointer (some ⟨g, 0, none⟩), .pointer (some ⟨w.heap.size, 0, none⟩)]) (by simp) (by simp [go_sem]) ?_
 have hE : Blk (w.alloc (.cells #[.int .i64 0] 30)) w.heap.size 30 #[.int .i64 0] := Blk.new w _ _
 have hE1 : Blk w1 w.heap.size 30 #[.int .i64 0] := Blk.turn hE ht1 (by
  rintro (hk | hk)
  ·
   exact (ho.alloc _).ne_ hE (by decide) hk
  ·
   simp at hk; omega)
 have ho1' : Owns w1 (Row (w.alloc (.cells #[.int .i64 0] 30)) v) (.slice ad1 k1 cc1) (out.length + 1) (bCells (out ++ be n 1)) := by
  rw [bCells_append, be1 n h0]
  simpa [List.append_assoc] using ho1
 have hS : WrIs (w1.setCell ⟨g, 1, none⟩ (.slice ad1 k1 cc1)) F g (out ++ be n 1) 0 := WrIs.stored hw0 (ho.alloc _) (hn.alloc _) hF ho1' ht1 (by simp [be])
 refine (keep_still _ ⟨w.heap.size, 0, none⟩ 0 0 .returning _ hS.fault ?_ (.inr rfl)).mono ?_
 ·
  exact (Blk.far hE1 (p := ⟨g, 1, none⟩) (by simp; omega) _).cell 0
 rintro e u' w'' ⟨rfl, rfl, rfl⟩
 exact ⟨_, results_tmp rfl _ _ _, rfl, hS, (((Turn.refl F w).alloc hn _).trans (ht1.mono (Row.sub (ho.alloc _) (hn.alloc _)))).setCell hF _⟩

theorem num_good2 (F : Nat → Prop) (g : Nat) (out : List UInt8) (n : Int) (w : World) (h : WrIs w F g out 0) (hn : New F w) (hl : out.length + 4 ≤ 140737488355328) (h0 : 0 ≤ n) (h1 : n < 65536) :
  Calls Tryz.prog 81 #[.pointer (some ⟨g, 0, none⟩), .int .i64 n, .int .i64 2] w fun e w' => e = .returned (.pointer (some ⟨g, 0, none⟩)) ∧ WrIs w' F g (out ++ be n 2) 0 ∧ Turn F w w' := by
 obtain ⟨v, hw, ho, hF⟩ := h
 have hb : sz 2 = true := rfl
 have hng : ¬ n < 0 := by omega
 have hd : (n / 65536 != 0) = false := by simp; omega
 have hw0 : WBlk (w.alloc (.cells #[.int .i64 0] 30)) g v 0 := Blk.alloc hw _
 have c1 := hw0.c1
 have hlt := Blk.lt hw
 go_enter_defers Tryz.func81, Tryz.ntmps81
 go_wp2_with (first
  | (go_at_call 103; refine (fault_ok _ _ _ _ hw).mono ?_; rintro e w' ⟨rfl, rfl⟩)
  | (go_at_call 105; refine (isSize_any _ _).mono ?_; rintro e w' ⟨rfl, rfl⟩; rw [hb])
  | (go_at_call 106; go_must (refine (app2 (Row (w.alloc (.cells #[.int .i64 0] 30)) v) v _ _ n _ (ho.alloc _).row (Row.new _ _) (by omega) h0 h1).mono ?_); rintro e w1 ⟨v1, rfl, ho1, ht1⟩; obtain ⟨ad1, k1, cc1, rfl⟩ := ho1.form; have hw1 : WBlk w1 g v 0 := Blk.turn hw0 ht1 (Row.not (ho.alloc _) hw0); have d1 := hw1.c1; have f1 : w1.frozen? ⟨g, 1, none⟩ = false := Blk.frozen hw1 1))
 refine leaves_cons (f := 104) (args := #[.pointer (some ⟨g, 0, none⟩), .pointer (some ⟨w.heap.size, 0, none⟩)]) (by simp) (by simp [go_sem]) ?_
 have hE : Blk (w.alloc (.cells #[.int .i64 0] 30)) w.heap.size 30 #[.int .i64 0] := Blk.new w _ _
 have hE1 : Blk w1 w.heap.size 30 #[.int .i64 0] := Blk.turn hE ht1 (by
  rintro (hk | hk)
  ·
   exact (ho.alloc _).ne_ hE (by decide) hk
  ·
   simp at hk; omega)
 have ho1' : Owns w1 (Row (w.alloc (.cells #[.int .i64 0] 30)) v) (.slice ad1 k1 cc1) (out.length + 1 + 1) (bCells (out ++ be n 2)) := by
  rw [bCells_append, be2 n h0 h1]
  simpa [List.append_assoc] using ho1
 have hS : WrIs (w1.setCell ⟨g, 1, none⟩ (.slice ad1 k1 cc1)) F g (out ++ be n 2) 0 := WrIs.stored hw0 (ho.alloc _) (hn.alloc _) hF ho1' ht1 (by simp [be])
 refine (keep_still _ ⟨w.heap.size, 0, none⟩ 0 0 .returning _ hS.fault ?_ (.inr rfl)).mono ?_
 ·
  exact (Blk.far hE1 (p := ⟨g, 1, none⟩) (by simp; omega) _).cell 0
 rintro e u' w'' ⟨rfl, rfl, rfl⟩
 exact ⟨_, results_tmp rfl _ _ _, rfl, hS, (((Turn.refl F w).alloc hn _).trans (ht1.mono (Row.sub (ho.alloc _) (hn.alloc _)))).setCell hF _⟩

theorem num_good4 (F : Nat → Prop) (g : Nat) (out : List UInt8) (n : Int) (w : World) (h : WrIs w F g out 0) (hn : New F w) (hl : out.length + 4 ≤ 140737488355328) (h0 : 0 ≤ n) (h1 : n < 4294967296) :
  Calls Tryz.prog 81 #[.pointer (some ⟨g, 0, none⟩), .int .i64 n, .int .i64 4] w fun e w' => e = .returned (.pointer (some ⟨g, 0, none⟩)) ∧ WrIs w' F g (out ++ be n 4) 0 ∧ Turn F w w' := by
 obtain ⟨v, hw, ho, hF⟩ := h
 have hb : sz 4 = true := rfl
 have hng : ¬ n < 0 := by omega
 have hd : (n / 4294967296 != 0) = false := by simp; omega
 have hw0 : WBlk (w.alloc (.cells #[.int .i64 0] 30)) g v 0 := Blk.alloc hw _
 have c1 := hw0.c1
 have hlt := Blk.lt hw
 go_enter_defers Tryz.func81, Tryz.ntmps81
 go_wp2_with (first
  | (go_at_call 103; refine (fault_ok _ _ _ _ hw).mono ?_; rintro e w' ⟨rfl, rfl⟩)
  | (go_at_call 105; refine (isSize_any _ _).mono ?_; rintro e w' ⟨rfl, rfl⟩; rw [hb])
  | (go_at_call 106; go_must (refine (app4 (Row (w.alloc (.cells #[.int .i64 0] 30)) v) v _ _ n _ (ho.alloc _).row (Row.new _ _) (by omega) h0 h1).mono ?_); rintro e w1 ⟨v1, rfl, ho1, ht1⟩; obtain ⟨ad1, k1, cc1, rfl⟩ := ho1.form; have hw1 : WBlk w1 g v 0 := Blk.turn hw0 ht1 (Row.not (ho.alloc _) hw0); have d1 := hw1.c1; have f1 : w1.frozen? ⟨g, 1, none⟩ = false := Blk.frozen hw1 1))
 refine leaves_cons (f := 104) (args := #[.pointer (some ⟨g, 0, none⟩), .pointer (some ⟨w.heap.size, 0, none⟩)]) (by simp) (by simp [go_sem]) ?_
 have hE : Blk (w.alloc (.cells #[.int .i64 0] 30)) w.heap.size 30 #[.int .i64 0] := Blk.new w _ _
 have hE1 : Blk w1 w.heap.size 30 #[.int .i64 0] := Blk.turn hE ht1 (by
  rintro (hk | hk)
  ·
   exact (ho.alloc _).ne_ hE (by decide) hk
  ·
   simp at hk; omega)
 have ho1' : Owns w1 (Row (w.alloc (.cells #[.int .i64 0] 30)) v) (.slice ad1 k1 cc1) (out.length + 2 + 1 + 1) (bCells (out ++ be n 4)) := by
  rw [bCells_append, be4 n h0 h1]
  simpa [List.append_assoc] using ho1
 have hS : WrIs (w1.setCell ⟨g, 1, none⟩ (.slice ad1 k1 cc1)) F g (out ++ be n 4) 0 := WrIs.stored hw0 (ho.alloc _) (hn.alloc _) hF ho1' ht1 (by simp [be])
 refine (keep_still _ ⟨w.heap.size, 0, none⟩ 0 0 .returning _ hS.fault ?_ (.inr rfl)).mono ?_
 ·
  exact (Blk.far hE1 (p := ⟨g, 1, none⟩) (by simp; omega) _).cell 0
 rintro e u' w'' ⟨rfl, rfl, rfl⟩
 exact ⟨_, results_tmp rfl _ _ _, rfl, hS, (((Turn.refl F w).alloc hn _).trans (ht1.mono (Row.sub (ho.alloc _) (hn.alloc _)))).setCell hF _⟩


theorem num_any (F : Nat → Prop) (g : Nat) (out : List UInt8) (err : Int) (n b : Int) (w : World) (h : WrIs w F g out err) (hn : New F w) (hl : out.length + 4 ≤ 140737488355328) (hmax : n ≤ 9223372036854775807) :
  Calls Tryz.prog 81 #[.pointer (some ⟨g, 0, none⟩), .int .i64 n, .int .i64 b] w fun e w' => e = .returned (.pointer (some ⟨g, 0, none⟩)) ∧ WrIs w' F g (wNum (out, err) n b).1 (wNum (out, err) n b).2 ∧ Turn F w w' := by
 by_cases he : err = 0
 ·
  subst he
  by_cases hs : sz b = false
  ·
   have e : numErr n b = 1 := by unfold numErr; rw [if_pos hs]
   have e2 : wNum (out, 0) n b = ([], 1) := by unfold wNum; rw [if_neg (by simp), e, if_pos (by decide)]
   rw [e2]
   exact num_size F g out n b w h hn hs
  ·
   by_cases hng : n < 0
   ·
    have e : numErr n b = 5 := by unfold numErr; rw [if_neg hs, if_pos (.inl hng)]
    have e2 : wNum (out, 0) n b = ([], 5) := by unfold wNum; rw [if_neg (by simp), e, if_pos (by decide)]
    rw [e2]
    exact num_neg F g out n b w h hn (by simpa using hs) hng
   ·
    have hb : b = 1 ∨ b = 2 ∨ b = 4 := by simp [sz] at hs; omega
    by_cases hw : (if b = 1 then 256 else if b = 2 then 65536 else 4294967296) ≤ n
    ·
     have e : numErr n b = 5 := by unfold numErr; rw [if_neg hs, if_pos (.inr hw)]
     have e2 : wNum (out, 0) n b = ([], 5) := by unfold wNum; rw [if_neg (by simp), e, if_pos (by decide)]
     rw [e2]
     rcases hb with rfl | rfl | rfl
     ·
      exact num_wide1 F g out n w h hn (by simpa using hw) hmax
     ·
      exact num_wide2 F g out n w h hn (by simpa using hw) hmax
     ·
      exact num_wide4 F g out n w h hn (by simpa using hw) hmax
    ·
     have e : numErr n b = 0 := by unfold numErr; rw [if_neg hs, if_neg (by rintro (h | h) <;> contradiction)]
     have e2 : wNum (out, 0) n b = (out ++ be n b, 0) := by unfold wNum; rw [if_neg (by simp), e, if_neg (by decide)]
     rw [e2]
     rcases hb with rfl | rfl | rfl
     ·
      exact num_good1 F g out n w h hn hl (by omega) (by simpa using hw)
     ·
      exact num_good2 F g out n w h hn hl (by omega) (by simpa using hw)
     ·
      exact num_good4 F g out n w h hn hl (by omega) (by simpa using hw)
 ·
  have e2 : wNum (out, err) n b = (out, err) := by unfold wNum; rw [if_pos he]
  rw [e2]
  refine (num_stuck _ err n b w h.fault he).mono fun e w' ⟨h1, h2⟩ => ⟨h1, ?_, Turn.fresh h2 hn⟩
  exact h.fresh h2
end Go.Proofs.YtpeneeddfgmjpaaGreatDoor.oct

namespace Go.Proofs.YtpeneeddfgmjpaaGreatDoor.oct
open Go.RowKit Go.Proofs.YtpeneeddfgmjpaaGreatDoor.mem

theorem raw_stuck (p : Option Addr) (e0 : Int) (s : ByteArray) (w : World) (h : WFault w p e0) (h0 : e0 ≠ 0) :
  Calls Tryz.prog 107 #[.pointer p, .string s] w fun e w' => e = .returned (.pointer p) ∧ w = w' := by
 have hd : (e0 == 0) = false := by simpa using h0
 clear h0
 go_enter Tryz.func107, Tryz.ntmps107
 go_wp2_with (go_at_call 103; refine (fault_any _ _ _ h).mono ?_; rintro e w' ⟨rfl, rfl⟩)
 go_ret
 exact ⟨rfl, rfl⟩
theorem raw_good (F : Nat → Prop) (g : Nat) (out : List UInt8) (s : ByteArray) (w : World) (h : WrIs w F g out 0) (hn : New F w) (hl : out.length + s.size ≤ 140737488355328) :
  Calls Tryz.prog 107 #[.pointer (some ⟨g, 0, none⟩), .string s] w fun e w' => e = .returned (.pointer (some ⟨g, 0, none⟩)) ∧ WrIs w' F g (out ++ s.data.toList) 0 ∧ Turn F w w' := by
 obtain ⟨v, hw, ho, hF⟩ := h
 have c1 := hw.c1
 go_enter Tryz.func107, Tryz.ntmps107
 go_wp2_with (first
  | (go_at_call 103; refine (fault_ok _ _ _ _ hw).mono ?_; rintro e w' ⟨rfl, rfl⟩)
  | (at_builtin; go_must (refine wp_append_str rfl (.tmp 12) (.tmp 13) rfl (Row w v) _ v _ _ rfl ho.row s rfl hl (Row.new _ _) ?_); intro v2 w2 ho2 ht; obtain ⟨ad2, k2, cc2, rfl⟩ := ho2.form; have hw2 : WBlk w2 g v 0 := Blk.turn hw ht (Row.not ho hw); have d1 := hw2.c1; have f1 : w2.frozen? ⟨g, 1, none⟩ = false := Blk.frozen hw2 1))
 go_ret
 have ho2' : Owns w2 (Row w v) (.slice ad2 k2 cc2) (out.length + s.size) (bCells (out ++ s.data.toList)) := by
  rw [bCells_append]
  exact ho2
 have e : s.data.toList.length = s.size := by rw [Array.length_toList]; rfl
 exact ⟨rfl, WrIs.stored hw ho hn hF ho2' ht (by rw [List.length_append, e]), (ht.mono (Row.sub ho hn)).setCell hF _⟩
theorem done_stuck (p : Option Addr) (e0 : Int) (w : World) (h : WFault w p e0) (h0 : e0 ≠ 0) :
  Calls Tryz.prog 84 #[.pointer p] w fun e w' => e = .returned (.tuple #[.string ⟨#[]⟩, .int .i64 e0]) ∧ w = w' := by
 have hd : (e0 != 0) = true := by simpa using h0
 clear h0
 go_enter Tryz.func84, Tryz.ntmps84
 go_wp2_with (go_at_call 103; refine (fault_any _ _ _ h).mono ?_; rintro e w' ⟨rfl, rfl⟩)
 go_ret2
 exact ⟨rfl, rfl⟩
theorem done_good (F : Nat → Prop) (g : Nat) (out : List UInt8) (w : World) (h : WrIs w F g out 0) :
  Calls Tryz.prog 84 #[.pointer (some ⟨g, 0, none⟩)] w fun e w' => e = .returned (.tuple #[.string ⟨out.toArray⟩, .int .i64 0]) ∧ w = w' := by
 obtain ⟨v, hw, ho, hF⟩ := h
 have c1 := hw.c1
 have hcv := ho.string
 go_enter Tryz.func84, Tryz.ntmps84
 go_wp2_with (go_at_call 103; refine (fault_ok _ _ _ _ hw).mono ?_; rintro e w' ⟨rfl, rfl⟩)
 go_ret2
 exact ⟨rfl, rfl⟩
theorem raw_any (F : Nat → Prop) (g : Nat) (out : List UInt8) (err : Int) (s : ByteArray) (w : World) (h : WrIs w F g out err) (hn : New F w) (hl : err = 0 → out.length + s.size ≤ 140737488355328) :
  Calls Tryz.prog 107 #[.pointer (some ⟨g, 0, none⟩), .string s] w fun e w' => e = .returned (.pointer (some ⟨g, 0, none⟩)) ∧ WrIs w' F g (wRaw (out, err) s).1 (wRaw (out, err) s).2 ∧ Turn F w w' := by
 by_cases he : err = 0
 ·
  subst he
  have e2 : wRaw (out, 0) s = (out ++ s.data.toList, 0) := by unfold wRaw; rw [if_neg (by simp)]
  rw [e2]
  exact raw_good F g out s w h hn (hl rfl)
 ·
  have e2 : wRaw (out, err) s = (out, err) := by unfold wRaw; rw [if_pos he]
  rw [e2]
  refine (raw_stuck _ err s w h.fault he).mono fun e w' ⟨h1, h2⟩ => ?_
  subst h2
  exact ⟨h1, h, Turn.refl _ _⟩
theorem done_any (F : Nat → Prop) (g : Nat) (out : List UInt8) (err : Int) (w : World) (h : WrIs w F g out err) :
  Calls Tryz.prog 84 #[.pointer (some ⟨g, 0, none⟩)] w fun e w' => e = .returned (.tuple #[.string (wDone (out, err)).1, .int .i64 (wDone (out, err)).2]) ∧ w = w' := by
 by_cases he : err = 0
 ·
  subst he
  have e2 : wDone (out, 0) = (⟨out.toArray⟩, 0) := by unfold wDone; rw [if_neg (by simp)]
  rw [e2]
  exact done_good F g out w h
 ·
  have e2 : wDone (out, err) = (⟨#[]⟩, err) := by unfold wDone; rw [if_pos he]
  rw [e2]
  exact done_stuck _ err w h.fault he
end Go.Proofs.YtpeneeddfgmjpaaGreatDoor.oct

namespace Go.Proofs.YtpeneeddfgmjpaaGreatDoor.opn
open Go.RowKit Go.Proofs.YtpeneeddfgmjpaaGreatDoor.mem

theorem lcalls_at {P : Program} {f : FuncId} {args : Array Value} {w w' : World} {Q : Ending → World → Prop} (h : w = w') (k : Calls P f args w' Q) : Calls P f args w Q := h ▸ k
theorem be_b1 (n : Int) : oct.be n 1 = b1 n := rfl
theorem be_b4 (n : Int) : oct.be n 4 = b4 n := rfl
theorem wNum1 (out : List UInt8) (n : Int) (h0 : 0 ≤ n) (h1 : n < 256) : oct.wNum (out, 0) n 1 = (out ++ b1 n, 0) := by
 have e : oct.numErr n 1 = 0 := by
  unfold oct.numErr
  rw [if_neg (by decide), if_neg (by rw [if_pos rfl]; omega)]
 unfold oct.wNum
 rw [if_neg (fun h => h rfl), if_neg (fun h => h e), be_b1]
theorem wNum4 (out : List UInt8) (n : Int) (h0 : 0 ≤ n) (h1 : n < 4294967296) : oct.wNum (out, 0) n 4 = (out ++ b4 n, 0) := by
 have e : oct.numErr n 4 = 0 := by
  unfold oct.numErr
  rw [if_neg (by decide), if_neg (by rw [if_neg (by decide), if_neg (by decide)]; omega)]
 unfold oct.wNum
 rw [if_neg (fun h => h rfl), if_neg (fun h => h e), be_b4]
theorem wnum1_s (F : Nat → Prop) (g : Nat) (out : List UInt8) (n : Int) (h0 : 0 ≤ n) (h1 : n < 256) (w : World) (h : oct.WrIs w F g out 0) (hn : New F w) (hl : out.length ≤ 100000) :
  Calls Tryz.prog 81 #[.pointer (some ⟨g, 0, none⟩), .int .i64 n, .int .i64 1] w fun e w' => e = .returned (.pointer (some ⟨g, 0, none⟩)) ∧ oct.WrIs w' F g (out ++ b1 n) 0 ∧ Turn F w w' := by
 have := oct.num_any F g out 0 n 1 w h hn (by omega) (by omega)
 rw [wNum1 out n h0 h1] at this
 exact this
theorem wnum4_s (F : Nat → Prop) (g : Nat) (out : List UInt8) (n : Int) (h0 : 0 ≤ n) (h1 : n < 4294967296) (w : World) (h : oct.WrIs w F g out 0) (hn : New F w) (hl : out.length ≤ 100000) :
  Calls Tryz.prog 81 #[.pointer (some ⟨g, 0, none⟩), .int .i64 n, .int .i64 4] w fun e w' => e = .returned (.pointer (some ⟨g, 0, none⟩)) ∧ oct.WrIs w' F g (out ++ b4 n) 0 ∧ Turn F w w' := by
 have := oct.num_any F g out 0 n 4 w h hn (by omega) (by omega)
 rw [wNum4 out n h0 h1] at this
 exact this
theorem wraw_s (F : Nat → Prop) (g : Nat) (out : List UInt8) (s : ByteArray) (w : World) (h : oct.WrIs w F g out 0) (hn : New F w) (hl : out.length ≤ 100000) (hs : s.size ≤ 100000) :
  Calls Tryz.prog 107 #[.pointer (some ⟨g, 0, none⟩), .string s] w fun e w' => e = .returned (.pointer (some ⟨g, 0, none⟩)) ∧ oct.WrIs w' F g (out ++ s.data.toList) 0 ∧ Turn F w w' := by
 have := oct.raw_any F g out 0 s w h hn (fun _ => by omega)
 rw [show oct.wRaw (out, 0) s = (out ++ s.data.toList, 0) by unfold oct.wRaw; rw [if_neg (fun h => h rfl)]] at this
 exact this
theorem be_b2 (n : Int) : oct.be n 2 = b2 n := rfl
theorem wNum2 (out : List UInt8) (n : Int) (h0 : 0 ≤ n) (h1 : n < 65536) : oct.wNum (out, 0) n 2 = (out ++ b2 n, 0) := by
 have e : oct.numErr n 2 = 0 := by
  unfold oct.numErr
  rw [if_neg (by decide), if_neg (by rw [if_neg (by decide), if_pos rfl]; omega)]
 unfold oct.wNum
 rw [if_neg (fun h => h rfl), if_neg (fun h => h e), be_b2]
theorem wnum2_s (F : Nat → Prop) (g : Nat) (out : List UInt8) (n : Int) (h0 : 0 ≤ n) (h1 : n < 65536) (w : World) (h : oct.WrIs w F g out 0) (hn : New F w) (hl : out.length ≤ 100000) :
  Calls Tryz.prog 81 #[.pointer (some ⟨g, 0, none⟩), .int .i64 n, .int .i64 2] w fun e w' => e = .returned (.pointer (some ⟨g, 0, none⟩)) ∧ oct.WrIs w' F g (out ++ b2 n) 0 ∧ Turn F w w' := by
 have := oct.num_any F g out 0 n 2 w h hn (by omega) (by omega)
 rw [wNum2 out n h0 h1] at this
 exact this
theorem WrIs.sub {w : World} {F G : Nat → Prop} {g : Nat} {out : List UInt8} {err : Int} (h : oct.WrIs w F g out err) (hG : ∀ b, b < w.heap.size → F b → G b) : oct.WrIs w G g out err := by
 obtain ⟨v, hb, ho, hg⟩ := h
 exact ⟨v, hb, ⟨ho.1, fun k hk => hG k (ho.lt hk) (ho.2 k hk)⟩, hG g (Blk.lt hb) hg⟩
theorem WrIs.new {w : World} {F : Nat → Prop} {g : Nat} (h : oct.WBlk w g (.slice none 0 0) 0) (hF : F g) : oct.WrIs w F g [] 0 := ⟨_, h, Owns.nil _ _, hF⟩
end Go.Proofs.YtpeneeddfgmjpaaGreatDoor.opn

namespace Go.Proofs.YtpeneeddfgmjpaaGreatDoor.opn
open Go.RowKit Go.Proofs.YtpeneeddfgmjpaaGreatDoor.mem Go.Proofs.YtpeneeddfgmjpaaGreatDoor.sha Go.Proofs.YtpeneeddfgmjpaaGreatDoor.ids

theorem wid_s (F : Nat → Prop) (g : Nat) (out : List UInt8) (y : Id) (hy : y.length = 32) (w : World) (h : oct.WrIs w F g out 0) (hn : New F w) (hl : out.length ≤ 10000) :
  Calls Tryz.prog 83 #[.pointer (some ⟨g, 0, none⟩), idv y] w fun e w' => e = .returned (.tuple #[]) ∧ oct.WrIs w' F g (out ++ y) 0 ∧ Turn F w w' := by
 obtain ⟨w1, hw1⟩ : ∃ u, u = w.alloc (.cells (bv y).toArray 24) := ⟨_, rfl⟩
 have hX : Blk w1 w.heap.size 24 (bv y).toArray := by rw [hw1]; exact Blk.new w _ _
 have hB : Below w.heap.size w w1 := by rw [hw1]; exact (Below.refl _ _).alloc (Nat.le_refl _) _
 have ht1 : Turn F w w1 := Turn.fresh hB hn
 have HRAW := Lib.hid (wraw_s F g out (oct.tx y) w1 (h.fresh hB) (hn.turn ht1) (by omega) (by rw [oct.tx_size]; omega))
 have HC := Lib.hid (idText w1 w.heap.size y hy hX)
 rw [oct.tx_list] at HRAW
 have hsl := fun u : World => run_slice_id w.heap.size u
 have hcv := HC.out
 have HW := Lib.hid hw1
 have HT1 := Lib.hid ht1
 clear h hn hX hB hw1 ht1
 unfold idv
 go_enter Tryz.func83, Tryz.ntmps83
 go_upto_region 1 with fail
 refine wp_at HW.out.symm ?_
 clear HW
 go_wp2_with (go_at_call 107; (with_reducible refine HRAW.out.mono ?_); rintro e w3 ⟨rfl, hr3, ht3⟩)
 go_end0
 exact ⟨rfl, hr3, HT1.out.trans ht3⟩
end Go.Proofs.YtpeneeddfgmjpaaGreatDoor.opn

namespace Go.Proofs.YtpeneeddfgmjpaaGreatDoor.opn
open Go.RowKit Go.Proofs.YtpeneeddfgmjpaaGreatDoor.mem Go.Proofs.YtpeneeddfgmjpaaGreatDoor.sha Go.Proofs.YtpeneeddfgmjpaaGreatDoor.ids

/-- what has been written of a list -/
theorem flat_snoc (L : List Id) (k : Nat) (h : k < L.length) : (L.take (k + 1)).flatten = (L.take k).flatten ++ L.getD k [] := by
 rw [List.take_succ_eq_append_getElem h, List.flatten_append, List.getD_eq_getElem?_getD, List.getElem?_eq_getElem h]
 simp
theorem flat_take_len {L : List Id} (h : okIds L) (k : Nat) : ((L.take k).flatten).length = min k L.length * 32 := by
 rw [flat_len (h.take k), List.length_take]
end Go.Proofs.YtpeneeddfgmjpaaGreatDoor.opn

namespace Go.Proofs.YtpeneeddfgmjpaaGreatDoor.opn
open Go.RowKit Go.Proofs.YtpeneeddfgmjpaaGreatDoor.mem Go.Proofs.YtpeneeddfgmjpaaGreatDoor.sha Go.Proofs.YtpeneeddfgmjpaaGreatDoor.ids

set_option maxHeartbeats 2000000 in
set_option maxRecDepth 100000 in
theorem wids_s (F : Nat → Prop) (g : Nat) (out : List UInt8) (L : List Id) (v : Value) (w : World) (h : oct.WrIs w F g out 0) (hn : New F w) (hl : out.length ≤ 1000) (hL : L.length ≤ 255) (hvt : ∀ u, Turn F w u → RdV u v L) :
  Calls Tryz.prog 80 #[.pointer (some ⟨g, 0, none⟩), v] w fun e w' => e = .returned (.tuple #[]) ∧ oct.WrIs w' F g (out ++ idl L) 0 ∧ Turn F w w' := by
 have hv := hvt w (Turn.refl _ _)
 obtain ⟨ad, cap, rfl⟩ := hv.form
 have HNUM := Lib.hid (wnum1_s F g out L.length (Int.natCast_nonneg _) (by omega) w h hn (by omega))
 have HN := Lib.hid hn
 have HVT := Lib.hid hvt
 have HOK := Lib.hid hv.ok
 have HL := Lib.hid hL
 have HLO := Lib.hid hl
 clear h hn hl hv hL hvt
 go_enter Tryz.func80, Tryz.ntmps80
 go_wp2_with (go_at_call 81; (with_reducible refine HNUM.out.mono ?_); rintro e w2 ⟨rfl, hr2, ht2⟩; have HR2 := Lib.hid hr2; have HT2 := Lib.hid ht2; clear hr2 ht2)
 go_loopw [12] (fun i wr => ∃ k : Nat, k ≤ L.length ∧ i = .int .i64 (k : Int) ∧ oct.WrIs wr F g (out ++ b1 L.length ++ (L.take k).flatten) 0 ∧ Turn F w wr) (fun i _ => L.length - (intOf i).toNat)
 case atStart => exact ⟨0, Nat.zero_le _, rfl, by rw [List.take_zero, List.flatten_nil, List.append_nil]; exact HR2.out, HT2.out⟩
 case round =>
  clear HNUM HR2 HT2
  obtain ⟨k, hk, rfl, ho, ht⟩ := hrel
  have HO := Lib.hid ho
  have HT := Lib.hid ht
  have k0 : (0 : Int) ≤ (k : Int) := Int.natCast_nonneg _
  by_cases hlt : k < L.length
  ·
   have kI : (k : Int) < (L.length : Int) := by omega
   have k8 : (k : Int) < 255 := by have := HL.out; omega
   have hrv := HVT.out wr ht
   obtain ⟨b, off, rfl, -, hb, hld⟩ := hrv.load hlt
   obtain ⟨y, hy⟩ : ∃ y, y = L.getD k [] := ⟨_, rfl⟩
   have hy32 : y.length = 32 := by rw [hy]; exact HOK.out.get hlt
   have hsn := flat_snoc L k hlt
   rw [← hy] at hsn hld
   have HSN := Lib.hid hsn
   have hld0 := hld 0
   obtain ⟨w3, hw3⟩ : ∃ u, u = (wr.alloc (.cells (bv zid).toArray 24)).setRow wr.heap.size (bv y).toArray := ⟨_, rfl⟩
   have hx0 : Blk (wr.alloc (.cells (bv zid).toArray 24)) wr.heap.size 24 (bv zid).toArray := Blk.new wr _ _
   have hx3 : Blk w3 wr.heap.size 24 (bv y).toArray := by rw [hw3]; exact Blk.stored hx0
   have hb3 : Below wr.heap.size wr w3 := by rw [hw3]; exact below_row' ((Below.refl _ _).alloc (Nat.le_refl _) _) (Nat.le_refl _) _
   have hn3 : New F wr := HN.out.turn ht
   have ht3 : Turn F wr w3 := Turn.fresh hb3 hn3
   have hbl := box_load (Blk.stored hx0 (y := y)) hy32 0
   have HWID := Lib.hid (wid_s F g _ y hy32 w3 (ho.fresh hb3) (hn3.turn ht3) (by rw [List.length_append, List.length_append, b1_len, flat_take_len HOK.out k]; have := HL.out; have := HLO.out; have := Nat.min_le_left k L.length; omega))
   have HY := Lib.hid hy32
   have HX0 := Lib.hid hx0
   have HT3 := Lib.hid (ht.trans ht3)
   have HW3 := Lib.hid hw3
   clear ho ht hrv hld hsn hw3 hx0 hx3 hb3 hn3 ht3 hy hy32 hlt hk
   go_wp2_with (first
    | ((with_reducible refine step_load (t := 24) (x := .tmp 14) (p := ?lpwi1) (v := ?lvwi1) ?lgwi1 ?lowi1 ?lxwi1 ?lrwi1 ?lhwi1); (case lgwi1 => rfl); (case lowi1 => rfl); (case lxwi1 => rfl); (case lrwi1 => exact hld0))
    | ((with_reducible refine step_store_id (x := .tmp 5) (y := .tmp 15) (g := ?srwi3) (z := ?szwi3) (y' := ?sywi3) ?sgwi3 ?sowi3 ?sawi3 ?sbwi3 ?scwi3 ?sdwi3 ?sewi3 ?shwi3); (case sgwi3 => rfl); (case sowi3 => rfl); (case sawi3 => rfl); (case sbwi3 => rfl); (case scwi3 => exact HX0.out); (case sdwi3 => exact zid_len); (case sewi3 => exact HY.out))
    | ((with_reducible refine step_load (t := 24) (x := .tmp 5) (p := ?lpwi2) (v := ?lvwi2) ?lgwi2 ?lowi2 ?lxwi2 ?lrwi2 ?lhwi2); (case lgwi2 => rfl); (case lowi2 => rfl); (case lxwi2 => rfl); (case lrwi2 => exact hbl))
    | (go_at_call 83; go_loud (refine lcalls_at HW3.out.symm ?_; refine HWID.out.mono ?_; rintro e w4 ⟨rfl, hr4, ht4⟩); have HR4 := Lib.hid hr4; have HT4 := Lib.hid ht4; clear hr4 ht4))
   go_roundw
   case rel => exact ⟨k + 1, by omega, by push_cast; rfl, by rw [HSN.out, ← List.append_assoc]; exact HR4.out, HT3.out.trans HT4.out⟩
   case measure => simp [intOf]; omega
  ·
   obtain rfl : k = L.length := by omega
   have HE : Hid (out ++ idl L = out ++ b1 L.length ++ (L.take L.length).flatten) := Lib.hid (by rw [List.take_length]; unfold idl; rw [List.append_assoc])
   clear hlt ho ht hk
   go_wp2_with fail
   go_end0
   exact ⟨rfl, by rw [HE.out]; exact HO.out, HT.out⟩
end Go.Proofs.YtpeneeddfgmjpaaGreatDoor.opn

namespace Go.Proofs.YtpeneeddfgmjpaaGreatDoor.opn
open Go.RowKit Go.Proofs.YtpeneeddfgmjpaaGreatDoor.mem

theorem wtext_s (F : Nat → Prop) (g : Nat) (out : List UInt8) (s : ByteArray) (w : World) (h : oct.WrIs w F g out 0) (hn : New F w) (hl : out.length ≤ 1000) (hs : s.size < 256) :
  Calls Tryz.prog 82 #[.pointer (some ⟨g, 0, none⟩), .string s] w fun e w' => e = .returned (.tuple #[]) ∧ oct.WrIs w' F g (out ++ txt s.data.toList) 0 ∧ Turn F w w' := by
 have HNUM := Lib.hid (wnum1_s F g out s.size (Int.natCast_nonneg _) (by omega) w h hn (by omega))
 have HRAW := Lib.hid (fun (u : World) (hu : oct.WrIs u F g (out ++ b1 s.size) 0) (hn2 : New F u) => wraw_s F g (out ++ b1 s.size) s u hu hn2 (by rw [List.length_append, b1_len]; omega) (by omega))
 have HN := Lib.hid hn
 have HT : Hid (out ++ txt s.data.toList = out ++ b1 s.size ++ s.data.toList) := Lib.hid (by unfold txt; rw [Array.length_toList, List.append_assoc]; rfl)
 rw [HT.out]
 clear h hn hl hs
 go_enter Tryz.func82, Tryz.ntmps82
 go_wp2_with (first
  | (go_at_call 81; (with_reducible refine HNUM.out.mono ?_); rintro e w2 ⟨rfl, hr2, ht2⟩; have H2 := Lib.hid (HRAW.out w2 hr2 (HN.out.turn ht2)); clear hr2)
  | (go_at_call 107; (with_reducible refine H2.out.mono ?_); rintro e w3 ⟨rfl, hr3, ht3⟩))
 go_end0
 exact ⟨rfl, hr3, ht2.trans ht3⟩
end Go.Proofs.YtpeneeddfgmjpaaGreatDoor.opn
