/-
  (*Hash).take: bytes behind those that were taken.
  New, Len, Write, Sum: what each call of package sha answers and leaves.
  (*Hash).Sum of a Hash that New made, and Sum.
  Sum of a text; (*Hash).Sum of one that nobody made.
-/
import Derived.Test.YtpeneeddfgmjpaaGreatDoorHash
import Derived.Deep.RegionHeld3
import Derived.Deep.RegionWith
import Derived.Test.YtpeneeddfgmjpaaGreatDoorIda
namespace Go.Proofs.YtpeneeddfgmjpaaGreatDoor.sha
open Go.RowKit Go.Proofs.YtpeneeddfgmjpaaGreatDoor.mem

theorem Tab.turn {F : Nat → Prop} {w w' : World} (h : Tab w) (ht : Turn F w w') (hF : ∀ k, F k → 2 + 1 ≤ k) : Tab w' := h.below (ht.below hF) (Nat.le_refl _)
def strOf : Value → Nat
 | .string s => s.size
 | _ => 0
theorem HBlk.len_set {w : World} {g : Nat} {ws : W8} {bl : List UInt8} {n : Int} (h : HBlk w g ws bl n) (hbl : bl.length = 64) (m : Int) : HBlk (w.setCell ⟨g, 73, none⟩ (.int .i64 m)) g ws bl m := by
 have := Blk.set_ h 73 (.int .i64 m)
 rw [List.setIfInBounds_toArray] at this
 have e : (Value.bool true :: (uv (wList ws) ++ (bv bl ++ [.int .i64 n]))).set 73 (.int .i64 m) = Value.bool true :: (uv (wList ws) ++ (bv bl ++ [.int .i64 m])) := by
  have e8 : (uv (wList ws)).length = 8 := rfl
  have e64 : (bv bl).length = 64 := by rw [bv_length, hbl]
  rw [List.set_cons_succ, List.set_append_right _ _ (by rw [e8]; decide), List.set_append_right _ _ (by rw [e8, e64]; decide), e8, e64]
  rfl
 rw [e] at this
 exact this

/-- what the last statement keeps -/
def TakeIs (w0 : World) (g : Nat) (ws : W8) (bl : List UInt8) (n : Int) (w : World) : Prop := HBlk w g ws bl n ∧ Tab w ∧ Turn (fun k => k = g ∨ w0.heap.size ≤ k) w0 w
theorem TakeIs.next {w0 w w' : World} {g : Nat} {ws : W8} {bl : List UInt8} {n : Int} (h : TakeIs w0 g ws bl n w) (hb : Below w.heap.size w w') : TakeIs w0 g ws bl n w' :=
 ⟨Blk.below h.1 hb (Blk.lt h.1), h.2.1.next hb, h.2.2.trans (Turn.fresh hb fun _ hk => .inr (Nat.le_trans h.2.2.size hk))⟩
theorem TakeIs.drew {w0 w : World} {g : Nat} {ws : W8} {bl : List UInt8} {n : Int} (h : TakeIs w0 g ws bl n w) : TakeIs w0 g ws bl n w.drew := ⟨h.1, h.2.1, h.2.2.drew⟩
/-- an array out of the middle of a block -/
theorem run_loadAt_mid (w : World) (g off n : Nat) (ty e : TypeId) (cs : List Value) (hc : ∀ j v, cs[j]? = some v → w.cell? ⟨g, off + j, none⟩ = some v) (hu : Tryz.prog.underlying ty = some (.array n e)) (hi : (Tryz.prog.info? ty).map (·.size) = some cs.length) :
  (Instr.loadAt ty (.pointer (some ⟨g, off, none⟩))).run Tryz.prog w = .ok (.agg cs.toArray) w := by
 have hl : (loadCells ⟨g, off, none⟩ cs.length).run Tryz.prog w = .ok cs.toArray w :=
  run_loadCells_list (P := Tryz.prog) w ⟨g, off, none⟩ cs (fun j v hv => by
   have hadd : (⟨g, off, none⟩ : Addr).add j = ⟨g, off + j, none⟩ := by unfold Addr.add; split <;> simp_all
   rw [hadd]
   exact hc j v hv)
 cases hq : Tryz.prog.info? ty with
 | none => simp [hq] at hi
 | some i =>
  have hs : i.size = cs.length := by simpa [hq] using hi
  have hagg : (isAgg ty).run Tryz.prog w = .ok true w := by
   unfold isAgg
   rw [Sem.run_bind, run_underlying hu w]
   rfl
  simp [Instr.loadAt, Instr.sureAddr, loadVar, Sem.run_bind, hagg, sizeOf, typeInfo, hq, hs, hl]
theorem run_exec_load {ρ : Operand → Value} {o : Oper} {x : Operand} {t : TypeId} {p v : Value} {w : World} (ho : o.op = .load t x) (hx : ρ x = p) (h : (Instr.loadAt t p).run Tryz.prog w = .ok v w) :
  (execOp ρ o).run Tryz.prog w = .ok (.value v) w := by
 unfold execOp
 simp [ho, hx, h]
theorem HBlk.run_words {w : World} {g : Nat} {ws : W8} {bl : List UInt8} {n : Int} (h : HBlk w g ws bl n) : (Instr.loadAt 106 (.pointer (some ⟨g, 1, none⟩))).run Tryz.prog w = .ok (.agg (uv (wList ws)).toArray) w := by
 refine run_loadAt_mid w g 1 8 _ 97 (uv (wList ws)) (fun j v hv => ?_) Tryz.underlying106 (by rw [info38]; rfl)
 have hj : j < 8 := (List.getElem?_eq_some_iff.1 hv).1
 rw [h.word j hj, ← hv]
 exact (uv_get _ _ hj).symm
theorem info39 : (Tryz.prog.info? 153).map (·.size) = some 64 := by kernel_rfl
theorem HBlk.run_block {w : World} {g : Nat} {ws : W8} {bl : List UInt8} {n : Int} (h : HBlk w g ws bl n) (hbl : bl.length = 64) : (Instr.loadAt 153 (.pointer (some ⟨g, 9, none⟩))).run Tryz.prog w = .ok (.agg (bv bl).toArray) w := by
 refine run_loadAt_mid w g 9 64 _ 5 (bv bl) (fun j v hv => ?_) Tryz.underlying153 (by rw [info39, bv_length, hbl])
 have hj : j < bl.length := by rw [← bv_length]; exact (List.getElem?_eq_some_iff.1 hv).1
 rw [h.byte j hj, ← hv]
 exact (bv_get _ _ hj).symm

/-- other words into a Hash's block -/
def wordsRow (cur : List Value) (ws : W8) : Array Value := (cur.take 1 ++ uv (wList ws) ++ cur.drop 9).toArray
theorem HBlk.stored {w : World} {g : Nat} {ws : W8} {bl : List UInt8} {n : Int} (h : HBlk w g ws bl n) (ws' : W8) :
  HBlk (w.setRow g (wordsRow (Value.bool true :: (uv (wList ws) ++ (bv bl ++ [.int .i64 n]))) ws')) g ws' bl n := by
 have h2 := setRow_heap w g _ (wordsRow (Value.bool true :: (uv (wList ws) ++ (bv bl ++ [.int .i64 n]))) ws') _ _ h
 unfold HBlk Blk
 rw [h2]
 rfl
theorem HBlk.run_store {w : World} {g : Nat} {ws : W8} {bl : List UInt8} {n : Int} (h : HBlk w g ws bl n) (ws' : W8) :
  (Instr.storeAt 106 (.pointer (some ⟨g, 1, none⟩)) (.agg (uv (wList ws')).toArray)).run Tryz.prog w = .ok () (w.setRow g (wordsRow (Value.bool true :: (uv (wList ws) ++ (bv bl ++ [.int .i64 n]))) ws')) := by
 have hst := run_storeCells_at Tryz.prog g 1 _ (uv (wList ws')) 0 _ w h (by
  simp only [List.size_toArray, List.length_cons, List.length_append]
  have e : (uv (wList ws')).length = 8 := rfl
  have e8 : (uv (wList ws)).length = 8 := rfl
  omega) (by
  intro v hv
  simp only [uv, List.mem_map] at hv
  obtain ⟨x, _, rfl⟩ := hv
  rfl)
 cases hq : Tryz.prog.info? 106 with
 | none => have := info38; simp [hq] at this
 | some i =>
  have hs : i.size = 8 := by have := info38; simpa [hq] using this
  have e : (uv (wList ws')).toArray.size = 8 := rfl
  simp only [Instr.storeAt, Instr.sureAddr, storeVar, sizeOf, typeInfo, Value.cells, Sem.run_bind, Sem.run_pure, Result.andThen_ok]
  simp [hq, hs, e, hst]
  rfl
theorem want_load {ops : Array Oper} {o : Oper} {a : Act} {w : World} {K : Act → World → Prop} {Q : Exit → Act → World → Prop} {E : Prop} {t : TypeId} {x : Operand} {p v : Value} (hg : o.guard = none)
  (ho : o.op = .load t x) (hx : a.eval x = p) (h : (Instr.loadAt t p).run Tryz.prog w = .ok v w) (hK : K (a.put o.dst v) w) :
  if Region.wanted o (yielded ops a.tmps) = true then Oper.wp Tryz.prog o a w K Q else E := by
 have hw : Region.wanted o (yielded ops a.tmps) = true := by simp [Region.wanted, hg]
 rw [if_pos hw]
 unfold Oper.wp
 rw [run_exec_load ho hx h]
 exact hK
theorem want_store {ops : Array Oper} {o : Oper} {a : Act} {w : World} {K : Act → World → Prop} {Q : Exit → Act → World → Prop} {E : Prop} {x y : Operand} {g : Nat} {ws ws' : W8} {bl : List UInt8} {n : Int} (hg : o.guard = none)
  (ho : o.op = .store 106 x y) (hx : a.eval x = .pointer (some ⟨g, 1, none⟩)) (hy : a.eval y = .agg (uv (wList ws')).toArray) (h : HBlk w g ws bl n)
  (hK : ∀ w', HBlk w' g ws' bl n → Turn (· = g) w w' → K (a.put o.dst undef) w') :
  if Region.wanted o (yielded ops a.tmps) = true then Oper.wp Tryz.prog o a w K Q else E := by
 have hw : Region.wanted o (yielded ops a.tmps) = true := by simp [Region.wanted, hg]
 rw [if_pos hw]
 unfold Oper.wp execOp
 simp only [ho, hx, hy, Sem.run_bind, h.run_store ws', Result.andThen_ok]
 exact hK _ (h.stored ws') ⟨rfl, rfl, rfl, by simp, fun k hk => setRow_other w g k _ hk⟩

set_option maxRecDepth 100000 in
theorem take_any (g : Nat) (l : List UInt8) (s : ByteArray) (w : World) (h : HashIs w g l) (hT : Tab w) (hg : 2 + 1 ≤ g) (hl : l.length + s.size ≤ 1099511627776) :
  Calls Tryz.prog 86 #[.pointer (some ⟨g, 0, none⟩), .string s] w fun e w' => e = .returned (.tuple #[]) ∧ HashIs w' g (l ++ s.data.toList) ∧ Turn (fun k => k = g ∨ w.heap.size ≤ k) w w' := by
 have HH := Lib.hid h
 have HT := Lib.hid hT
 clear h hT
 go_enter Tryz.func86, Tryz.ntmps86
 go_wp2_with fail
 go_loopw [1] (fun v wr => ∃ (rest : ByteArray) (done : List UInt8), v = .string rest ∧ done ++ rest.data.toList = l ++ s.data.toList ∧ HashIs wr g done ∧ Turn (fun k => k = g ∨ w.heap.size ≤ k) w wr) (fun v _ => strOf v)
 case atStart => exact ⟨s, l, rfl, rfl, HH.out, Turn.refl _ _⟩
 case round =>
  clear HH
  obtain ⟨rest, done, rfl, hcat, hH, hTu⟩ := hrel
  by_cases hr0 : rest.size = 0
  ·
   have he : rest.data.toList = [] := List.eq_nil_of_length_eq_zero (by rw [← Lib.size_eq]; exact hr0)
   have hb : rest.toList.isEmpty = true := by rw [ByteArray.toList_eq, he]; rfl
   have HX : Hid (HashIs wr g (l ++ s.data.toList) ∧ Turn (fun k => k = g ∨ w.heap.size ≤ k) w wr) := Lib.hid ⟨by rw [← hcat, he, List.append_nil]; exact hH, hTu⟩
   clear hH hTu hcat he hr0
   go_wp2_with fail
   go_end0
   exact ⟨rfl, HX.out⟩
  ·
   have hb : rest.toList.isEmpty = false := by
    rw [ByteArray.toList_eq]
    cases e : rest.data.toList with
    | nil => rw [Lib.size_eq, e] at hr0; exact absurd rfl hr0
    | cons _ _ => rfl
   obtain ⟨bl, hbl, hB, htk⟩ := hH
   obtain ⟨r, hr⟩ : ∃ r, r = done.length % 64 := ⟨_, rfl⟩
   have hr1 : r < 64 := by omega
   obtain ⟨m, hm⟩ : ∃ m, m = min rest.size (64 - r) := ⟨_, rfl⟩
   have hdl : done.length + rest.size ≤ 1099511627776 := by
    have := congrArg List.length hcat
    rw [List.length_append, List.length_append, ← Lib.size_eq, ← Lib.size_eq] at this
    omega
   have c73 := hB.len hbl
   have f73 := Blk.frozen hB 73
   obtain ⟨n, hn⟩ : ∃ n, n = done.length := ⟨_, rfl⟩
   rw [← hn] at c73
   have n0 : (0 : Int) ≤ (n : Int) := Int.natCast_nonneg _
   have n1 : (n : Int) ≤ 1099511627776 := by omega
   have hcopy := fun ty : TypeId => run_copy_min wr.drew ty g (9 + r) (64 - r) (64 - r) rest _ _ hB (by
    have e8 : (uv (wList (fb done (done.length / 64)))).length = 8 := rfl
    have e64 : (bv bl).length = 64 := by rw [bv_length, hbl]
    simp only [List.size_toArray, List.length_cons, List.length_append, e8, e64, List.length_nil]
    omega)
   have hB' := HBlk.copied (w := wr.drew) hB hbl r (rest.data.toList.take m) (by rw [List.length_take, ← Lib.size_eq]; omega)
   have e3 : (rest.data.toList.take m).length = m := by rw [List.length_take, ← Lib.size_eq]; omega
   rw [e3] at hB'
   rw [← hm] at hcopy
   obtain ⟨w2, hw2⟩ : ∃ x, x = (wr.drew.setRow g ((Value.bool true :: (uv (wList (fb done (done.length / 64))) ++ (bv bl ++ [.int .i64 (done.length : Int)]))).take (9 + r) ++ bv (rest.data.toList.take m) ++ (Value.bool true :: (uv (wList (fb done (done.length / 64))) ++ (bv bl ++ [.int .i64 (done.length : Int)]))).drop (9 + r + m)).toArray) := ⟨_, rfl⟩
   rw [← hw2] at hB'
   have hcopy2 : ∀ ty : TypeId, (Builtin.copy_ #[42, 9] ty #[.slice (some ⟨g, 9 + r, none⟩) (64 - r) (64 - r), .string rest]).run Tryz.prog wr.drew = .ok (goInt (m : Int)) w2 := fun ty => by rw [hw2]; exact hcopy ty
   have hT2 : Turn (fun k => k = g ∨ w.heap.size ≤ k) w w2 := by
    rw [hw2]
    exact hTu.trans ⟨rfl, rfl, rfl, by simp, fun k hk => setRow_other wr.drew g k _ (fun e => hk (.inl e))⟩
   have HB := Lib.hid hB'
   have HT2 := Lib.hid hT2
   have HK := Lib.hid htk
   have HL := Lib.hid hbl
   have HN := Lib.hid hn
   have HM := Lib.hid hm
   have HC := Lib.hid hcat
   have hrI : (n : Int) % 64 = (r : Int) := by omega
   have hr2 : (r : Int) < 64 := by omega
   have r0 : (0 : Int) ≤ (r : Int) := Int.natCast_nonneg _
   have HR := Lib.hid hr
   have hsl := fun u : World => run_slice_block g r ((n : Int) % 64) hrI hr1 u
   have hsl2 := fun u : World => run_slice_block g r (r : Int) rfl hr1 u
   have hsl3 := fun u : World => run_slice_block g r ((n : Int).tmod 64) (by rw [Int.tmod_eq_emod_of_nonneg n0]; exact hrI) hr1 u
   clear hB' hT2 htk hbl hn hm hcat hB hTu hcopy hw2 e3 hr
   go_wp2_with fail
   go_region
   clear hsl hsl2 hsl3 hrI c73 f73 hcopy2
   obtain ⟨p, hp⟩ : ∃ p, p = rest.data.toList.take m := ⟨_, rfl⟩
   have hpl : p.length = m := by rw [hp, List.length_take, ← Lib.size_eq]; have := HM.out; omega
   have hm0 : 0 < m := by have := HM.out; omega
   have hms : m ≤ rest.size := by have := HM.out; omega
   have hm64 : r + m ≤ 64 := by have := HM.out; omega
   have hpart : r + m < 64 → m = rest.size := fun h => by have := HM.out; omega
   obtain ⟨bq, hbq⟩ : ∃ b, b = put bl r p := ⟨_, rfl⟩
   have hbql : bq.length = 64 := by rw [hbq, put_length _ _ _ (by rw [hpl, HL.out]; exact hm64), HL.out]
   have hB2 : HBlk w2 g (fb done (done.length / 64)) bq (n : Int) := by rw [hbq, hp, HN.out]; exact HB.out
   have c73 := hB2.len hbql
   have f73 := Blk.frozen hB2 73
   have hB3 := hB2.len_set hbql ((n : Int) + (m : Int))
   have hT3 : Turn (fun k => k = g ∨ w.heap.size ≤ k) w (w2.setCell ⟨g, 73, none⟩ (.int .i64 ((n : Int) + (m : Int)))) := HT2.out.setCell (.inl rfl) _
   have hms' : (m : Int) ≤ (rest.size : Int) := by omega
   have m0 : (0 : Int) ≤ (m : Int) := by omega
   have m1 : (m : Int) ≤ 64 := by omega
   have HB3 := Lib.hid hB3
   obtain ⟨w3, hw3⟩ : ∃ x, x = w2.setCell ⟨g, 73, none⟩ (.int .i64 ((n : Int) + (m : Int))) := ⟨_, rfl⟩
   have HS3 : Hid (TakeIs w g (fb done (done.length / 64)) bq ((n : Int) + (m : Int)) w3) := Lib.hid (by
    rw [hw3]
    exact ⟨hB3, HT.out.turn hT3 (fun k hk => hk.elim (fun e => e ▸ hg) (fun h => Nat.le_trans HT.out.1 h)), hT3⟩)
   have HW3 := Lib.hid hw3
   clear hw3
   have HT3 := Lib.hid hT3
   have HP := Lib.hid hp
   have HPL := Lib.hid hpl
   have HQ := Lib.hid hbq
   have HQL := Lib.hid hbql
   have HRP := Lib.hid hpart
   have hext : (rest.extract m rest.size).data.toList = rest.data.toList.drop m := by
    rw [ByteArray.data_extract, Array.toList_extract, List.extract_eq_take_drop, List.take_of_length_le]
    rw [List.length_drop, ← Lib.size_eq]
    exact Nat.le_refl _
   have HE := Lib.hid hext
   have HD : Hid ((done ++ p) ++ (rest.extract m rest.size).data.toList = l ++ s.data.toList) := Lib.hid (by rw [hext, hp, List.append_assoc, List.take_append_drop]; exact HC.out)
   clear hB2 hB3 hT3 hp hpl hbq hbql hpart hext
   by_cases hq : r + m = 64
   ·
    have ht : (((n : Int) + (m : Int)) % 64 == 0) = true := by have := HN.out; have := HR.out; simp; omega
    have HQ64 := Lib.hid hq
    clear hq
    go_wp2_with fail
    have HXX : Hid (∀ w9, HBlk w9 g (turn (fb done (done.length / 64)) (sched bq)) bq ((n : Int) + (m : Int)) → HashIs w9 g (done ++ p)) := Lib.hid (fun w9 h9 => HashIs.whole HL.out HK.out (by rw [← HR.out, HPL.out]; exact HQ64.out) (by
      have e : ((done.length + m : Nat) : Int) = (n : Int) + (m : Int) := by rw [HN.out]; push_cast; rfl
      rw [← HR.out, ← HQ.out, HPL.out, e]
      exact h9))
    refine wp_at HW3.out.symm ?_
    refine wp_region_any (by kernel_rfl) ?_
    have hHeld := HS3.out.drew
    refine' wpAny_take (i := 0) ?hiz1 (by kernel_rfl) (by kernel_rfl) (by kernel_rfl) ?hqz1 (Or.inl ⟨?hwz1, ?hyz1⟩) ?hrz1
    case hiz1 => (simp only [List.getElem?_toArray, List.getElem?_cons_zero]; rfl)
    case hqz1 => exact fun _ _ _ h => h
    case hwz1 => rfl
    case hyz1 => (intro w0; go_simp; try with_reducible rfl)
    (try simp only [Act.put, List.setIfInBounds_toArray, List.set_cons_zero, List.set_cons_succ])
    refine' wpAny_take (i := 1) ?hiz2 (by kernel_rfl) (by kernel_rfl) (by kernel_rfl) ?hqz2 (Or.inl ⟨?hwz2, ?hyz2⟩) ?hrz2
    case hiz2 => (simp only [List.getElem?_toArray, List.getElem?_cons_succ, List.getElem?_cons_zero]; rfl)
    case hqz2 => exact fun _ _ _ h => h
    case hwz2 => rfl
    case hyz2 => (intro w0; go_simp; try with_reducible rfl)
    (try simp only [Act.put, List.setIfInBounds_toArray, List.set_cons_zero, List.set_cons_succ])
    refine' wpAny_take (i := 2) ?hiz3 (by kernel_rfl) (by kernel_rfl) (by kernel_rfl) ?hqz3 (Or.inl ⟨?hwz3, ?hyz3⟩) ?hrz3
    case hiz3 => (simp only [List.getElem?_toArray, List.getElem?_cons_succ, List.getElem?_cons_zero]; rfl)
    case hqz3 => exact fun _ _ _ h => h
    case hwz3 => rfl
    case hyz3 => (intro w0; go_simp; try with_reducible rfl)
    (try simp only [Act.put, List.setIfInBounds_toArray, List.set_cons_zero, List.set_cons_succ])
    refine' wpAny_take (i := 3) ?hiz4 (by kernel_rfl) (by kernel_rfl) (by kernel_rfl) ?hqz4 (Or.inl ⟨?hwz4, ?hyz4⟩) ?hrz4
    case hiz4 => (simp only [List.getElem?_toArray, List.getElem?_cons_succ, List.getElem?_cons_zero]; rfl)
    case hqz4 => exact fun _ _ _ h => h
    case hwz4 => rfl
    case hyz4 => (intro w0; go_simp; try with_reducible rfl)
    (try simp only [Act.put, List.setIfInBounds_toArray, List.set_cons_zero, List.set_cons_succ])
    refine' wpAny_take (i := 5) ?hiz5 (by kernel_rfl) (by kernel_rfl) (by kernel_rfl) ?hqz5 (Or.inl ⟨?hwz5, ?hyz5⟩) ?hrz5
    case hiz5 => (simp only [List.getElem?_toArray, List.getElem?_cons_succ, List.getElem?_cons_zero]; rfl)
    case hqz5 => exact fun _ _ _ h => h
    case hwz5 => rfl
    case hyz5 => (intro w0; go_simp; try with_reducible rfl)
    (try simp only [Act.put, List.setIfInBounds_toArray, List.set_cons_zero, List.set_cons_succ])
    refine' wpAny_take (i := 6) ?hiz6 (by kernel_rfl) (by kernel_rfl) (by kernel_rfl) ?hqz6 (Or.inl ⟨?hwz6, ?hyz6⟩) ?hrz6
    case hiz6 => (simp only [List.getElem?_toArray, List.getElem?_cons_succ, List.getElem?_cons_zero]; rfl)
    case hqz6 => exact fun _ _ _ h => h
    case hwz6 => rfl
    case hyz6 => (intro w0; go_simp; try with_reducible rfl)
    (try simp only [Act.put, List.setIfInBounds_toArray, List.set_cons_zero, List.set_cons_succ])
    refine' wpAny_take (i := 7) ?hiz7 (by kernel_rfl) (by kernel_rfl) (by kernel_rfl) ?hqz7 (Or.inl ⟨?hwz7, ?hyz7⟩) ?hrz7
    case hiz7 => (simp only [List.getElem?_toArray, List.getElem?_cons_succ, List.getElem?_cons_zero]; rfl)
    case hqz7 => exact fun _ _ _ h => h
    case hwz7 => rfl
    case hyz7 => (intro w0; go_simp; try with_reducible rfl)
    (try simp only [Act.put, List.setIfInBounds_toArray, List.set_cons_zero, List.set_cons_succ])
    refine wpAny_ready (rs := [4, 8]) (by kernel_rfl) (by simp) ?_
    refine' AllReady.cons ?haz25 (fun K hK => ?hcz25) (AllReady.cons ?hbz25 (fun K hK => ?hdz25) AllReady.nil)
    case haz25 => (simp only [List.getElem?_toArray, List.getElem?_cons_succ, List.getElem?_cons_zero]; rfl)
    case hbz25 => (simp only [List.getElem?_toArray, List.getElem?_cons_succ, List.getElem?_cons_zero]; rfl)
    case hcz25 =>
     refine want_load rfl rfl rfl hHeld.1.run_words (hK _ _ ?_)
     clear hK K
     (try simp only [Act.put, List.setIfInBounds_toArray, List.set_cons_zero, List.set_cons_succ])
     refine wpAny_ready (rs := [8]) (by kernel_rfl) (by simp) ?_
     refine' AllReady.cons ?hiz8 (fun K hK => ?hrz8) AllReady.nil
     case hiz8 => (simp only [List.getElem?_toArray, List.getElem?_cons_succ, List.getElem?_cons_zero]; rfl)
     refine want_load rfl rfl rfl (hHeld.1.run_block HQL.out) (hK _ _ ?_)
     clear hK K
     (try simp only [Act.put, List.setIfInBounds_toArray, List.set_cons_zero, List.set_cons_succ])
     refine wpAny_ready (rs := [9]) (by kernel_rfl) (by simp) ?_
     refine' AllReady.cons ?hiz9 (fun K hK => ?hrz9) AllReady.nil
     case hiz9 => (simp only [List.getElem?_toArray, List.getElem?_cons_succ, List.getElem?_cons_zero]; rfl)
     go_simp
     (refine (spread_any bq HQL.out _).mono ?_; rintro e wA ⟨rfl, hbA⟩)
     replace hHeld := hHeld.next hbA
     clear hbA
     refine hK _ _ ?_
     clear hK K
     (try simp only [Act.put, List.setIfInBounds_toArray, List.set_cons_zero, List.set_cons_succ])
     refine wpAny_ready (rs := [10]) (by kernel_rfl) (by simp) ?_
     refine' AllReady.cons ?hiz10 (fun K hK => ?hrz10) AllReady.nil
     case hiz10 => (simp only [List.getElem?_toArray, List.getElem?_cons_succ, List.getElem?_cons_zero]; rfl)
     go_simp
     (refine (turn_any _ (sched bq) (wl_length _ _) _ hHeld.2.1).mono ?_; rintro e wB ⟨rfl, hbB⟩)
     replace hHeld := hHeld.next hbB
     clear hbB
     refine hK _ _ ?_
     clear hK K
     (try simp only [Act.put, List.setIfInBounds_toArray, List.set_cons_zero, List.set_cons_succ])
     refine' wpAny_take (i := 11) ?hiz11 (by kernel_rfl) (by kernel_rfl) (by kernel_rfl) ?hqz11 (Or.inl ⟨?hwz11, ?hyz11⟩) ?hrz11
     case hiz11 => (simp only [List.getElem?_toArray, List.getElem?_cons_succ, List.getElem?_cons_zero]; rfl)
     case hqz11 => exact fun _ _ _ h => h
     case hwz11 => rfl
     case hyz11 => (intro w0; go_simp; try with_reducible rfl)
     (try simp only [Act.put, List.setIfInBounds_toArray, List.set_cons_zero, List.set_cons_succ])
     refine' wpAny_take (i := 12) ?hiz12 (by kernel_rfl) (by kernel_rfl) (by kernel_rfl) ?hqz12 (Or.inl ⟨?hwz12, ?hyz12⟩) ?hrz12
     case hiz12 => (simp only [List.getElem?_toArray, List.getElem?_cons_succ, List.getElem?_cons_zero]; rfl)
     case hqz12 => exact fun _ _ _ h => h
     case hwz12 => rfl
     case hyz12 => (intro w0; go_simp; try with_reducible rfl)
     (try simp only [Act.put, List.setIfInBounds_toArray, List.set_cons_zero, List.set_cons_succ])
     have hHT := fun w9 (h : Turn (· = g) _ w9) => hHeld.2.2.trans (h.mono fun k hk => (Or.inl hk : k = g ∨ w.heap.size ≤ k))
     refine wpAny_ready (rs := [13]) (by kernel_rfl) (by simp) ?_
     refine' AllReady.cons ?hiz13 (fun K hK => ?hrz13) AllReady.nil
     case hiz13 => (simp only [List.getElem?_toArray, List.getElem?_cons_succ, List.getElem?_cons_zero]; rfl)
     refine want_store (ws' := turn (fb done (done.length / 64)) (sched bq)) rfl rfl rfl rfl hHeld.1 (fun w9 hB9 hT9 => hK _ _ ?_)
     clear hK K
     (try simp only [Act.put])
     refine wpAny_done (by kernel_rfl) ?_ _
     clear hHeld
     go_wp2_with fail
     go_roundw
     case rel => exact ⟨rest.extract m rest.size, done ++ p, rfl, HD.out, HXX.out _ hB9, hHT _ hT9⟩
     case measure => (simp only [strOf, ByteArray.size_extract]; omega)
    case hdz25 =>
     refine want_load rfl rfl rfl (hHeld.1.run_block HQL.out) (hK _ _ ?_)
     clear hK K
     (try simp only [Act.put, List.setIfInBounds_toArray, List.set_cons_zero, List.set_cons_succ])
     refine wpAny_ready (rs := [4, 9]) (by kernel_rfl) (by simp) ?_
     refine' AllReady.cons ?haz24 (fun K hK => ?hcz24) (AllReady.cons ?hbz24 (fun K hK => ?hdz24) AllReady.nil)
     case haz24 => (simp only [List.getElem?_toArray, List.getElem?_cons_succ, List.getElem?_cons_zero]; rfl)
     case hbz24 => (simp only [List.getElem?_toArray, List.getElem?_cons_succ, List.getElem?_cons_zero]; rfl)
     case hcz24 =>
      refine want_load rfl rfl rfl hHeld.1.run_words (hK _ _ ?_)
      clear hK K
      (try simp only [Act.put, List.setIfInBounds_toArray, List.set_cons_zero, List.set_cons_succ])
      refine wpAny_ready (rs := [9]) (by kernel_rfl) (by simp) ?_
      refine' AllReady.cons ?hiz14 (fun K hK => ?hrz14) AllReady.nil
      case hiz14 => (simp only [List.getElem?_toArray, List.getElem?_cons_succ, List.getElem?_cons_zero]; rfl)
      go_simp
      (refine (spread_any bq HQL.out _).mono ?_; rintro e wA ⟨rfl, hbA⟩)
      replace hHeld := hHeld.next hbA
      clear hbA
      refine hK _ _ ?_
      clear hK K
      (try simp only [Act.put, List.setIfInBounds_toArray, List.set_cons_zero, List.set_cons_succ])
      refine wpAny_ready (rs := [10]) (by kernel_rfl) (by simp) ?_
      refine' AllReady.cons ?hiz15 (fun K hK => ?hrz15) AllReady.nil
      case hiz15 => (simp only [List.getElem?_toArray, List.getElem?_cons_succ, List.getElem?_cons_zero]; rfl)
      go_simp
      (refine (turn_any _ (sched bq) (wl_length _ _) _ hHeld.2.1).mono ?_; rintro e wB ⟨rfl, hbB⟩)
      replace hHeld := hHeld.next hbB
      clear hbB
      refine hK _ _ ?_
      clear hK K
      (try simp only [Act.put, List.setIfInBounds_toArray, List.set_cons_zero, List.set_cons_succ])
      refine' wpAny_take (i := 11) ?hiz16 (by kernel_rfl) (by kernel_rfl) (by kernel_rfl) ?hqz16 (Or.inl ⟨?hwz16, ?hyz16⟩) ?hrz16
      case hiz16 => (simp only [List.getElem?_toArray, List.getElem?_cons_succ, List.getElem?_cons_zero]; rfl)
      case hqz16 => exact fun _ _ _ h => h
      case hwz16 => rfl
      case hyz16 => (intro w0; go_simp; try with_reducible rfl)
      (try simp only [Act.put, List.setIfInBounds_toArray, List.set_cons_zero, List.set_cons_succ])
      refine' wpAny_take (i := 12) ?hiz17 (by kernel_rfl) (by kernel_rfl) (by kernel_rfl) ?hqz17 (Or.inl ⟨?hwz17, ?hyz17⟩) ?hrz17
      case hiz17 => (simp only [List.getElem?_toArray, List.getElem?_cons_succ, List.getElem?_cons_zero]; rfl)
      case hqz17 => exact fun _ _ _ h => h
      case hwz17 => rfl
      case hyz17 => (intro w0; go_simp; try with_reducible rfl)
      (try simp only [Act.put, List.setIfInBounds_toArray, List.set_cons_zero, List.set_cons_succ])
      have hHT := fun w9 (h : Turn (· = g) _ w9) => hHeld.2.2.trans (h.mono fun k hk => (Or.inl hk : k = g ∨ w.heap.size ≤ k))
      refine wpAny_ready (rs := [13]) (by kernel_rfl) (by simp) ?_
      refine' AllReady.cons ?hiz18 (fun K hK => ?hrz18) AllReady.nil
      case hiz18 => (simp only [List.getElem?_toArray, List.getElem?_cons_succ, List.getElem?_cons_zero]; rfl)
      refine want_store (ws' := turn (fb done (done.length / 64)) (sched bq)) rfl rfl rfl rfl hHeld.1 (fun w9 hB9 hT9 => hK _ _ ?_)
      clear hK K
      (try simp only [Act.put])
      refine wpAny_done (by kernel_rfl) ?_ _
      clear hHeld
      go_wp2_with fail
      go_roundw
      case rel => exact ⟨rest.extract m rest.size, done ++ p, rfl, HD.out, HXX.out _ hB9, hHT _ hT9⟩
      case measure => (simp only [strOf, ByteArray.size_extract]; omega)
     case hdz24 =>
      go_simp
      (refine (spread_any bq HQL.out _).mono ?_; rintro e wA ⟨rfl, hbA⟩)
      replace hHeld := hHeld.next hbA
      clear hbA
      refine hK _ _ ?_
      clear hK K
      (try simp only [Act.put, List.setIfInBounds_toArray, List.set_cons_zero, List.set_cons_succ])
      refine wpAny_ready (rs := [4]) (by kernel_rfl) (by simp) ?_
      refine' AllReady.cons ?hiz19 (fun K hK => ?hrz19) AllReady.nil
      case hiz19 => (simp only [List.getElem?_toArray, List.getElem?_cons_succ, List.getElem?_cons_zero]; rfl)
      refine want_load rfl rfl rfl hHeld.1.run_words (hK _ _ ?_)
      clear hK K
      (try simp only [Act.put, List.setIfInBounds_toArray, List.set_cons_zero, List.set_cons_succ])
      refine wpAny_ready (rs := [10]) (by kernel_rfl) (by simp) ?_
      refine' AllReady.cons ?hiz20 (fun K hK => ?hrz20) AllReady.nil
      case hiz20 => (simp only [List.getElem?_toArray, List.getElem?_cons_succ, List.getElem?_cons_zero]; rfl)
      go_simp
      (refine (turn_any _ (sched bq) (wl_length _ _) _ hHeld.2.1).mono ?_; rintro e wB ⟨rfl, hbB⟩)
      replace hHeld := hHeld.next hbB
      clear hbB
      refine hK _ _ ?_
      clear hK K
      (try simp only [Act.put, List.setIfInBounds_toArray, List.set_cons_zero, List.set_cons_succ])
      refine' wpAny_take (i := 11) ?hiz21 (by kernel_rfl) (by kernel_rfl) (by kernel_rfl) ?hqz21 (Or.inl ⟨?hwz21, ?hyz21⟩) ?hrz21
      case hiz21 => (simp only [List.getElem?_toArray, List.getElem?_cons_succ, List.getElem?_cons_zero]; rfl)
      case hqz21 => exact fun _ _ _ h => h
      case hwz21 => rfl
      case hyz21 => (intro w0; go_simp; try with_reducible rfl)
      (try simp only [Act.put, List.setIfInBounds_toArray, List.set_cons_zero, List.set_cons_succ])
      refine' wpAny_take (i := 12) ?hiz22 (by kernel_rfl) (by kernel_rfl) (by kernel_rfl) ?hqz22 (Or.inl ⟨?hwz22, ?hyz22⟩) ?hrz22
      case hiz22 => (simp only [List.getElem?_toArray, List.getElem?_cons_succ, List.getElem?_cons_zero]; rfl)
      case hqz22 => exact fun _ _ _ h => h
      case hwz22 => rfl
      case hyz22 => (intro w0; go_simp; try with_reducible rfl)
      (try simp only [Act.put, List.setIfInBounds_toArray, List.set_cons_zero, List.set_cons_succ])
      have hHT := fun w9 (h : Turn (· = g) _ w9) => hHeld.2.2.trans (h.mono fun k hk => (Or.inl hk : k = g ∨ w.heap.size ≤ k))
      refine wpAny_ready (rs := [13]) (by kernel_rfl) (by simp) ?_
      refine' AllReady.cons ?hiz23 (fun K hK => ?hrz23) AllReady.nil
      case hiz23 => (simp only [List.getElem?_toArray, List.getElem?_cons_succ, List.getElem?_cons_zero]; rfl)
      refine want_store (ws' := turn (fb done (done.length / 64)) (sched bq)) rfl rfl rfl rfl hHeld.1 (fun w9 hB9 hT9 => hK _ _ ?_)
      clear hK K
      (try simp only [Act.put])
      refine wpAny_done (by kernel_rfl) ?_ _
      clear hHeld
      go_wp2_with fail
      go_roundw
      case rel => exact ⟨rest.extract m rest.size, done ++ p, rfl, HD.out, HXX.out _ hB9, hHT _ hT9⟩
      case measure => (simp only [strOf, ByteArray.size_extract]; omega)
   ·
    have ht : (((n : Int) + (m : Int)) % 64 == 0) = false := by have := HN.out; have := HR.out; simp; omega
    have HQ64 := Lib.hid hq
    clear hq
    go_wp2_with fail
    go_roundw
    case rel =>
     refine ⟨rest.extract m rest.size, done ++ p, rfl, HD.out, ?_, HT3.out⟩
     refine HashIs.part HL.out HK.out (by rw [← HR.out, HPL.out]; have := HQ64.out; omega) ?_
     have e : ((done.length + m : Nat) : Int) = (n : Int) + (m : Int) := by rw [HN.out]; push_cast; rfl
     rw [← HR.out, ← HQ.out, HPL.out, e]
     exact HB3.out
    case measure =>
     simp only [strOf, ByteArray.size_extract]
     omega
end Go.Proofs.YtpeneeddfgmjpaaGreatDoor.sha

namespace Go.Proofs.YtpeneeddfgmjpaaGreatDoor.sha
open Go.RowKit Go.Proofs.YtpeneeddfgmjpaaGreatDoor.mem

theorem neq_h (a : Addr) (w : World) : (binOp .eql 118 (.pointer (some a)) (.pointer none)).run Tryz.prog w = .ok (.bool false) w := by
 have h1 : ∀ d : Nat, (Op.equalIn (d + 1) 118 (.pointer (some a)) (.pointer none)).run Tryz.prog w = .ok false w := fun d => by
  simp [Op.equalIn, run_underlying Tryz.underlying118]
 simp only [binOp]
 simp [Op.equal, Op.maxDepth, h1 9999]

theorem HashIs.lt {w : World} {g : Nat} {l : List UInt8} (h : HashIs w g l) : g < w.heap.size := by obtain ⟨_, _, hB, _⟩ := h; exact Blk.lt hB
theorem HashIs.below {w w' : World} {g B : Nat} {l : List UInt8} (h : HashIs w g l) (hb : Below B w w') (hg : g < B) : HashIs w' g l := by
 obtain ⟨bl, h1, hB, h2⟩ := h
 exact ⟨bl, h1, Blk.below hB hb hg, h2⟩
theorem HashIs.next {w w' : World} {g : Nat} {l : List UInt8} (h : HashIs w g l) (hb : Below w.heap.size w w') : HashIs w' g l := h.below hb h.lt
theorem HashIs.c0 {w : World} {g : Nat} {l : List UInt8} (h : HashIs w g l) : w.cell? ⟨g, 0, none⟩ = some (.bool true) := by obtain ⟨_, _, hB, _⟩ := h; exact hB.c0
theorem HashIs.len {w : World} {g : Nat} {l : List UInt8} (h : HashIs w g l) : w.cell? ⟨g, 73, none⟩ = some (.int .i64 l.length) := by obtain ⟨_, h1, hB, _⟩ := h; exact HBlk.len hB h1

/-- a Hash that nobody made -/
def zcells : List Value := Value.bool false :: (uv (List.replicate 8 0) ++ (bv (List.replicate 64 0) ++ [.int .i64 0]))
def ZHash (w : World) (p : Option Addr) : Prop := p = none ∨ ∃ g, p = some ⟨g, 0, none⟩ ∧ Blk w g 155 zcells.toArray
theorem ZHash.next {w w' : World} {p : Option Addr} (h : ZHash w p) (hb : Below w.heap.size w w') : ZHash w' p := by
 rcases h with h | ⟨g, hg, h⟩
 ·
  exact .inl h
 ·
  exact .inr ⟨g, hg, h.below hb h.lt⟩

theorem zero41 : ∀ w, (zeroValue 155).run Tryz.prog w = .ok (.agg #[.bool false, .int .u32 0, .int .u32 0, .int .u32 0, .int .u32 0, .int .u32 0, .int .u32 0, .int .u32 0, .int .u32 0, .int .u8 0, .int .u8 0, .int .u8 0, .int .u8 0, .int .u8 0, .int .u8 0, .int .u8 0, .int .u8 0, .int .u8 0, .int .u8 0, .int .u8 0, .int .u8 0, .int .u8 0, .int .u8 0, .int .u8 0, .int .u8 0, .int .u8 0, .int .u8 0, .int .u8 0, .int .u8 0, .int .u8 0, .int .u8 0, .int .u8 0, .int .u8 0, .int .u8 0, .int .u8 0, .int .u8 0, .int .u8 0, .int .u8 0, .int .u8 0, .int .u8 0, .int .u8 0, .int .u8 0, .int .u8 0, .int .u8 0, .int .u8 0, .int .u8 0, .int .u8 0, .int .u8 0, .int .u8 0, .int .u8 0, .int .u8 0, .int .u8 0, .int .u8 0, .int .u8 0, .int .u8 0, .int .u8 0, .int .u8 0, .int .u8 0, .int .u8 0, .int .u8 0, .int .u8 0, .int .u8 0, .int .u8 0, .int .u8 0, .int .u8 0, .int .u8 0, .int .u8 0, .int .u8 0, .int .u8 0, .int .u8 0, .int .u8 0, .int .u8 0, .int .u8 0, .int .i64 0]) w :=
 (zero_of_info (P := Tryz.prog) (n := 74) (by kernel_rfl)).1
set_option maxHeartbeats 4000000 in
set_option maxRecDepth 100000 in
theorem new_any (w : World) (hT : Tab w) : Calls Tryz.prog 85 #[] w fun e w' => e = .returned (.pointer (some ⟨w.heap.size, 0, none⟩)) ∧ HashIs w' w.heap.size [] ∧ Below w.heap.size w w' := by
 have c0 := hT.2.1 0 (by decide)
 have c1 := hT.2.1 1 (by decide)
 have c2 := hT.2.1 2 (by decide)
 have c3 := hT.2.1 3 (by decide)
 have c4 := hT.2.1 4 (by decide)
 have c5 := hT.2.1 5 (by decide)
 have c6 := hT.2.1 6 (by decide)
 have c7 := hT.2.1 7 (by decide)
 have hz := zero41
 clear hT
 go_enter Tryz.func85, Tryz.ntmps85
 go_wp2
 go_ret
 refine ⟨rfl, ⟨List.replicate 64 0, rfl, ?_, rfl⟩, (Below.refl _ w).alloc (Nat.le_refl _) _⟩
 exact Blk.new _ _ _
end Go.Proofs.YtpeneeddfgmjpaaGreatDoor.sha

namespace Go.Proofs.YtpeneeddfgmjpaaGreatDoor.sha
open Go.RowKit Go.Proofs.YtpeneeddfgmjpaaGreatDoor.mem

theorem info41 : (Tryz.prog.info? 155).map (·.size) = some 74 := by kernel_rfl
theorem HBlk.one {ws : W8} {bl : List UInt8} {n : Int} : ((Value.bool true :: (uv (wList ws) ++ (bv bl ++ [.int .i64 n]))).toArray).all (·.oneCell') = true := by
 rw [List.all_toArray]
 simp only [List.all_cons, List.all_append, List.all_nil, Bool.and_true]
 have h1 := one_uv (wList ws)
 have h2 := one_bv bl
 rw [List.all_toArray] at h1 h2
 rw [h1, h2]
 rfl
theorem hsize {ws : W8} {bl : List UInt8} {n : Int} (hbl : bl.length = 64) : ((Value.bool true :: (uv (wList ws) ++ (bv bl ++ [.int .i64 n]))).toArray).size = 74 := by
 have e8 : (uv (wList ws)).length = 8 := rfl
 simp only [List.size_toArray, List.length_cons, List.length_append, e8, bv_length, hbl, List.length_nil]

theorem ending_size (l : List UInt8) (hl : l.length ≤ 549755813888) : l.length + (⟨(ending l.length).toArray⟩ : ByteArray).size ≤ 1099511627776 := by
 have h : (⟨(ending l.length).toArray⟩ : ByteArray).size = (ending l.length).length := rfl
 rw [h, ← endAcc_end, endAcc_len _ _ (by omega)]
 have := pad_lt l.length
 omega
set_option maxHeartbeats 4000000 in
set_option maxRecDepth 100000 in
theorem hsum_any (g : Nat) (l : List UInt8) (w : World) (h : HashIs w g l) (hT : Tab w) (hl : l.length ≤ 549755813888) :
  Calls Tryz.prog 87 #[.pointer (some ⟨g, 0, none⟩)] w fun e w' => e = .returned (.agg (bv (digest l)).toArray) ∧ Below w.heap.size w w' := by
 have hne := neq_h
 have HZ := Lib.hid zero41
 obtain ⟨bl, hbl, hB, htk⟩ := h
 have hg : g < w.heap.size := Blk.lt hB
 obtain ⟨cs, hcs⟩ : ∃ cs, cs = (Value.bool true :: (uv (wList (fb l (l.length / 64))) ++ (bv bl ++ [.int .i64 (l.length : Int)]))).toArray := ⟨_, rfl⟩
 have hB1 : Blk w g 155 cs := by rw [hcs]; exact hB
 have c0 : w.cell? ⟨g, 0, none⟩ = some (.bool true) := hB.c0
 have hsz : cs.size = 74 := by rw [hcs]; exact hsize hbl
 have hone : cs.all (·.oneCell') = true := by rw [hcs]; exact HBlk.one
 obtain ⟨z1, hz1⟩ : ∃ z : Array Value, z = #[.int .u8 0, .int .u8 0, .int .u8 0, .int .u8 0, .int .u8 0, .int .u8 0, .int .u8 0, .int .u8 0, .int .u8 0, .int .u8 0, .int .u8 0, .int .u8 0, .int .u8 0, .int .u8 0, .int .u8 0, .int .u8 0, .int .u8 0, .int .u8 0, .int .u8 0, .int .u8 0, .int .u8 0, .int .u8 0, .int .u8 0, .int .u8 0, .int .u8 0, .int .u8 0, .int .u8 0, .int .u8 0, .int .u8 0, .int .u8 0, .int .u8 0, .int .u8 0] := ⟨_, rfl⟩
 obtain ⟨z2, hz2⟩ : ∃ z : Array Value, z = zcells.toArray := ⟨_, rfl⟩
 obtain ⟨w3, hw3⟩ : ∃ x, x = (((w.alloc (.cells z1 24)).alloc (.cells z2 155)).setRow (w.heap.size + 1) cs) := ⟨_, rfl⟩
 have hb3 : Below w.heap.size w w3 := by
  rw [hw3]
  exact below_setRow (((Below.refl _ _).alloc (Nat.le_refl _) _).alloc (by simp) _) (Nat.le_succ _) _
 have hr3 : Blk w3 w.heap.size 24 z1 := by
  rw [hw3]
  exact (setRow_other _ _ _ _ (Nat.ne_of_lt (Nat.lt_succ_self _))).trans ((Blk.new w _ z1).alloc _)
 have hh3 : HashIs w3 (w.heap.size + 1) l := by
  refine ⟨bl, hbl, ?_, htk⟩
  have := setRow_heap ((w.alloc (.cells z1 24)).alloc (.cells z2 155)) (w.heap.size + 1) z2 cs 155 (0, 0) (Blk.at_ (by simp) _ _)
  rw [← hw3, hcs] at this
  exact this
 have c73 : w3.cell? ⟨g, 73, none⟩ = some (.int .i64 l.length) := HBlk.len (Blk.below hB hb3 hg) hbl
 have HW3 := Lib.hid hw3
 have HB3 := Lib.hid hb3
 have HR3 := Lib.hid hr3
 have HH3 := Lib.hid hh3
 have HZ1 := Lib.hid hz1
 have HZ2 := Lib.hid hz2
 have n0 : (0 : Int) ≤ (l.length : Int) := Int.natCast_nonneg _
 clear hw3 hb3 hr3 hh3 hz1 hz2
 have HB1 := Lib.hid hB1
 have HSZ := Lib.hid hsz
 have HONE := Lib.hid hone
 have HBL := Lib.hid hbl
 have HTK := Lib.hid htk
 have HCS := Lib.hid hcs
 have HT := Lib.hid hT
 clear hbl hB htk hcs hB1 hsz hone hT
 go_enter Tryz.func87, Tryz.ntmps87
 go_upto_region 3 with fail
 refine wp_region_lit ?_
 refine step_move rfl rfl ?_
 refine step_nil (p := ⟨g, 0, none⟩) rfl rfl rfl ?_
 refine wpList_load_row rfl 155 (.tmp 15) rfl g rfl 155 cs (0, 0) _ (HB1.out.alloc _) Tryz.underlying155 rfl (by rw [info41, HSZ.out]) ?_
 refine step_alloc rfl rfl HZ.out ?_
 refine wpList_store_row rfl 155 (.tmp 3) (.tmp 16) rfl (w.heap.size + 1) cs (by simp [Act.put, Act.eval]) (by simp [Act.put, Act.eval]) 155 z2 ?hg (by rw [info41, HSZ.out]) (by rw [HZ2.out, HSZ.out]; rfl) HONE.out ?_
 case hg => rw [HZ2.out]; exact Blk.at_ (by simp) _ _
 refine wpl_at (w' := w3) (by rw [HW3.out, HZ1.out, HZ2.out]; rfl) ?_
 clear HZ HW3 HB1 HSZ HONE HZ2 HBL HTK HCS
 go_wp2_with (first
  | (go_at_call 110; refine (ending_any l.length (by omega) _).mono ?_; rintro e w4 ⟨rfl, hb4⟩)
  | (go_at_call 86; refine (take_any (w.heap.size + 1) l ⟨(ending l.length).toArray⟩ _ (HH3.out.next (by exact hb4)) (by exact ((HT.out.next HB3.out).next hb4)) (by have := HT.out.1; omega) (by exact ending_size l hl)).mono ?_; rintro e w5 ⟨rfl, hh5, ht5⟩))
 obtain ⟨bl6, hbl6, hB6, _⟩ := hh5
 have hr5 : Blk w5 w.heap.size 24 z1 := by
  refine (HR3.out.below hb4 HR3.out.lt).turn ht5 ?_
  rintro (h | h)
  ·
   exact absurd h (Nat.ne_of_lt (Nat.lt_succ_self _))
  ·
   exact absurd (Nat.le_trans hb4.size h) (Nat.not_le.2 HR3.out.lt)
 have hb5 : Below w.heap.size w w5 := by
  refine (HB3.out.trans (hb4.mono HB3.out.size)).trans (ht5.below ?_)
  rintro k (h | h)
  ·
   omega
  ·
   exact Nat.le_trans (Nat.le_trans HB3.out.size hb4.size) h
 clear ht5 hb4 c73 c0 hne
 have hid := id_any _ _ bl6 _ w5 hB6
 change Calls _ _ _ _ (fun e w' => e = .returned (.agg (bv (digest l)).toArray) ∧ Below w5.heap.size w5 w') at hid
 refine hid.mono ?_; rintro e w6 ⟨rfl, hb6⟩
 have HR6 := Lib.hid (hr5.below hb6 hr5.lt)
 have HB6 := Lib.hid (hb5.trans (hb6.mono hb5.size))
 clear hr5 hb5 hb6 hB6 hid
 go_wp2_with ((with_reducible refine wpList_store_row ?sg1 24 (.tmp 2) (.tmp 23) ?so1 w.heap.size (bv (digest l)).toArray ?sx1 ?sy1 24 z1 ?sb1 ?si1 ?sl1 ?sk1 ?sh1); (case sg1 => rfl); (case so1 => rfl); (case sx1 => rfl); (case sy1 => rfl); (case sb1 => exact HR6.out); (case si1 => rw [info24]; rfl); (case sl1 => rw [HZ1.out]; rfl); (case sk1 => exact one_bv _))
 (try simp only [Exit.inBlock, Exit.then])
 have hrow := setRow_heap w6 w.heap.size _ (bv (digest l)).toArray _ _ HR6.out
 refine bodyPost_ret (results_cell_row rfl _ _ w.heap.size 24 (bv (digest l)).toArray (0, 0) _ rfl hrow Tryz.underlying24 rfl (by rw [info24]; rfl)) rfl ⟨rfl, below_setRow HB6.out (Nat.le_refl _) _⟩
end Go.Proofs.YtpeneeddfgmjpaaGreatDoor.sha

namespace Go.Proofs.YtpeneeddfgmjpaaGreatDoor.sha
open Go.RowKit Go.Proofs.YtpeneeddfgmjpaaGreatDoor.mem

def z32 : List UInt8 := List.replicate 32 0

set_option maxHeartbeats 4000000 in
set_option maxRecDepth 100000 in
theorem sum_any (s : ByteArray) (w : World) (hT : Tab w) (hl : s.size ≤ 549755813888) :
  Calls Tryz.prog 55 #[.string s] w fun e w' => e = .returned (.agg (bv (digest s.data.toList)).toArray) ∧ Below w.heap.size w w' := by
 obtain ⟨w1, hw1⟩ : ∃ x, x = w.alloc (.cells (bv z32).toArray 24) := ⟨_, rfl⟩
 have hb1 : Below w.heap.size w w1 := by rw [hw1]; exact (Below.refl _ _).alloc (Nat.le_refl _) _
 have hr1 : Blk w1 w.heap.size 24 (bv z32).toArray := by rw [hw1]; exact Blk.new _ _ _
 have hT1 : Tab w1 := hT.next hb1
 have hs1 : w1.heap.size = w.heap.size + 1 := by rw [hw1]; simp
 have HW1 := Lib.hid hw1
 have HR1 := Lib.hid hr1
 have HB1 := Lib.hid hb1
 have HT1 := Lib.hid hT1
 have HT := Lib.hid hT
 have HS1 := Lib.hid hs1
 clear hw1 hr1 hb1 hT1 hT hs1
 go_enter Tryz.func55, Tryz.ntmps55
 go_upto_region 1 with fail
 refine wp_at HW1.out.symm ?_
 clear HW1
 go_wp2_with fail
 refine (new_any _ HT1.out).mono ?_; rintro e w2 ⟨rfl, hh2, hb2⟩
 have hb2' : Below w.heap.size w w2 := HB1.out.trans (hb2.mono HB1.out.size)
 have HT2 := Lib.hid (HT1.out.next hb2)
 have HR2 := Lib.hid (HR1.out.below hb2 HR1.out.lt)
 have HH2 := Lib.hid hh2
 have HB2 := Lib.hid hb2'
 clear hh2 hb2 hb2' HB1 HT1 HR1
 go_wp2_with fail
 refine (take_any _ [] s _ HH2.out HT2.out (by have := HT.out.1; have := HS1.out; omega) (by simp only [List.length_nil]; omega)).mono ?_; rintro e w3 ⟨rfl, hh3, ht3⟩
 have hk3 : ∀ k, (k = w1.heap.size ∨ w2.heap.size ≤ k) → w1.heap.size ≤ k := fun k hk => hk.elim (fun e => e ▸ Nat.le_refl _) (fun h => by have := hh3.lt; have := HH2.out.lt; omega)
 have hb3 : Below w.heap.size w w3 := HB2.out.trans (ht3.below fun k hk => by have := hk3 k hk; have := HS1.out; omega)
 have hT3 : Tab w3 := HT.out.next hb3
 have hr3 : Blk w3 w.heap.size 24 (bv z32).toArray := HR2.out.turn ht3 (fun hk => by have := hk3 _ hk; have := HS1.out; omega)
 have HB3 := Lib.hid hb3
 have HT3 := Lib.hid hT3
 have HR3 := Lib.hid hr3
 have HH3 : Hid (HashIs w3 w1.heap.size s.data.toList) := Lib.hid hh3
 clear hk3 hb3 hT3 hr3 hh3 ht3 HB2 HT2 HR2 HH2
 go_wp2_with fail
 refine (hsum_any _ s.data.toList _ HH3.out HT3.out (by rw [← Lib.size_eq]; exact hl)).mono ?_; rintro e w4 ⟨rfl, hb4⟩
 have HB4 := Lib.hid (HB3.out.trans (hb4.mono HB3.out.size))
 have HR4 := Lib.hid (HR3.out.below hb4 HR3.out.lt)
 clear hb4 HB3 HR3 HH3 HT3
 go_wp2_with ((with_reducible refine wpList_store_row ?sg1 24 (.tmp 2) (.tmp 9) ?so1 w.heap.size (bv (digest s.data.toList)).toArray ?sx1 ?sy1 24 (bv z32).toArray ?sb1 ?si1 ?sl1 ?sk1 ?sh1); (case sg1 => rfl); (case so1 => rfl); (case sx1 => rfl); (case sy1 => rfl); (case sb1 => exact HR4.out); (case si1 => rw [info24]; rfl); (case sl1 => rfl); (case sk1 => exact one_bv _))
 (try simp only [Exit.inBlock, Exit.then])
 have hrow := setRow_heap w4 w.heap.size _ (bv (digest s.data.toList)).toArray _ _ HR4.out
 refine bodyPost_ret (results_cell_row rfl _ _ w.heap.size 24 (bv (digest s.data.toList)).toArray (0, 0) _ rfl hrow Tryz.underlying24 rfl (by rw [info24]; rfl)) rfl ⟨rfl, below_setRow HB4.out (Nat.le_refl _) _⟩

set_option maxHeartbeats 4000000 in
set_option maxRecDepth 100000 in
theorem hsum_zero (p : Option Addr) (w : World) (h : ZHash w p) (hT : Tab w) :
  Calls Tryz.prog 87 #[.pointer p] w fun e w' => e = .returned (.agg (bv (digest [])).toArray) ∧ Below w.heap.size w w' := by
 obtain ⟨w1, hw1⟩ : ∃ x, x = w.alloc (.cells (bv z32).toArray 24) := ⟨_, rfl⟩
 have hb1 : Below w.heap.size w w1 := by rw [hw1]; exact (Below.refl _ _).alloc (Nat.le_refl _) _
 have HR1 : Hid (Blk w1 w.heap.size 24 (bv z32).toArray) := Lib.hid (by rw [hw1]; exact Blk.new _ _ _)
 have HT1 : Hid (Tab w1) := Lib.hid (hT.next hb1)
 have HZ1 : Hid (ZHash w1 p) := Lib.hid (h.next hb1)
 have HW1 := Lib.hid hw1
 have HB1 := Lib.hid hb1
 clear hw1 hb1 hT h
 have tail : ∀ w2, Below w1.heap.size w1 w2 → Below w.heap.size w (w2.setRow w.heap.size (bv (digest [])).toArray) := fun w2 h2 => below_setRow (HB1.out.trans (h2.mono HB1.out.size)) (Nat.le_refl _) _
 have HTL := Lib.hid tail
 clear tail
 rcases HZ1.out with rfl | ⟨g, rfl, hz⟩
 ·
  go_enter Tryz.func87, Tryz.ntmps87
  go_upto_region 1 with fail
  refine wp_at HW1.out.symm ?_
  clear HW1
  go_wp2_with fail
  refine (sum_any ⟨#[]⟩ _ HT1.out (by decide)).mono ?_; rintro e w2 ⟨rfl, hb2⟩
  have HR2 := Lib.hid (HR1.out.below hb2 HR1.out.lt)
  have HB2 := Lib.hid hb2
  clear hb2
  go_wp2_with ((with_reducible refine wpList_store_row ?sg1 24 (.tmp 2) (.tmp 13) ?so1 w.heap.size (bv (digest [])).toArray ?sx1 ?sy1 24 (bv z32).toArray ?sb1 ?si1 ?sl1 ?sk1 ?sh1); (case sg1 => rfl); (case so1 => rfl); (case sx1 => rfl); (case sy1 => rfl); (case sb1 => exact HR2.out); (case si1 => rw [info24]; rfl); (case sl1 => rfl); (case sk1 => exact one_bv _))
  (try simp only [Exit.inBlock, Exit.then])
  have hrow := setRow_heap w2 w.heap.size _ (bv (digest [])).toArray _ _ HR2.out
  refine bodyPost_ret (results_cell_row rfl _ _ w.heap.size 24 (bv (digest [])).toArray (0, 0) _ rfl hrow Tryz.underlying24 rfl (by rw [info24]; rfl)) rfl ⟨rfl, HTL.out _ HB2.out⟩
 ·
  have c0 : w1.cell? ⟨g, 0, none⟩ = some (.bool false) := hz.cell 0
  have hne := neq_h
  clear hz
  go_enter Tryz.func87, Tryz.ntmps87
  go_upto_region 1 with fail
  refine wp_at HW1.out.symm ?_
  clear HW1
  go_wp2_with fail
  refine (sum_any ⟨#[]⟩ _ HT1.out (by decide)).mono ?_; rintro e w2 ⟨rfl, hb2⟩
  have HR2 := Lib.hid (HR1.out.below hb2 HR1.out.lt)
  have HB2 := Lib.hid hb2
  clear hb2
  go_wp2_with ((with_reducible refine wpList_store_row ?sg2 24 (.tmp 2) (.tmp 13) ?so2 w.heap.size (bv (digest [])).toArray ?sx2 ?sy2 24 (bv z32).toArray ?sb2 ?si2 ?sl2 ?sk2 ?sh2); (case sg2 => rfl); (case so2 => rfl); (case sx2 => rfl); (case sy2 => rfl); (case sb2 => exact HR2.out); (case si2 => rw [info24]; rfl); (case sl2 => rfl); (case sk2 => exact one_bv _))
  (try simp only [Exit.inBlock, Exit.then])
  have hrow := setRow_heap w2 w.heap.size _ (bv (digest [])).toArray _ _ HR2.out
  refine bodyPost_ret (results_cell_row rfl _ _ w.heap.size 24 (bv (digest [])).toArray (0, 0) _ rfl hrow Tryz.underlying24 rfl (by rw [info24]; rfl)) rfl ⟨rfl, HTL.out _ HB2.out⟩
end Go.Proofs.YtpeneeddfgmjpaaGreatDoor.sha
