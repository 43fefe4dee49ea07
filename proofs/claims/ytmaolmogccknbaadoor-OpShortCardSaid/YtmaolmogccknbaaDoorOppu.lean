/-
  petrelref01.Reader.End.
  petrelref01.Reader by plain functions: what is left, and the first error.
  Parts read one behind the other.
  Lists of ids in regions that draw their order: '[]Id{x}', append.
  petrelref07.Of: one more id behind the refs.
-/
import Derived.Test.YtmaolmogccknbaaDoorRef1
import Derived.Test.YtmaolmogccknbaaDoorRdx
import Derived.Test.YtmaolmogccknbaaDoorOpi
import Derived.Test.YtmaolmogccknbaaDoorIdcm
import Derived.Test.YtmaolmogccknbaaDoorStepl
namespace Go.Proofs.YtmaolmogccknbaaDoor.oct
open Go.RowKit Go.Proofs.YtmaolmogccknbaaDoor.mem

def xEnd (st : ByteArray × Int) : Int := if st.2 ≠ 0 then st.2 else if 0 < st.1.size then 4 else 0
theorem xend_any (g : Nat) (s : ByteArray) (err : Int) (w : World) (h : XBlk w g s err) :
    Calls Tryd.prog 61 #[.pointer (some ⟨g, 0, none⟩)] w fun e w' => e = .returned (.int .i64 (xEnd (s, err))) ∧ w = w' := by
  have c0 := h.c0
  have c1 := h.c1
  by_cases he : err = 0
  · subst he
    by_cases hs : 0 < s.size
    · have e2 : xEnd (s, 0) = 4 := by unfold xEnd; rw [if_neg (by simp), if_pos hs]
      rw [e2]
      clear e2
      go_enter Tryd.func61, Tryd.ntmps61
      go_wp2
      go_ret
      exact ⟨rfl, rfl⟩
    · have e2 : xEnd (s, 0) = 0 := by unfold xEnd; rw [if_neg (by simp), if_neg hs]
      rw [e2]
      clear e2
      go_enter Tryd.func61, Tryd.ntmps61
      go_wp2
      go_ret
      exact ⟨rfl, rfl⟩
  · have e2 : xEnd (s, err) = err := by unfold xEnd; rw [if_pos he]
    rw [e2]
    have hd : (err == 0) = false := by simpa using he
    clear e2 he
    go_enter Tryd.func61, Tryd.ntmps61
    go_wp2
    go_ret
    exact ⟨rfl, rfl⟩
end Go.Proofs.YtmaolmogccknbaaDoor.oct

namespace Go.Proofs.YtmaolmogccknbaaDoor.opn
open Go.RowKit Go.Proofs.YtmaolmogccknbaaDoor.mem Go.Proofs.YtmaolmogccknbaaDoor.sha Go.Proofs.YtmaolmogccknbaaDoor.ids

theorem mkId_len (s : List UInt8) (h : s.length = 0 ∨ s.length = 32) : (mkId s).length = 32 := by
  unfold mkId
  rcases h with h | h
  · rw [if_pos (List.eq_nil_of_length_eq_zero h)]; exact zid_len
  · rw [if_neg (fun e => by rw [e] at h; simp at h)]; exact h
theorem rdI_len (st : St) : (rdI st).1.length = 32 := mkId_len _ (rd_len 32 st)
theorem rdL_ok : ∀ (n : Nat) (st : St), okIds (rdL n st).1
  | 0, _ => okIds.nil
  | n + 1, st => fun x hx => by
    rcases List.mem_cons.1 hx with rfl | h
    · exact rdI_len st
    · exact rdL_ok n _ x h

theorem id_s (F : Nat → Prop) (g : Nat) (st : St) (w : World) (h : RdrS w g st) (hF : F g) (hn : New F w) :
    Calls Tryd.prog 60 #[.pointer (some ⟨g, 0, none⟩)] w fun e w' => e = .returned (idv (rdI st).1) ∧ RdrS w' g (rdI st).2 ∧ Turn F w w' := by
  obtain ⟨s, e, hx, hs⟩ := h
  refine (xid_any F g s e w hx hF hn).mono ?_
  rintro e2 w2 ⟨rfl, h2, ht⟩
  have := sr_take hs 32
  refine ⟨?_, ⟨_, _, h2, this.2⟩, ht⟩
  have e3 : (oct.xTake (s, e) 32).1 = oct.tx (rd 32 st).1 := this.1
  rw [e3, oct.tx_list]
  rfl
theorem sr_end {x : ByteArray × Int} {st : St} (h : Sr x st) : oct.xEnd x = endE st := by
  unfold oct.xEnd endE
  rw [h.1]
  by_cases h0 : x.2 = 0
  · have hn : ¬ (x.2 ≠ 0) := fun hh => hh h0
    rw [if_neg hn, if_neg hn, h.2 h0, oct.tx_size]
    cases st.1 with
    | nil => rfl
    | cons a l => rw [if_pos (by simp), if_neg (by simp)]
  · rw [if_pos h0, if_pos h0]
theorem end_s (g : Nat) (st : St) (w : World) (h : RdrS w g st) :
    Calls Tryd.prog 61 #[.pointer (some ⟨g, 0, none⟩)] w fun e w' => e = .returned (.int .i64 (endE st)) ∧ w = w' := by
  obtain ⟨s, e, hx, hs⟩ := h
  rw [← sr_end hs]
  exact oct.xend_any g s e w hx
end Go.Proofs.YtmaolmogccknbaaDoor.opn

namespace Go.Proofs.YtmaolmogccknbaaDoor.opn
open Go.RowKit Go.Proofs.YtmaolmogccknbaaDoor.mem Go.Proofs.YtmaolmogccknbaaDoor.sha Go.Proofs.YtmaolmogccknbaaDoor.ids

theorem parts_snoc (p : Part) : ∀ (ps : List Part) (o : Opn) (st : St), parts o (ps ++ [p]) st = part (parts o ps st).1 (parts o ps st).2 p
  | [], _, _ => rfl
  | q :: ps, o, st => parts_snoc p ps _ _
end Go.Proofs.YtmaolmogccknbaaDoor.opn

namespace Go.Proofs.YtmaolmogccknbaaDoor.ids
open Go.RowKit Go.Proofs.YtmaolmogccknbaaDoor.mem Go.Proofs.YtmaolmogccknbaaDoor.sha

theorem want_build1 {ops : Array Oper} {o : Oper} {a : Act} {w : World} {K : Act → World → Prop} {Q : Exit → Act → World → Prop} {E : Prop} {x : Operand} {y : List UInt8} (hg : o.guard = none)
    (ho : o.op = .buildSlice 24 1 #[(0, x)]) (hx : a.eval x = .agg (bv y).toArray) (hy : y.length = 32)
    (hK : K (a.put o.dst (.slice (some ⟨w.heap.size, 0, none⟩) 1 1)) (w.alloc (.cells (bv y).toArray 23))) : if Region.wanted o (yielded ops a.tmps) = true then Oper.wp Tryd.prog o a w K Q else E := by
  have hw : Region.wanted o (yielded ops a.tmps) = true := by simp [Region.wanted, hg]
  rw [if_pos hw]
  unfold Oper.wp execOp
  have hr := run_build1 w y hy
  simp only [ho, List.map_toArray, List.map_cons, List.map_nil, hx, Sem.run_bind, hr, Result.andThen_ok, Sem.run_pure]
  exact hK
/-- '[]Id{x}' as a list that reads -/
theorem RdV.one (w : World) (x : List UInt8) (hx : x.length = 32) : RdV (w.alloc (.cells (bv x).toArray 23)) (.slice (some ⟨w.heap.size, 0, none⟩) 1 1) [x] := by
  have := RdV.laid w [x] (fun y hy => by rw [List.mem_singleton.1 hy]; exact hx) (by simp)
  rw [fl_one] at this
  exact this
/-- one more -/
theorem run_append_one {w : World} {F : Nat → Prop} {v : Value} {L : List (List UInt8)} {x : List UInt8} (hown : OwnI w F v L) (hx : x.length = 32) (hL : L.length ≤ 1000000) (hn : New F w) (ty : TypeId) :
    ∃ v' w', (Builtin.append_ #[24, 24] ty #[v, .slice (some ⟨w.heap.size, 0, none⟩) 1 1]).run Tryd.prog (w.alloc (.cells (bv x).toArray 23)) = .ok v' w' ∧ OwnI w' F v' (L ++ [x]) ∧ Turn (fun k => v.ownBlock = some k ∨ w.heap.size ≤ k) w w' := by
  have ha : Turn (w.heap.size ≤ ·) w (w.alloc (.cells (bv x).toArray 23)) := (Turn.refl _ w).alloc (fun _ h => h) _
  have hs : (w.alloc (.cells (bv x).toArray 23)).heap.size = w.heap.size + 1 := by simp
  obtain ⟨v', w', hr, ho, ht⟩ := run_append_rd (hown.below ((Below.refl _ _).alloc (Nat.le_refl _) _)) (RdV.one w x hx) (by rw [List.length_singleton]; omega) (fun k hk => hn k (by rw [hs] at hk; omega)) ty
  exact ⟨v', w', hr, ho, (ha.mono fun k hk => .inr hk).trans (ht.mono fun k hk => hk.imp id fun h => by rw [hs] at h; omega)⟩
end Go.Proofs.YtmaolmogccknbaaDoor.ids

namespace Go.Proofs.YtmaolmogccknbaaDoor.opn
open Go.RowKit Go.Proofs.YtmaolmogccknbaaDoor.mem Go.Proofs.YtmaolmogccknbaaDoor.sha Go.Proofs.YtmaolmogccknbaaDoor.ids

theorem run_store_refs {w : World} {S : Nat} {t : TypeId} {o : Opn} {u : Value} (h : Blk w S t (opc o u).toArray) (hr : o.ref.length = 32) (ad : Option Addr) (n c : Nat) :
    (Instr.storeAt 24 (.pointer (some ⟨S, 36, none⟩)) (.slice ad n c)).run Tryd.prog w = .ok () (w.setCell ⟨S, 36, none⟩ (.slice ad n c)) := by
  have c36 := (OpBlk.of h hr).refs
  have hf := h.frozen 36
  go_simp
theorem push_s {S : Nat} {o : Opn} {v : Value} {L : List Id} {x : Id} (w : World) (hS : Blk w S 26 (opc { o with refs := L } v).toArray) (hr : o.ref.length = 32) (hv : OwnI w (S < ·) v L) (hx : x.length = 32) (hL : L.length ≤ 1000) (ty : TypeId) :
    ∃ v' w3, (Builtin.append_ #[24, 24] ty #[v, .slice (some ⟨w.heap.size, 0, none⟩) 1 1]).run Tryd.prog (w.alloc (.cells (bv x).toArray 23)) = .ok v' w3 ∧
      (Instr.storeAt 24 (.pointer (some ⟨S, 36, none⟩)) v').run Tryd.prog w3 = .ok () (w3.setCell ⟨S, 36, none⟩ v') ∧
      Blk (w3.setCell ⟨S, 36, none⟩ v') S 26 (opc { o with refs := L ++ [x] } v').toArray ∧ OwnI (w3.setCell ⟨S, 36, none⟩ v') (S < ·) v' (L ++ [x]) ∧ Turn (S ≤ ·) w (w3.setCell ⟨S, 36, none⟩ v') := by
  have hlt := hS.lt
  obtain ⟨v', w3, hrun, ho, ht⟩ := run_append_one hv hx (by omega) (fun k hk => Nat.lt_of_lt_of_le hlt hk) ty
  have hS3 : Blk w3 S 26 (opc { o with refs := L } v).toArray := hS.turn ht fun h => by
    rcases h with h | h
    · have h2 : S < S := hv.2.2 S h
      omega
    · omega
  obtain ⟨ad, cap, hvf, -, -⟩ := ho.form
  refine ⟨v', w3, hrun, ?_, opm_refs hS3 hr (L ++ [x]) v', ?_, ?_⟩
  · rw [hvf]; exact run_store_refs hS3 hr ad _ cap
  · exact ho.turn ((Turn.refl (· = S) w3).setCell rfl _) fun k hk h => by
      have h2 : S < k := ho.2.2 k hk
      omega
  · refine (ht.mono fun k hk => ?_).trans ((Turn.refl (S ≤ ·) w3).setCell (Nat.le_refl S) _)
    rcases hk with hk | hk
    · exact Nat.le_of_lt (hv.2.2 k hk)
    · omega
/-! What the reader's functions do to an operation. -/
theorem rdL_len : ∀ (n : Nat) (st : St), (rdL n st).1.length = n
  | 0, _ => rfl
  | n + 1, st => by show (_ :: _).length = _; rw [List.length_cons, rdL_len n]
theorem rdL_snoc : ∀ (n : Nat) (st : St), rdL (n + 1) st = ((rdL n st).1 ++ [(rdI (rdL n st).2).1], (rdI (rdL n st).2).2)
  | 0, _ => rfl
  | n + 1, st => by
    have := rdL_snoc n (rdI st).2
    show ((rdI st).1 :: (rdL (n + 1) (rdI st).2).1, (rdL (n + 1) (rdI st).2).2) = _
    rw [this]
    rfl
theorem part_ref {o : Opn} (h : o.ref.length = 32) (st : St) (p : Part) : (part o st p).1.ref.length = 32 := by
  cases p <;> first | exact h | exact rdI_len st
theorem parts_ref : ∀ (ps : List Part) {o : Opn}, o.ref.length = 32 → ∀ st : St, (parts o ps st).1.ref.length = 32
  | [], _, h, _ => h
  | p :: ps, _, h, st => parts_ref ps (part_ref h st p) _
theorem part_refs {o : Opn} (h : o.refs.length ≤ 255) (st : St) (p : Part) : (part o st p).1.refs.length ≤ 255 := by
  cases p
  · exact h
  · exact h
  · exact h
  · exact h
  · show (rdL _ _).1.length ≤ 255
    rw [rdL_len]
    have := rdN1_lt st
    omega
theorem parts_refs : ∀ (ps : List Part) {o : Opn}, o.refs.length ≤ 255 → ∀ st : St, (parts o ps st).1.refs.length ≤ 255
  | [], _, h, _ => h
  | p :: ps, _, h, st => parts_refs ps (part_refs h st p) _
theorem parts_norefs : ∀ (ps : List Part) (o : Opn) (st : St), Part.S ∉ ps → (parts o ps st).1.refs = o.refs
  | [], _, _, _ => rfl
  | p :: ps, o, st, h => by
    have h1 : p ≠ .S := fun e => h (e ▸ List.mem_cons_self)
    refine (parts_norefs ps _ _ fun hm => h (List.mem_cons_of_mem _ hm)).trans ?_
    cases p <;> first | rfl | exact absurd rfl h1
theorem not_before {ps : List Part} (h : ps.Nodup) {j : Nat} (hj : j < ps.length) : ps[j] ∉ ps.take j := by
  intro hm
  obtain ⟨i, hi, he⟩ := List.getElem_of_mem hm
  rw [List.length_take] at hi
  rw [List.getElem_take] at he
  exact List.pairwise_iff_getElem.1 h i j (by omega) hj (by omega) he
theorem parts_step (o : Opn) (ps : List Part) (st : St) (j : Nat) (hj : j < ps.length) : parts o (ps.take (j + 1)) st = part (parts o (ps.take j) st).1 (parts o (ps.take j) st).2 ps[j] := by
  rw [List.take_succ_eq_append_getElem hj, parts_snoc]
end Go.Proofs.YtmaolmogccknbaaDoor.opn
