/-
  octet's Reader by plain functions (RdL: what is left, and the first error).
  An id's array as a slice of bytes, copied into, as a text, as a result; ids one behind the other.
-/
import Derived.Test.YtbfjljbllfjicaaOcts
import Derived.Test.YtbfjljbllfjicaaRdx
import Derived.Test.YtbfjljbllfjicaaRds
import Derived.Test.YtbfjljbllfjicaaOpd
import Derived.Lib.Strings
namespace Go.Proofs.Ytbfjljbllfjicaa.opn
open Go.RowKit Go.Proofs.Ytbfjljbllfjicaa.mem Go.Proofs.Ytbfjljbllfjicaa.sha

theorem lsr_take {x : ByteArray × Int} {st : St} (h : Sr x st) (n : Nat) : (oct.rTake x n).1 = oct.tx (rd n st).1 ∧ Sr (oct.rTake x n).2 (rd n st).2 := by
  obtain ⟨s, e⟩ := x
  obtain ⟨l, e'⟩ := st
  obtain ⟨h1, h2⟩ := h
  simp only at h1 h2
  subst h1
  unfold oct.rTake rd
  by_cases h0 : e' = 0
  · subst h0
    obtain rfl := h2 rfl
    simp only [ne_eq, not_true, if_false]
    rw [if_neg (by omega), oct.tx_size]
    by_cases hl : l.length < n
    · rw [if_pos (by omega), if_pos hl]
      exact ⟨rfl, rfl, fun h => absurd (show (2 : Int) = 0 from h) (by decide)⟩
    · rw [if_neg (by omega), if_neg hl]
      simp only [Int.toNat_natCast]
      refine ⟨?_, rfl, fun _ => ?_⟩
      · rw [oct.tx_extract, List.drop_zero]
      · rw [oct.tx_extract, List.take_of_length_le (Nat.le_refl _)]
  · simp only [ne_eq, h0, not_false_eq_true, if_true]
    exact ⟨rfl, rfl, fun h => absurd h h0⟩
theorem lsr_num {x : ByteArray × Int} {st : St} (h : Sr x st) (b : Nat) (hb : b = 1 ∨ b = 2 ∨ b = 4) : (oct.rNum x b).1 = (rdN b st).1 ∧ Sr (oct.rNum x b).2 (rdN b st).2 := by
  have hs := lsr_take h b
  unfold oct.rNum rdN
  rw [if_neg (by rcases hb with rfl | rfl | rfl <;> decide)]
  refine ⟨?_, hs.2⟩
  rw [hs.1, oct.tx_list]
  rfl
theorem lsr_end {x : ByteArray × Int} {st : St} (h : Sr x st) : oct.rEnd x = endE st := by
  unfold oct.rEnd endE
  rw [h.1]
  by_cases h0 : x.2 = 0
  · have hn : ¬ (x.2 ≠ 0) := fun hh => hh h0
    rw [if_neg hn, if_neg hn, h.2 h0, oct.tx_list]
    cases st.1 with
    | nil => rfl
    | cons a l => rw [if_neg (by simp), if_neg (by simp)]
  · rw [if_pos h0, if_pos h0]
/-- a Reader of octet in block g, by what is left and the first error -/
def RdL (w : World) (g : Nat) (st : St) : Prop := ∃ s e, oct.RBlk w g s e ∧ Sr (s, e) st ∧ s.size ≤ 281474976710656
theorem RdL.turn {F : Nat → Prop} {w w' : World} {g : Nat} {st : St} (h : RdL w g st) (ht : Turn F w w') (hg : ¬ F g) : RdL w' g st := by
  obtain ⟨s, e, hx, hs⟩ := h
  exact ⟨s, e, Blk.turn hx ht hg, hs⟩
theorem RdL.lt {w : World} {g : Nat} {st : St} (h : RdL w g st) : g < w.heap.size := by
  obtain ⟨s, e, hx, hs⟩ := h
  exact Blk.lt hx
theorem lnum_s (F : Nat → Prop) (g : Nat) (st : St) (b : Nat) (hb : b = 1 ∨ b = 2 ∨ b = 4) (w : World) (h : RdL w g st) (hF : F g) (hn : New F w) :
    Calls Try.prog 33 #[.pointer (some ⟨g, 0, none⟩), .int .i64 (b : Int)] w fun e w' => e = .returned (.int .i64 (rdN b st).1) ∧ RdL w' g (rdN b st).2 ∧ Turn F w w' := by
  obtain ⟨s, e, hx, hs, hz⟩ := h
  refine (oct.rnum_any F g s e b w hx hF hn).mono ?_
  rintro e2 w2 ⟨rfl, h2, ht⟩
  have := lsr_num hs b hb
  exact ⟨by rw [this.1], ⟨_, _, h2, this.2, Nat.le_trans (oct.rNum_le (s, e) b) hz⟩, ht⟩
theorem lnum1_s (F : Nat → Prop) (g : Nat) (st : St) (w : World) (h : RdL w g st) (hF : F g) (hn : New F w) :
    Calls Try.prog 33 #[.pointer (some ⟨g, 0, none⟩), .int .i64 1] w fun e w' => e = .returned (.int .i64 (rdN 1 st).1) ∧ RdL w' g (rdN 1 st).2 ∧ Turn F w w' := lnum_s F g st 1 (.inl rfl) w h hF hn
theorem lnum4_s (F : Nat → Prop) (g : Nat) (st : St) (w : World) (h : RdL w g st) (hF : F g) (hn : New F w) :
    Calls Try.prog 33 #[.pointer (some ⟨g, 0, none⟩), .int .i64 4] w fun e w' => e = .returned (.int .i64 (rdN 4 st).1) ∧ RdL w' g (rdN 4 st).2 ∧ Turn F w w' := lnum_s F g st 4 (.inr (.inr rfl)) w h hF hn
theorem lraw_s (F : Nat → Prop) (g : Nat) (st : St) (n : Int) (hn0 : 0 ≤ n) (w : World) (h : RdL w g st) (hF : F g) (hn : New F w) :
    Calls Try.prog 58 #[.pointer (some ⟨g, 0, none⟩), .int .i64 n] w fun e w' => e = .returned (.string (oct.tx (rd n.toNat st).1)) ∧ RdL w' g (rd n.toNat st).2 ∧ Turn F w w' := by
  obtain ⟨s, e, hx, hs, hz⟩ := h
  refine (oct.rraw_any F g s e n w hx hF hn hz).mono ?_
  rintro e2 w2 ⟨rfl, h2, ht⟩
  have := lsr_take hs n.toNat
  rw [Int.toNat_of_nonneg hn0] at this
  exact ⟨by rw [this.1], ⟨_, _, h2, this.2, Nat.le_trans (oct.rTake_le (s, e) n).2 hz⟩, ht⟩
theorem lend_s (g : Nat) (st : St) (w : World) (h : RdL w g st) :
    Calls Try.prog 36 #[.pointer (some ⟨g, 0, none⟩)] w fun e w' => e = .returned (.int .i64 (endE st)) ∧ w = w' := by
  obtain ⟨s, e, hx, hs, -⟩ := h
  rw [← lsr_end hs]
  exact oct.end_any g s e w hx
theorem lerr_s (g : Nat) (st : St) (w : World) (h : RdL w g st) :
    Calls Try.prog 34 #[.pointer (some ⟨g, 0, none⟩)] w fun e w' => e = .returned (.int .i64 st.2) ∧ w = w' := by
  obtain ⟨s, e, hx, hs, -⟩ := h
  rw [hs.1]
  exact oct.err_ok g s e w hx
theorem lnum2_s (F : Nat → Prop) (g : Nat) (st : St) (w : World) (h : RdL w g st) (hF : F g) (hn : New F w) :
    Calls Try.prog 33 #[.pointer (some ⟨g, 0, none⟩), .int .i64 2] w fun e w' => e = .returned (.int .i64 (rdN 2 st).1) ∧ RdL w' g (rdN 2 st).2 ∧ Turn F w w' := lnum_s F g st 2 (.inr (.inl rfl)) w h hF hn
end Go.Proofs.Ytbfjljbllfjicaa.opn

namespace Go.Proofs.Ytbfjljbllfjicaa.opn
open Go.RowKit Go.Proofs.Ytbfjljbllfjicaa.mem Go.Proofs.Ytbfjljbllfjicaa.sha Go.Proofs.Ytbfjljbllfjicaa.ids

/-- an array's whole as a slice of bytes -/
theorem run_slice_id (V : Nat) (w : World) : (Instr.sliceAt 58 (.pointer (some ⟨V, 0, none⟩)) none none none).run Try.prog w = .ok (.slice (some ⟨V, 0, none⟩) 32 32) w := by
  kernel_rfl
theorem info_u8 : (Try.prog.info? 5).map (·.size) = some 1 := by kernel_rfl
theorem byteCells_bv (l : List UInt8) : Lib.byteCells l = bv l := rfl
theorem results_idv {fn : Func} {p : Tmp} (h : fn.results = #[.cell p 58]) (tmps : Array Value) (w : World) (g : Nat) (t : TypeId) (y : Id)
    (hp : tmps.getD p undef = .pointer (some ⟨g, 0, none⟩)) (hg : Blk w g t (bv y).toArray) (hy : y.length = 32) :
    (results fn tmps).run Try.prog w = .ok (idv y) w := by
  have hp' : tmps[p]?.getD undef = .pointer (some ⟨g, 0, none⟩) := by simpa using hp
  have hl := run_loadVar_row w g t 58 (bv y).toArray (0, 0) _ hg Try.underlying58 rfl (by rw [info_id', List.size_toArray, bv_length, hy])
  simp [results, h, hp', asAddr, hl, idv]
theorem idcopy {y z : Id} (hy : y.length = 0 ∨ y.length = 32) (hz : z = mkId y) : ((bv zid).toArray.toList.take 0 ++ bv y ++ (bv zid).toArray.toList.drop (0 + y.length)).toArray = (bv z).toArray := by
  rw [List.take_zero, List.nil_append, Nat.zero_add]
  rcases hy with h | h
  · have e := List.eq_nil_of_length_eq_zero h
    rw [hz, e]
    rfl
  · rw [h, List.drop_of_length_le (by simp [bv_length, zid_len]), List.append_nil, hz]
    unfold mkId
    rw [if_neg (fun e => by rw [e] at h; simp at h)]
theorem run_exec_slice {P : Program} {ρ : Operand → Value} {o : Oper} {x : Operand} {t : TypeId} {p v : Value} {w : World} (ho : o.op = .slice t x none none none) (hx : ρ x = p) (h : (Instr.sliceAt t p none none none).run P w = .ok v w) :
    (execOp ρ o).run P w = .ok (.value v) w := by
  unfold execOp
  simp [ho, hx, h]
theorem idText (w : World) (g : Nat) (l : List UInt8) (hl : l.length = 32) (h : Blk w g 58 (bv l).toArray) : (convert 73 9 (.slice (some ⟨g, 0, none⟩) 32 32)).run Try.prog w = .ok (.string (oct.tx l)) w := by
  have hx := run_convert_bytes_back w 73 9 5 ⟨g, 0, none⟩ 32 l Try.underlying73 Try.underlying5 Try.underlying9 (fun j hj => by
    rw [Addr.add_lit, Nat.zero_add, h.cell, List.getElem?_toArray]
    unfold bv
    rw [List.getElem?_map, List.getElem?_eq_getElem hj]
    rfl)
  rw [hl] at hx
  exact hx
/-- what has been written of a list -/
theorem flat_snoc (L : List Id) (k : Nat) (h : k < L.length) : (L.take (k + 1)).flatten = (L.take k).flatten ++ L.getD k [] := by
  rw [List.take_succ_eq_append_getElem h, List.flatten_append, List.getD_eq_getElem?_getD, List.getElem?_eq_getElem h]
  simp
theorem flat_take_len {L : List Id} (h : okIds L) (k : Nat) : ((L.take k).flatten).length = min k L.length * 32 := by
  rw [flat_len (h.take k), List.length_take]
end Go.Proofs.Ytbfjljbllfjicaa.opn
