/-
  petrelref01.Reader.End.
  petrelref01.Reader by plain functions: what is left, and the first error.
  petrelref14.Of.
-/
import Derived.Test.YtbhkegdohiekfaaDoorRef1
import Derived.Test.YtbhkegdohiekfaaDoorRdx
import Derived.Test.YtbhkegdohiekfaaDoorOpi
import Derived.Test.YtbhkegdohiekfaaDoorEnpt
namespace Go.Proofs.YtbhkegdohiekfaaDoor.oct
open Go.RowKit Go.Proofs.YtbhkegdohiekfaaDoor.mem

def xEnd (st : ByteArray × Int) : Int := if st.2 ≠ 0 then st.2 else if 0 < st.1.size then 4 else 0
theorem xend_any (g : Nat) (s : ByteArray) (err : Int) (w : World) (h : XBlk w g s err) :
    Calls Tryd.prog 40 #[.pointer (some ⟨g, 0, none⟩)] w fun e w' => e = .returned (.int .i64 (xEnd (s, err))) ∧ w = w' := by
  have c0 := h.c0
  have c1 := h.c1
  by_cases he : err = 0
  · subst he
    by_cases hs : 0 < s.size
    · have e2 : xEnd (s, 0) = 4 := by unfold xEnd; rw [if_neg (by simp), if_pos hs]
      rw [e2]
      clear e2
      go_enter Tryd.func40, Tryd.ntmps40
      go_wp2
      go_ret
      exact ⟨rfl, rfl⟩
    · have e2 : xEnd (s, 0) = 0 := by unfold xEnd; rw [if_neg (by simp), if_neg hs]
      rw [e2]
      clear e2
      go_enter Tryd.func40, Tryd.ntmps40
      go_wp2
      go_ret
      exact ⟨rfl, rfl⟩
  · have e2 : xEnd (s, err) = err := by unfold xEnd; rw [if_pos he]
    rw [e2]
    have hd : (err == 0) = false := by simpa using he
    clear e2 he
    go_enter Tryd.func40, Tryd.ntmps40
    go_wp2
    go_ret
    exact ⟨rfl, rfl⟩
end Go.Proofs.YtbhkegdohiekfaaDoor.oct

namespace Go.Proofs.YtbhkegdohiekfaaDoor.opn
open Go.RowKit Go.Proofs.YtbhkegdohiekfaaDoor.mem Go.Proofs.YtbhkegdohiekfaaDoor.sha Go.Proofs.YtbhkegdohiekfaaDoor.ids

theorem id_s (F : Nat → Prop) (g : Nat) (st : St) (w : World) (h : RdrS w g st) (hF : F g) (hn : New F w) :
    Calls Tryd.prog 39 #[.pointer (some ⟨g, 0, none⟩)] w fun e w' => e = .returned (idv (rdI st).1) ∧ RdrS w' g (rdI st).2 ∧ Turn F w w' := by
  obtain ⟨s, e, hx, hs⟩ := h
  refine (xid_any F g s e w hx hF hn).mono ?_
  rintro e2 w2 ⟨rfl, h2, ht⟩
  have := sr_take hs 32
  refine ⟨?_, ⟨_, _, h2, this.2⟩, ht⟩
  have e3 : (oct.xTake (s, e) 32).1 = oct.tx (rd 32 st).1 := this.1
  rw [e3, oct.tx_list]
  rfl
theorem sr_end {x : ByteArray × Int} {st : St} (h : Sr x st) : oct.xEnd x = endE st := by
  unfold oct.xEnd endE
  rw [h.1]
  by_cases h0 : x.2 = 0
  · have hn : ¬ (x.2 ≠ 0) := fun hh => hh h0
    rw [if_neg hn, if_neg hn, h.2 h0, oct.tx_size]
    cases st.1 with
    | nil => rfl
    | cons a l => rw [if_pos (by simp), if_neg (by simp)]
  · rw [if_pos h0, if_pos h0]
theorem end_s (g : Nat) (st : St) (w : World) (h : RdrS w g st) :
    Calls Tryd.prog 40 #[.pointer (some ⟨g, 0, none⟩)] w fun e w' => e = .returned (.int .i64 (endE st)) ∧ w = w' := by
  obtain ⟨s, e, hx, hs⟩ := h
  rw [← sr_end hs]
  exact oct.xend_any g s e w hx
end Go.Proofs.YtbhkegdohiekfaaDoor.opn

namespace Go.Proofs.YtbhkegdohiekfaaDoor.ent
open Go.RowKit Go.Proofs.YtbhkegdohiekfaaDoor.mem Go.Proofs.YtbhkegdohiekfaaDoor.sha Go.Proofs.YtbhkegdohiekfaaDoor.ids
open Go.Proofs.YtbhkegdohiekfaaDoor.opn (b1 b2 b4 num txt idl byte rd rdN rdT rdI rdS rdL St Reads Stays endE zid mkId RdrS)
open Go.Proofs.YtbhkegdohiekfaaDoor.topic (kindOf)

/-- what stands while a part is read: the entry so far, the Reader, the result -/
structure OfP (w0 : World) (R S : Nat) (e : En) (st : St) (w : World) : Prop where
  op : Blk w S 25 (enc e).toArray
  rdr : RdrS w (R + 1) st
  res : Blk w R 25 (enc zen).toArray
  below : Below w0.heap.size w0 w
  RS : R + 1 < S
  hw : w0.heap.size ≤ R
  ref : e.commit.length = 32
section
variable {w0 : World} {R S : Nat} {e e' : En} {st st2 : St} {w w2 : World}
theorem OfP.read {F : Nat → Prop} (h : OfP w0 R S e st w) (ht : Turn F w w2) (hF : ∀ b, F b → b = R + 1 ∨ w.heap.size ≤ b) (hr : RdrS w2 (R + 1) st2) : OfP w0 R S e st2 w2 := by
  have h1 := h.op.lt
  have h2 := h.RS
  have h3 := h.hw
  exact ⟨h.op.turn ht (fun hb => by rcases hF _ hb with x | x <;> omega), hr, h.res.turn ht (fun hb => by rcases hF _ hb with x | x <;> omega), h.below.trans (ht.below fun b hb => by rcases hF _ hb with x | x <;> have := h.below.size <;> omega), h2, h3, h.ref⟩
theorem OfP.put (h : OfP w0 R S e st w) (ht : Turn (· = S) w w2) (hS : Blk w2 S 25 (enc e').toArray) (href : e'.commit.length = 32) : OfP w0 R S e' st w2 := by
  have h2 := h.RS
  have h3 := h.hw
  exact ⟨hS, h.rdr.turn ht (by omega), h.res.turn ht (by omega), h.below.trans (ht.below fun b hb => by omega), h2, h3, href⟩
theorem OfP.putt (h : OfP w0 R S e st w) (l : List UInt8) : OfP w0 R S { e with topic := l } st (w.setCell ⟨S, 1, none⟩ (.string (oct.tx l))) := h.put ((Turn.refl (· = S) w).setCell rfl _) (enm_topic h.op l) h.ref
theorem OfP.putb (h : OfP w0 R S e st w) (l : List UInt8) : OfP w0 R S { e with body := l } st (w.setCell ⟨S, 2, none⟩ (.string (oct.tx l))) := h.put ((Turn.refl (· = S) w).setCell rfl _) (enm_body h.op l) h.ref
theorem OfP.puti (h : OfP w0 R S e st w) (y : List UInt8) (hy : y.length = 32) : OfP w0 R S { e with commit := y } st (w.setRow S (enc { e with commit := y }).toArray) := h.put (turn_row w S _) (setRow_heap w S _ _ _ _ h.op) hy
theorem OfP.zero (h : OfP w0 R S e st w) : (Instr.storeAt 25 (.pointer (some ⟨R, 0, none⟩)) (env zen)).run Tryd.prog w = .ok () (w.setRow R (enc zen).toArray) := run_store_en h.res (enc_size _ zlen) zen zlen
theorem OfP.last (h : OfP w0 R S e st w) (hb : Below w.heap.size w w2) : (Instr.storeAt 25 (.pointer (some ⟨R, 0, none⟩)) (env e)).run Tryd.prog w2 = .ok () (w2.setRow R (enc e).toArray) := run_store_en (h.res.below hb h.res.lt) (enc_size _ zlen) e h.ref
theorem OfP.text (h : OfP w0 R S e st w) (h0 : st.2 = 0) : w.cell? ⟨R + 1, 0, none⟩ = some (.string (oct.tx st.1)) := by
  obtain ⟨s, er, hx, hs⟩ := h.rdr
  have he : er = 0 := by have := hs.1; simp only at this; omega
  rw [← hs.2 he]
  exact Blk.cell hx 0
end
/-- what Of answers -/
def OfOut (l : List UInt8) (w : World) (x : Ending) (w' : World) : Prop := x = .returned (.tuple #[env (ofE l).1, .int .i64 (ofE l).2]) ∧ Below w.heap.size w w'
theorem held_en (w : World) (e : En) (hr : e.commit.length = 32) : (Instr.storeAt 25 (.pointer (some ⟨w.heap.size, 0, none⟩)) (env e)).run Tryd.prog (w.alloc (.cells (enc zen).toArray 25)) = .ok () ((w.alloc (.cells (enc zen).toArray 25)).setRow w.heap.size (enc e).toArray) :=
  run_store_en (Blk.new w 25 (enc zen).toArray) (enc_size _ zlen) e hr
theorem ofE_eq (l : List UInt8) (k : Int) (st : St) (hk : k = (rdN 1 (l, 0)).1) (hst : st = (rdN 1 (l, 0)).2) : ofE l = if st.2 ≠ 0 then (zen, st.2) else if kindE k = 0 then (zen, 10) else if endE (rdE k st).2 ≠ 0 then (zen, endE (rdE k st).2) else if checkE (rdE k st).1 ≠ 0 then (zen, checkE (rdE k st).1) else ((rdE k st).1, 0) := by
  rw [hk, hst]; rfl
theorem rdT_bound (st : St) : (rdT st).1.length ≤ 255 := by
  show (rd (rdN 1 st).1.toNat (rdN 1 st).2).1.length ≤ 255
  have h1 := opn.rdN1_lt st
  have h2 := opn.rdN_nonneg 1 st
  rcases opn.rd_len (rdN 1 st).1.toNat (rdN 1 st).2 with h | h <;> omega
theorem rdB_len (st : St) : (rdB st).1.length ≤ st.1.length := by
  show (rd st.1.length st).1.length ≤ _
  rcases opn.rd_len st.1.length st with h | h <;> omega
theorem rdE_commit (k : Int) (st : St) : (rdE k st).1.commit.length = 32 := by
  unfold rdE
  repeat' split
  · exact zlen
  · exact opn.rdI_len st
  · exact zlen
  · exact zlen
theorem rdE_topic (k : Int) (st : St) : (rdE k st).1.topic.length ≤ 255 := by
  unfold rdE
  repeat' split
  · exact Nat.zero_le _
  · exact Nat.zero_le _
  · exact rdT_bound st
  · exact rdT_bound st
theorem rd_left (n : Nat) (st : St) : (rd n st).2.1.length ≤ st.1.length := by
  unfold rd
  repeat' split
  · exact Nat.zero_le _
  · exact Nat.zero_le _
  · show (st.1.drop n).length ≤ _
    rw [List.length_drop]; omega
theorem rdE_body (k : Int) (st : St) : (rdE k st).1.body.length ≤ st.1.length := by
  unfold rdE
  repeat' split
  · exact rdB_len st
  · exact Nat.zero_le _
  · exact Nat.zero_le _
  · exact Nat.le_trans (rdB_len _) (Nat.le_trans (rd_left _ _) (rd_left _ _))
end Go.Proofs.YtbhkegdohiekfaaDoor.ent
