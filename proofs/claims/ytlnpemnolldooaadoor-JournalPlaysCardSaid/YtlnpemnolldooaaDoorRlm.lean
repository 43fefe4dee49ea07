/-
  The landed record: read.
-/
import Derived.Test.YtlnpemnolldooaaDoorRll
namespace Go.Proofs.YtlnpemnolldooaaDoor.rcd
open Go.RowKit Go.Proofs.YtlnpemnolldooaaDoor.mem Go.Proofs.YtlnpemnolldooaaDoor.sha Go.Proofs.YtlnpemnolldooaaDoor.opn

theorem st_two (n : Nat) (st : St) (h : st.2 = 0 ∨ st.2 = 2) : (rd n st).2.2 = 0 ∨ (rd n st).2.2 = 2 := by
  unfold rd
  repeat' split
  · exact h
  · exact .inr rfl
  · exact .inl rfl
theorem st_twoN (n : Nat) (st : St) (h : st.2 = 0 ∨ st.2 = 2) : (rdN n st).2.2 = 0 ∨ (rdN n st).2.2 = 2 := st_two n st h
/-- the order in which the landed code asks -/
theorem first_alt (l : List UInt8) : firstR l =
    if 1048576 < (rdN 4 (l, 0)).1 then (zrc, 0, 3)
    else if (rdN 4 (rd (rdN 4 (l, 0)).1.toNat (rdN 1 (rdN 4 (l, 0)).2).2).2).2.2 ≠ 0 then (zrc, 0, 2)
    else if (rdN 1 (rdN 4 (l, 0)).2).1 < 1 ∨ 3 < (rdN 1 (rdN 4 (l, 0)).2).1 then (zrc, 0, 10)
    else if sumI ⟨(rdN 1 (rdN 4 (l, 0)).2).1, (rd (rdN 4 (l, 0)).1.toNat (rdN 1 (rdN 4 (l, 0)).2).2).1⟩ ≠ (rdN 4 (rd (rdN 4 (l, 0)).1.toNat (rdN 1 (rdN 4 (l, 0)).2).2).2).1 then (zrc, 0, 13)
    else (⟨(rdN 1 (rdN 4 (l, 0)).2).1, (rd (rdN 4 (l, 0)).1.toNat (rdN 1 (rdN 4 (l, 0)).2).2).1⟩, (rdN 4 (l, 0)).1 + 9, 0) := by
  by_cases h4 : 4 ≤ l.length
  · have hn4 : rdN 4 (l, 0) = (num (l.take 4), (l.drop 4, 0)) := by unfold rdN; rw [(rd_st 4 l).1 h4]
    unfold firstR
    rw [hn4]
    simp only [ne_eq, not_true_eq_false, if_false]
  · have e4 : rdN 4 (l, 0) = (0, ([], 2)) := by unfold rdN; rw [(rd_st 4 l).2 (by omega)]; rfl
    unfold firstR
    rw [e4]
    simp only
    rw [if_pos (by decide), if_neg (by decide), if_pos]
    rw [stays_N 1 2 (by decide), stays_rd _ 2 (by decide), stays_N 4 2 (by decide)]
    decide
theorem first_len {l : List UInt8} (h : (firstR l).2.2 = 0) : (firstR l).2.1 = ((firstR l).1.body.length : Int) + 9 ∧ (firstR l).1.body.length ≤ 1048576 := by
  rw [first_alt] at h ⊢
  split at h
  · cases h
  · next h3 =>
    split at h
    · cases h
    · next h2 =>
      split at h
      · cases h
      · next h10 =>
        split at h
        · cases h
        · next h13 =>
          rw [if_neg h3, if_neg h2, if_neg h10, if_neg h13]
          simp only
          have h0 := rdN_nonneg 4 (l, 0)
          have hx : (rd (rdN 4 (l, 0)).1.toNat (rdN 1 (rdN 4 (l, 0)).2).2).1.length = (rdN 4 (l, 0)).1.toNat := by
            have h2' : (rdN 4 (rd (rdN 4 (l, 0)).1.toNat (rdN 1 (rdN 4 (l, 0)).2).2).2).2.2 = 0 := Decidable.not_not.1 h2
            obtain ⟨st, hst⟩ : ∃ st, st = (rdN 1 (rdN 4 (l, 0)).2).2 := ⟨_, rfl⟩
            rw [← hst] at h2' ⊢
            obtain ⟨l2, e2⟩ := st
            have he : (rd (rdN 4 (l, 0)).1.toNat (l2, e2)).2.2 = 0 := rd_err' h2'
            unfold rd at he ⊢
            split at he
            · next hne => exact absurd he hne
            · next hne =>
              rw [if_neg hne]
              split at he
              · cases he
              · next hl =>
                rw [if_neg hl]
                simp only at hl ⊢
                rw [List.length_take]; omega
          rw [hx]
          omega
theorem results_rc2 {fn : Func} {p q : Tmp} (h : fn.results = #[.cell p 39, .tmp q]) (tmps : Array Value) (w : World) (g : Nat) (k : Int) (s : ByteArray)
    (hp : tmps.getD p undef = .pointer (some ⟨g, 0, none⟩)) (hg : Blk w g 39 #[.int .i64 k, .string s]) :
    (results fn tmps).run Tryd.prog w = .ok (.tuple #[.agg #[.int .i64 k, .string s], tmps.getD q undef]) w := by
  have hp' : tmps[p]?.getD undef = .pointer (some ⟨g, 0, none⟩) := by simpa using hp
  have hl := run_loadVar_row w g 39 39 #[.int .i64 k, .string s] (0, 0) _ hg Tryd.underlying39 rfl (by rw [info_rc]; rfl)
  simp [results, h, hp', asAddr, hl]
/-- what stands while the landed code reads: the result's box R, the Reader's g -/
structure LS (w0 : World) (R g : Nat) (st : St) (w : World) : Prop where
  turn : Turn (oct.Only w0 g) w0 w
  r : Blk w R 39 #[.int .i64 0, .string ⟨#[]⟩]
  rd : RdL w g st
  gR : g < w0.heap.size
  Rge : w0.heap.size ≤ R
  g0 : 0 < g
  tab : crc.Tab w
section
variable {w0 w w' : World} {R g A : Nat} {st st' : St} {k : Int} {s : ByteArray}
theorem LS.step (h : LS w0 R g st w) (hr : RdL w' g st') (ht : Turn (oct.Only w g) w w') : LS w0 R g st' w' := by
  have h1 := h.r.lt
  have h2 := h.gR
  have h3 := h.Rge
  have h4 := h.turn.size
  have h5 := h.g0
  exact ⟨h.turn.trans (ht.mono fun j hj => hj.imp id fun x => Nat.le_trans h4 x), Blk.turn h.r ht (fun hh => by rcases hh with e | e <;> omega), hr, h2, h3, h5, tab_turn h.tab ht (fun hh => by rcases hh with e | e <;> omega)⟩
theorem LS.next (h : LS w0 R g st w) (hb : Below w.heap.size w w') : LS w0 R g st w' :=
  h.step (h.rd.turn (Turn.ofBelow hb) (by have := h.rd.lt; omega)) ((Turn.ofBelow hb).mono fun j hj => .inr hj)
theorem LS.out (h : LS w0 R g st w) (k : Int) (t : ByteArray) : Blk ((w.setCell ⟨R, 0, none⟩ (.int .i64 k)).setCell ⟨R, 1, none⟩ (.string t)) R 39 #[.int .i64 k, .string t] ∧ Turn (oct.Only w0 g) w0 ((w.setCell ⟨R, 0, none⟩ (.int .i64 k)).setCell ⟨R, 1, none⟩ (.string t)) := by
  refine ⟨(h.r.set_ 0 (.int .i64 k)).set_ 1 (.string t), ?_⟩
  exact h.turn.trans ((((Turn.refl (· = R) w).setCell rfl _).setCell rfl _).mono fun j hj => by rw [hj]; exact .inr h.Rge)
theorem LS.cells (h : LS w0 R g st w) : w.cell? ⟨R, 0, none⟩ = some (.int .i64 0) ∧ w.cell? ⟨R, 1, none⟩ = some (.string ⟨#[]⟩) ∧ w.frozen? ⟨R, 0, none⟩ = false ∧ w.frozen? ⟨R, 1, none⟩ = false :=
  ⟨h.r.cell 0, h.r.cell 1, h.r.frozen 0, h.r.frozen 1⟩
theorem LS.start (g : Nat) (st : St) (w : World) (h : RdL w g st) (hT : crc.Tab w) (hg : 0 < g) : LS w w.heap.size g st (w.alloc (.cells #[.int .i64 0, .string ⟨#[]⟩] 39)) := by
  have hb : Below w.heap.size w (w.alloc (.cells #[.int .i64 0, .string ⟨#[]⟩] 39)) := (Below.refl _ _).alloc (Nat.le_refl _) _
  exact ⟨(Turn.ofBelow hb).mono fun j hj => .inr hj, Blk.new w _ _, h.turn (Turn.ofBelow hb) (by have := h.lt; omega), h.lt, Nat.le_refl _, hg, hT.next hb⟩
end
end Go.Proofs.YtlnpemnolldooaaDoor.rcd
