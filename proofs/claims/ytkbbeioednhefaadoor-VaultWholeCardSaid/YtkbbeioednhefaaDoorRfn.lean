/-
  The landed record: Next.
  A region that draws its order, inside a round of a loop over a function: by the laws for one outside of it.
-/
import Derived.Test.YtkbbeioednhefaaDoorRln
import Derived.Deep.RegionHeld3
import Derived.Test.YtkbbeioednhefaaDoorMemi
import Derived.RangeFuncBox
import Derived.RangeFuncLeaves
import Derived.OrdersIn
import Derived.RangeFuncCalls
import Derived.OwnWalkIn
namespace Go.Proofs.YtkbbeioednhefaaDoor.rcd
open Go.RowKit Go.Proofs.YtkbbeioednhefaaDoor.mem Go.Proofs.YtkbbeioednhefaaDoor.sha Go.Proofs.YtkbbeioednhefaaDoor.opn

theorem first_bad {l : List UInt8} (h : (firstR l).2.2 ≠ 0) : firstR l = (zrc, 0, (firstR l).2.2) := by
  rw [first_alt] at h ⊢
  repeat' split
  all_goals first | rfl | skip
  rename_i h1 h2 h3 h4
  rw [if_neg h1, if_neg h2, if_neg h3, if_neg h4] at h
  exact absurd rfl h
set_option maxHeartbeats 8000000 in
set_option maxRecDepth 100000 in
theorem lnext_any (s : ByteArray) (i : Int) (w : World) (hT : crc.Tab w) (hs : s.size ≤ 1000000) :
    Calls Tryd.prog 90 #[.string s, .int .i64 i] w fun e w' => e = .returned (nextV (nextR s.data.toList i)) ∧ Below w.heap.size w w' := by
  have hl : s.data.toList.length = s.size := Array.length_toList
  have s0 : (0 : Int) ≤ (s.size : Int) := Int.natCast_nonneg _
  have hb1 : Below w.heap.size w (w.alloc (.cells #[.int .i64 0, .string ⟨#[]⟩] 39)) := (Below.refl _ _).alloc (Nat.le_refl _) _
  by_cases h0 : i < 0
  · have HE := Lib.hid (show nextR s.data.toList i = (zrc, 0, 5) by unfold nextR; rw [if_pos (.inl h0)])
    have HB := Lib.hid hb1
    clear hb1 hl hT
    go_enter Tryd.func90, Tryd.ntmps90
    go_wp2_with fail
    refine bodyPost_ret (results_rc rfl _ _ w.heap.size 0 ⟨#[]⟩ rfl (Blk.new w _ _)) rfl ⟨?_, HB.out⟩
    rw [HE.out]
    rfl
  by_cases h1 : (s.size : Int) < i
  · have HE := Lib.hid (show nextR s.data.toList i = (zrc, 0, 5) by unfold nextR; rw [if_pos (.inr (by rw [hl]; exact h1))])
    have HB := Lib.hid hb1
    clear hb1 hl hT
    go_enter Tryd.func90, Tryd.ntmps90
    go_wp2_with fail
    refine bodyPost_ret (results_rc rfl _ _ w.heap.size 0 ⟨#[]⟩ rfl (Blk.new w _ _)) rfl ⟨?_, HB.out⟩
    rw [HE.out]
    rfl
  obtain ⟨l, hle⟩ : ∃ l, l = s.data.toList := ⟨_, rfl⟩
  rw [← hle] at hl ⊢
  have HBAD := Lib.hid fun e => next_bad (l := l) (i := i) (e := e) h0 (by rw [hl]; exact h1)
  have HOK := Lib.hid fun n r => next_ok (l := l) (i := i) (n := n) (r := r) h0 (by rw [hl]; exact h1)
  obtain ⟨m, rfl⟩ : ∃ m : Nat, i = (m : Int) := ⟨i.toNat, by omega⟩
  rw [Int.toNat_natCast] at HBAD HOK
  obtain ⟨t, ht⟩ : ∃ t, t = l.drop m := ⟨_, rfl⟩
  have htl : t.length ≤ 1000000 := by rw [ht, List.length_drop]; omega
  rw [← ht] at HBAD HOK
  have hex := fun u => strx.run_slice_str s m (by omega) u
  rw [← hle, ← ht] at hex
  replace hex : ∀ u : World, (Instr.sliceAt 9 (.string s) (some (.int .i64 (m : Int))) none none).run Tryd.prog u = .ok (.string (oct.tx t)) u := hex
  obtain ⟨w1, hw1⟩ : ∃ u, u = w.alloc (.cells #[.int .i64 0, .string ⟨#[]⟩] 39) := ⟨_, rfl⟩
  have hX : Blk w1 w.heap.size 39 #[.int .i64 0, .string ⟨#[]⟩] := by rw [hw1]; exact Blk.new w _ _
  rw [← hw1] at hb1
  have hT1 := hT.next hb1
  have HW1 := Lib.hid hw1
  have HX := Lib.hid hX
  have HB1 := Lib.hid hb1
  have HT1 := Lib.hid hT1
  have hfl := first_len (l := t)
  obtain ⟨r, n, e, hf⟩ : ∃ r n e, firstR t = (r, n, e) := ⟨_, _, _, rfl⟩
  obtain ⟨k, b⟩ := r
  have HRD : Hid (∀ g u, crc.Tab u → 0 < g → RdL u g (t, 0) → Calls Tryd.prog 96 #[.pointer (some ⟨g, 0, none⟩)] u fun e' w' => e' = .returned (.tuple #[.agg #[.int .i64 k, .string (oct.tx b)], .int .i64 e]) ∧ Turn (oct.Only u g) u w') := Lib.hid fun g u hu hg hr => by
    have := read_any g t u hu hg hr (by omega)
    rw [hf] at this
    exact this
  rw [hf] at hfl
  simp only at hfl
  have HFE := Lib.hid hf
  clear hb1 hl hle ht hw1 hX hT1 hT hf
  go_enter Tryd.func90, Tryd.ntmps90
  go_upto_region 1 with fail
  rw [← HW1.out]
  go_upto_region 4 with (first
    | (go_at_call 85; (with_reducible refine (oct.open_any _ _).mono ?_); rintro e1 w2 ⟨rfl, hr2, hb2⟩; have hrd : RdL w2 w1.heap.size (t, 0) := ⟨_, _, hr2, ⟨rfl, fun _ => rfl⟩, by rw [oct.tx_size]; omega⟩; have HR := Lib.hid hrd; have HB2 := Lib.hid hb2; clear hrd hr2 hb2)
    | (go_at_call 96; (with_reducible refine (HRD.out _ _ (HT1.out.next HB2.out) (by have := HX.out.lt; omega) HR.out).mono ?_); rintro e3 w3 ⟨rfl, ht3⟩))
  have ht3' : Below w1.heap.size w1 w3 := HB2.out.trans (ht3.below fun j hj => by rcases hj with e | e; · exact e ▸ Nat.le_refl _
                                                                                  · exact Nat.le_trans HB2.out.size e)
  have hX3 := HX.out.below ht3' HX.out.lt
  obtain ⟨w4, hw4⟩ : ∃ u, u = w3.alloc (.cells #[.int .i64 k, .string (oct.tx b)] 39) := ⟨_, rfl⟩
  obtain ⟨A, hA⟩ : ∃ A, A = w3.heap.size := ⟨_, rfl⟩
  have hX4 : Blk w4 w.heap.size 39 #[.int .i64 0, .string ⟨#[]⟩] := by rw [hw4]; exact hX3.alloc _
  have hA4 : Blk w4 A 39 #[.int .i64 k, .string (oct.tx b)] := by rw [hw4, hA]; exact Blk.new w3 _ _
  have hAR : A ≠ w.heap.size := by have := hX3.lt; omega
  have hb4 : Below w.heap.size w w4 := by
    have h3 := HB1.out.trans (ht3'.mono HB1.out.size)
    rw [hw4]
    exact h3.trans (((Below.refl _ w3).alloc (Nat.le_refl _) _).mono h3.size)
  rw [← hA]
  rw [← hw4]
  have c0 : w4.cell? ⟨w.heap.size, 0, none⟩ = some (.int .i64 0) := hX4.cell 0
  have c1 : w4.cell? ⟨w.heap.size, 1, none⟩ = some (.string ⟨#[]⟩) := hX4.cell 1
  have f0 := hX4.frozen 0
  have f1 := hX4.frozen 1
  have a0 : w4.cell? ⟨A, 0, none⟩ = some (.int .i64 k) := hA4.cell 0
  have a1 : w4.cell? ⟨A, 1, none⟩ = some (.string (oct.tx b)) := hA4.cell 1
  have HTELL : Hid (∀ (k' : Int) (s' : ByteArray), Blk ((w4.setCell ⟨w.heap.size, 0, none⟩ (.int .i64 k')).setCell ⟨w.heap.size, 1, none⟩ (.string s')) w.heap.size 39 #[.int .i64 k', .string s'] ∧ Below w.heap.size w ((w4.setCell ⟨w.heap.size, 0, none⟩ (.int .i64 k')).setCell ⟨w.heap.size, 1, none⟩ (.string s'))) := Lib.hid fun k' s' => ⟨(hX4.set_ 0 _).set_ 1 _, hb4.trans ((((Turn.refl (· = w.heap.size) w4).setCell rfl _).setCell rfl _).below fun j hj => by rw [hj]; exact Nat.le_refl _)⟩
  have HA4 := Lib.hid hA4
  have HB4 := Lib.hid hb4
  clear ht3 ht3' hX3 hw4 hA hX4 hA4 hb4
  by_cases he : e = 0
  case neg =>
    have hd : (e != 0) = true := by simpa using he
    have HE : Hid (nextR l (m : Int) = (zrc, 0, e)) := Lib.hid (HBAD.out e (by have := first_bad (l := t) (by rw [HFE.out]; exact he); rw [HFE.out] at this; rw [HFE.out]; exact this) he)
    clear he hfl
    go_wp2_with fail
    refine bodyPost_ret (results_rc rfl _ _ w.heap.size 0 ⟨#[]⟩ rfl (HTELL.out 0 ⟨#[]⟩).1) rfl ⟨?_, (HTELL.out 0 ⟨#[]⟩).2⟩
    rw [HE.out]
    rfl
  subst he
  obtain ⟨hn, hbl⟩ := hfl rfl
  have HE := Lib.hid (HOK.out n _ HFE.out)
  have hbs := oct.tx_size b
  obtain ⟨tb, htb⟩ : ∃ x, x = oct.tx b := ⟨_, rfl⟩
  rw [← htb] at hbs a1 HA4 ⊢
  have HTB := Lib.hid htb
  have HZ := Lib.hid fun u => size_any (tb.size : Int) (by omega) u
  rw [show sizeR (tb.size : Int) = (tb.size : Int) + 9 by unfold sizeR; rw [if_neg (by omega)]] at HZ
  have q0 : (0 : Int) ≤ (tb.size : Int) := Int.natCast_nonneg _
  have q1 : (tb.size : Int) ≤ 1048576 := by omega
  have hwr : IntKind.i64.wrap ((m : Int) + ((tb.size : Int) + 9)) = (m : Int) + ((tb.size : Int) + 9) := by rw [IntKind.wrap_i64]; omega
  have HN := Lib.hid (show (m : Int) + n = (m : Int) + ((tb.size : Int) + 9) by omega)
  clear hfl hn hbl hbs htb htl
  go_upto_region 6 with fail
  go_region_with (first | (go_at_call 75; (with_reducible refine (HZ.out _).mono ?_); rintro e8 w8 ⟨rfl, rfl⟩))
  all_goals (try simp only [Act.put, List.getElem_toArray, List.getElem_cons_succ, List.getElem_cons_zero, List.setIfInBounds_toArray, List.set_cons_succ, List.set_cons_zero])
  all_goals go_wp2_with fail
  all_goals
    refine bodyPost_ret (results_rc rfl _ _ w.heap.size k tb rfl (HTELL.out k tb).1) rfl ⟨?_, ?_⟩
    · rw [HE.out, HN.out, HTB.out]
      rfl
    · exact below_drewN (HTELL.out k tb).2 1
end Go.Proofs.YtkbbeioednhefaaDoor.rcd

namespace Go.Proofs.YtkbbeioednhefaaDoor.mem
open Go.RowKit

def noDefer (ops : Array Oper) : Bool := ops.all fun o => match o.op with | .defer _ => false | _ => true
theorem noDefer_spec {ops : Array Oper} (h : noDefer ops = true) {i : Nat} {o : Oper} (ho : ops[i]? = some o) (c : Call) : o.op ≠ .defer c := by
  intro e
  obtain ⟨hi, ho⟩ := Array.getElem?_eq_some_iff.1 ho
  have := (Array.all_eq_true.1 h) i hi
  rw [ho, e] at this
  cases this
section
variable {P : Program} {ops : Array Oper} {Q : Exit → Act → World → Prop} {md : Region.Mode} {n l : Nat}
theorem wpOpIn_round (hnd : noDefer ops = true) (hQ : ¬ LetsOut Q) {i : Nat} {K K' : Act → World → Prop} {a : Act} {w : World} (hK : ∀ a w, K a w → K' a w) (h : wpOp P ops Q i K a w) : wpOpIn (Fence.wide.inRound l) n P ops Q i K' a w := by
  unfold wpOp at h
  unfold wpOpIn
  cases ho : ops[i]? with
  | none =>
    simp only [ho] at h ⊢
    exact hK _ _ h
  | some o =>
    simp only [ho] at h ⊢
    by_cases hw : Region.wanted o (yielded ops a.tmps) = true
    · simp only [hw, if_true] at h ⊢
      rcases h with h | h
      · unfold Oper.wp at h
        refine ⟨fun _ _ => trivial, ?_⟩
        rw [Oper.semAt_eq _ _ _ (fun c => noDefer_spec hnd ho c)]
        generalize (execOp a.eval o).run P w = r at h
        cases r with
        | ok x w' =>
          cases x with
          | value v => exact hK _ _ h
          | skip => exact hK _ _ h
          | defer d => exact hK _ _ h
          | enter f args =>
            refine ⟨fun hd => by simp [Fence.wide] at hd, CallsIn.inRound l (callsIn_wide.2 (Calls.mono h fun e w'' he => ?_))⟩
            cases e with
            | returned u => exact hK _ _ he
            | panicked c => exact he
            | outgrown => exact he
          | row row args =>
            refine ⟨fun hd => by simp [Fence.wide] at hd, fun c cs _ => ?_⟩
            obtain ⟨v, w'', r, s⟩ := (show Rows P row args w' _ from h) c cs
            exact ⟨v, w'', hK _ _ r, stepsIn_wide.2 s⟩
          | _ => exact h.elim
        | halt x w' =>
          cases x with
          | panic v => exact h
          | _ => exact h.elim
      · exact absurd h.2 hQ
    · simp only [hw] at h ⊢
      exact ⟨fun _ _ => trivial, hK _ _ h⟩
theorem wpAnyIn_round (hnd : noDefer ops = true) (hQ : ¬ LetsOut Q) : ∀ (fuel : Nat) (listed : Array Bool) (a : Act) (w : World), wpAny P md ops Q fuel listed a w → wpAnyIn (Fence.wide.inRound l) n P md ops Q fuel listed a w
  | 0, _, _, _, h => h
  | fuel + 1, _, _, _, h => ⟨h.1, fun i hi => wpOpIn_round hnd hQ (fun a w => wpAnyIn_round hnd hQ fuel _ a w) (h.2 i hi)⟩
theorem wpIn_region_round {id : Nat} {a : Act} {w : World} (hm : P.follows .mixedOrders = true) (hnd : noDefer ops = true) (hQ : ¬ LetsOut Q)
    (h : wpAny P .any ops Q ops.size (Array.replicate ops.size false) a w.drew) : (Code.region id ops true).wpIn (Fence.wide.inRound l) n P Q a w :=
  wpIn_region_any hm (wpAnyIn_round hnd hQ _ _ _ _ h)
end
theorem wpListIn_append_run {F : Fence} {n : Nat} {P : Program} {w : World} {ops : Array Oper} {rest : List Oper} {o : Oper} {a : Act} {Q : Exit → Act → World → Prop}
    (hg : o.guard = none) (s x : Operand) (t : TypeId) (hop : o.op = Op.call { callee := Callee.builtin Builtin.append, args := #[s, x], argTypes := #[t, t] })
    (vs vx v' : Value) (w' : World) (hs : a.eval s = vs) (hx : a.eval x = vx) (hr : (Builtin.append_ #[t, t] o.type #[vs, vx]).run P w = .ok v' w') (hK : wpListIn F n P ops Q rest (a.put o.dst v') w') :
    wpListIn F n P ops Q (o :: rest) a w := by
  refine wpListIn_plain hg fun K hK' => ?_
  unfold Oper.wpIn
  refine ⟨?_, ?_⟩
  · simp [Oper.about, hop, resolve, Target.leads, Sem.run_pure]
  · rw [Oper.semAt_plain F _ _ (by rw [hop]; intro c hc'; cases hc')]
    simp [execOp, hop, resolve, invoke, builtin, hs, hx, hr, Result.andThen]
    exact hK' _ _ hK
theorem letsOut_ownG {α : Type} {B : Nat} {Kp : World → World → Prop} {I : List α → World → Prop} {Ix : Code → List α → World → Prop} {xs : List α} {W : World} : ¬ LetsOut (ownPostG B Kp I Ix xs W) := fun ⟨_, _, h⟩ => h
/-- what turns only blocks of cells and new ones keeps whatever is no cells -/
theorem keepsFrom_turn {F : Nat → Prop} {B : Nat} {W W' : World} (h : Turn F W W') (hF : ∀ (k : Nat) (o : Obj), W.heap[k]? = some o → o.isCells = false → ¬ F k) : KeepsFrom B W W' :=
  ⟨h.size, fun k o _ hk ho => (h.block k (hF k o hk ho)).trans hk⟩
theorem Blk.isCells {w : World} {g : Nat} {t : TypeId} {cs : Array Value} (h : Blk w g t cs) {o : Obj} (ho : w.heap[g]? = some o) : o.isCells = true := by
  rw [show w.heap[g]? = _ from h] at ho
  cases ho
  rfl
end Go.Proofs.YtkbbeioednhefaaDoor.mem
