/-
  The landed record: Next.
  A region that draws its order, inside a round of a loop over a function: by the laws for one outside of it.
  The landed record: the iterator over records (a range over a function).
-/
import Derived.Test.YtkbbeioednhefaaGreatDoorRln
import Derived.Deep.RegionHeld3
import Derived.Test.YtkbbeioednhefaaGreatDoorMemi
import Derived.RangeFuncBox
import Derived.RangeFuncLeaves
import Derived.OrdersIn
import Derived.RangeFuncCalls
import Derived.OwnWalkIn
import Derived.Shelf.Abstract
import Derived.Shelf.RegionOpen
import Derived.TacticsInMore
import Derived.LoopNIn
import Derived.LoopIn
import Derived.Sort.CutIn
namespace Go.Proofs.YtkbbeioednhefaaGreatDoor.rcd
open Go.RowKit Go.Proofs.YtkbbeioednhefaaGreatDoor.mem Go.Proofs.YtkbbeioednhefaaGreatDoor.sha Go.Proofs.YtkbbeioednhefaaGreatDoor.opn

theorem first_bad {l : List UInt8} (h : (firstR l).2.2 ≠ 0) : firstR l = (zrc, 0, (firstR l).2.2) := by
  rw [first_alt] at h ⊢
  repeat' split
  all_goals first | rfl | skip
  rename_i h1 h2 h3 h4
  rw [if_neg h1, if_neg h2, if_neg h3, if_neg h4] at h
  exact absurd rfl h
set_option maxHeartbeats 8000000 in
set_option maxRecDepth 100000 in
theorem lnext_any (s : ByteArray) (i : Int) (w : World) (hT : crc.Tab w) (hs : s.size ≤ 1000000) :
    Calls Tryz.prog 102 #[.string s, .int .i64 i] w fun e w' => e = .returned (nextV (nextR s.data.toList i)) ∧ Below w.heap.size w w' := by
  have hl : s.data.toList.length = s.size := Array.length_toList
  have s0 : (0 : Int) ≤ (s.size : Int) := Int.natCast_nonneg _
  have hb1 : Below w.heap.size w (w.alloc (.cells #[.int .i64 0, .string ⟨#[]⟩] 66)) := (Below.refl _ _).alloc (Nat.le_refl _) _
  by_cases h0 : i < 0
  · have HE := Lib.hid (show nextR s.data.toList i = (zrc, 0, 5) by unfold nextR; rw [if_pos (.inl h0)])
    have HB := Lib.hid hb1
    clear hb1 hl hT
    go_enter Tryz.func102, Tryz.ntmps102
    go_wp2_with fail
    refine bodyPost_ret (results_rc rfl _ _ w.heap.size 0 ⟨#[]⟩ rfl (Blk.new w _ _)) rfl ⟨?_, HB.out⟩
    rw [HE.out]
    rfl
  by_cases h1 : (s.size : Int) < i
  · have HE := Lib.hid (show nextR s.data.toList i = (zrc, 0, 5) by unfold nextR; rw [if_pos (.inr (by rw [hl]; exact h1))])
    have HB := Lib.hid hb1
    clear hb1 hl hT
    go_enter Tryz.func102, Tryz.ntmps102
    go_wp2_with fail
    refine bodyPost_ret (results_rc rfl _ _ w.heap.size 0 ⟨#[]⟩ rfl (Blk.new w _ _)) rfl ⟨?_, HB.out⟩
    rw [HE.out]
    rfl
  obtain ⟨l, hle⟩ : ∃ l, l = s.data.toList := ⟨_, rfl⟩
  rw [← hle] at hl ⊢
  have HBAD := Lib.hid fun e => next_bad (l := l) (i := i) (e := e) h0 (by rw [hl]; exact h1)
  have HOK := Lib.hid fun n r => next_ok (l := l) (i := i) (n := n) (r := r) h0 (by rw [hl]; exact h1)
  obtain ⟨m, rfl⟩ : ∃ m : Nat, i = (m : Int) := ⟨i.toNat, by omega⟩
  rw [Int.toNat_natCast] at HBAD HOK
  obtain ⟨t, ht⟩ : ∃ t, t = l.drop m := ⟨_, rfl⟩
  have htl : t.length ≤ 1000000 := by rw [ht, List.length_drop]; omega
  rw [← ht] at HBAD HOK
  have hex := fun u => strx.run_slice_str s m (by omega) u
  rw [← hle, ← ht] at hex
  replace hex : ∀ u : World, (Instr.sliceAt 9 (.string s) (some (.int .i64 (m : Int))) none none).run Tryz.prog u = .ok (.string (oct.tx t)) u := hex
  obtain ⟨w1, hw1⟩ : ∃ u, u = w.alloc (.cells #[.int .i64 0, .string ⟨#[]⟩] 66) := ⟨_, rfl⟩
  have hX : Blk w1 w.heap.size 66 #[.int .i64 0, .string ⟨#[]⟩] := by rw [hw1]; exact Blk.new w _ _
  rw [← hw1] at hb1
  have hT1 := hT.next hb1
  have HW1 := Lib.hid hw1
  have HX := Lib.hid hX
  have HB1 := Lib.hid hb1
  have HT1 := Lib.hid hT1
  have hfl := first_len (l := t)
  obtain ⟨r, n, e, hf⟩ : ∃ r n e, firstR t = (r, n, e) := ⟨_, _, _, rfl⟩
  obtain ⟨k, b⟩ := r
  have HRD : Hid (∀ g u, crc.Tab u → 0 < g → RdL u g (t, 0) → Calls Tryz.prog 103 #[.pointer (some ⟨g, 0, none⟩)] u fun e' w' => e' = .returned (.tuple #[.agg #[.int .i64 k, .string (oct.tx b)], .int .i64 e]) ∧ Turn (oct.Only u g) u w') := Lib.hid fun g u hu hg hr => by
    have := read_any g t u hu hg hr (by omega)
    rw [hf] at this
    exact this
  rw [hf] at hfl
  simp only at hfl
  have HFE := Lib.hid hf
  clear hb1 hl hle ht hw1 hX hT1 hT hf
  go_enter Tryz.func102, Tryz.ntmps102
  go_upto_region 1 with fail
  rw [← HW1.out]
  go_upto_region 4 with (first
    | (go_at_call 85; (with_reducible refine (oct.open_any _ _).mono ?_); rintro e1 w2 ⟨rfl, hr2, hb2⟩; have hrd : RdL w2 w1.heap.size (t, 0) := ⟨_, _, hr2, ⟨rfl, fun _ => rfl⟩, by rw [oct.tx_size]; omega⟩; have HR := Lib.hid hrd; have HB2 := Lib.hid hb2; clear hrd hr2 hb2)
    | (go_at_call 103; (with_reducible refine (HRD.out _ _ (HT1.out.next HB2.out) (by have := HX.out.lt; omega) HR.out).mono ?_); rintro e3 w3 ⟨rfl, ht3⟩))
  have ht3' : Below w1.heap.size w1 w3 := HB2.out.trans (ht3.below fun j hj => by rcases hj with e | e; · exact e ▸ Nat.le_refl _
                                                                                  · exact Nat.le_trans HB2.out.size e)
  have hX3 := HX.out.below ht3' HX.out.lt
  obtain ⟨w4, hw4⟩ : ∃ u, u = w3.alloc (.cells #[.int .i64 k, .string (oct.tx b)] 66) := ⟨_, rfl⟩
  obtain ⟨A, hA⟩ : ∃ A, A = w3.heap.size := ⟨_, rfl⟩
  have hX4 : Blk w4 w.heap.size 66 #[.int .i64 0, .string ⟨#[]⟩] := by rw [hw4]; exact hX3.alloc _
  have hA4 : Blk w4 A 66 #[.int .i64 k, .string (oct.tx b)] := by rw [hw4, hA]; exact Blk.new w3 _ _
  have hAR : A ≠ w.heap.size := by have := hX3.lt; omega
  have hb4 : Below w.heap.size w w4 := by
    have h3 := HB1.out.trans (ht3'.mono HB1.out.size)
    rw [hw4]
    exact h3.trans (((Below.refl _ w3).alloc (Nat.le_refl _) _).mono h3.size)
  rw [← hA]
  rw [← hw4]
  have c0 : w4.cell? ⟨w.heap.size, 0, none⟩ = some (.int .i64 0) := hX4.cell 0
  have c1 : w4.cell? ⟨w.heap.size, 1, none⟩ = some (.string ⟨#[]⟩) := hX4.cell 1
  have f0 := hX4.frozen 0
  have f1 := hX4.frozen 1
  have a0 : w4.cell? ⟨A, 0, none⟩ = some (.int .i64 k) := hA4.cell 0
  have a1 : w4.cell? ⟨A, 1, none⟩ = some (.string (oct.tx b)) := hA4.cell 1
  have HTELL : Hid (∀ (k' : Int) (s' : ByteArray), Blk ((w4.setCell ⟨w.heap.size, 0, none⟩ (.int .i64 k')).setCell ⟨w.heap.size, 1, none⟩ (.string s')) w.heap.size 66 #[.int .i64 k', .string s'] ∧ Below w.heap.size w ((w4.setCell ⟨w.heap.size, 0, none⟩ (.int .i64 k')).setCell ⟨w.heap.size, 1, none⟩ (.string s'))) := Lib.hid fun k' s' => ⟨(hX4.set_ 0 _).set_ 1 _, hb4.trans ((((Turn.refl (· = w.heap.size) w4).setCell rfl _).setCell rfl _).below fun j hj => by rw [hj]; exact Nat.le_refl _)⟩
  have HA4 := Lib.hid hA4
  have HB4 := Lib.hid hb4
  clear ht3 ht3' hX3 hw4 hA hX4 hA4 hb4
  by_cases he : e = 0
  case neg =>
    have hd : (e != 0) = true := by simpa using he
    have HE : Hid (nextR l (m : Int) = (zrc, 0, e)) := Lib.hid (HBAD.out e (by have := first_bad (l := t) (by rw [HFE.out]; exact he); rw [HFE.out] at this; rw [HFE.out]; exact this) he)
    clear he hfl
    go_wp2_with fail
    refine bodyPost_ret (results_rc rfl _ _ w.heap.size 0 ⟨#[]⟩ rfl (HTELL.out 0 ⟨#[]⟩).1) rfl ⟨?_, (HTELL.out 0 ⟨#[]⟩).2⟩
    rw [HE.out]
    rfl
  subst he
  obtain ⟨hn, hbl⟩ := hfl rfl
  have HE := Lib.hid (HOK.out n _ HFE.out)
  have hbs := oct.tx_size b
  obtain ⟨tb, htb⟩ : ∃ x, x = oct.tx b := ⟨_, rfl⟩
  rw [← htb] at hbs a1 HA4 ⊢
  have HTB := Lib.hid htb
  have HZ := Lib.hid fun u => size_any (tb.size : Int) (by omega) u
  rw [show sizeR (tb.size : Int) = (tb.size : Int) + 9 by unfold sizeR; rw [if_neg (by omega)]] at HZ
  have q0 : (0 : Int) ≤ (tb.size : Int) := Int.natCast_nonneg _
  have q1 : (tb.size : Int) ≤ 1048576 := by omega
  have hwr : IntKind.i64.wrap ((m : Int) + ((tb.size : Int) + 9)) = (m : Int) + ((tb.size : Int) + 9) := by rw [IntKind.wrap_i64]; omega
  have HN := Lib.hid (show (m : Int) + n = (m : Int) + ((tb.size : Int) + 9) by omega)
  clear hfl hn hbl hbs htb htl
  go_upto_region 6 with fail
  go_region_with (first | (go_at_call 95; (with_reducible refine (HZ.out _).mono ?_); rintro e8 w8 ⟨rfl, rfl⟩))
  all_goals (try simp only [Act.put, List.getElem_toArray, List.getElem_cons_succ, List.getElem_cons_zero, List.setIfInBounds_toArray, List.set_cons_succ, List.set_cons_zero])
  all_goals go_wp2_with fail
  all_goals
    refine bodyPost_ret (results_rc rfl _ _ w.heap.size k tb rfl (HTELL.out k tb).1) rfl ⟨?_, ?_⟩
    · rw [HE.out, HN.out, HTB.out]
      rfl
    · exact below_drewN (HTELL.out k tb).2 1
end Go.Proofs.YtkbbeioednhefaaGreatDoor.rcd

namespace Go.Proofs.YtkbbeioednhefaaGreatDoor.mem
open Go.RowKit

def noDefer (ops : Array Oper) : Bool := ops.all fun o => match o.op with | .defer _ => false | _ => true
theorem noDefer_spec {ops : Array Oper} (h : noDefer ops = true) {i : Nat} {o : Oper} (ho : ops[i]? = some o) (c : Call) : o.op ≠ .defer c := by
  intro e
  obtain ⟨hi, ho⟩ := Array.getElem?_eq_some_iff.1 ho
  have := (Array.all_eq_true.1 h) i hi
  rw [ho, e] at this
  cases this
section
variable {P : Program} {ops : Array Oper} {Q : Exit → Act → World → Prop} {md : Region.Mode} {n l : Nat}
theorem wpOpIn_round (hnd : noDefer ops = true) (hQ : ¬ LetsOut Q) {i : Nat} {K K' : Act → World → Prop} {a : Act} {w : World} (hK : ∀ a w, K a w → K' a w) (h : wpOp P ops Q i K a w) : wpOpIn (Fence.wide.inRound l) n P ops Q i K' a w := by
  unfold wpOp at h
  unfold wpOpIn
  cases ho : ops[i]? with
  | none =>
    simp only [ho] at h ⊢
    exact hK _ _ h
  | some o =>
    simp only [ho] at h ⊢
    by_cases hw : Region.wanted o (yielded ops a.tmps) = true
    · simp only [hw, if_true] at h ⊢
      rcases h with h | h
      · unfold Oper.wp at h
        refine ⟨fun _ _ => trivial, ?_⟩
        rw [Oper.semAt_eq _ _ _ (fun c => noDefer_spec hnd ho c)]
        generalize (execOp a.eval o).run P w = r at h
        cases r with
        | ok x w' =>
          cases x with
          | value v => exact hK _ _ h
          | skip => exact hK _ _ h
          | defer d => exact hK _ _ h
          | enter f args =>
            refine ⟨fun hd => by simp [Fence.wide] at hd, CallsIn.inRound l (callsIn_wide.2 (Calls.mono h fun e w'' he => ?_))⟩
            cases e with
            | returned u => exact hK _ _ he
            | panicked c => exact he
            | outgrown => exact he
          | row row args =>
            refine ⟨fun hd => by simp [Fence.wide] at hd, fun c cs _ => ?_⟩
            obtain ⟨v, w'', r, s⟩ := (show Rows P row args w' _ from h) c cs
            exact ⟨v, w'', hK _ _ r, stepsIn_wide.2 s⟩
          | _ => exact h.elim
        | halt x w' =>
          cases x with
          | panic v => exact h
          | _ => exact h.elim
      · exact absurd h.2 hQ
    · simp only [hw] at h ⊢
      exact ⟨fun _ _ => trivial, hK _ _ h⟩
theorem wpAnyIn_round (hnd : noDefer ops = true) (hQ : ¬ LetsOut Q) : ∀ (fuel : Nat) (listed : Array Bool) (a : Act) (w : World), wpAny P md ops Q fuel listed a w → wpAnyIn (Fence.wide.inRound l) n P md ops Q fuel listed a w
  | 0, _, _, _, h => h
  | fuel + 1, _, _, _, h => ⟨h.1, fun i hi => wpOpIn_round hnd hQ (fun a w => wpAnyIn_round hnd hQ fuel _ a w) (h.2 i hi)⟩
theorem wpIn_region_round {id : Nat} {a : Act} {w : World} (hm : P.follows .mixedOrders = true) (hnd : noDefer ops = true) (hQ : ¬ LetsOut Q)
    (h : wpAny P .any ops Q ops.size (Array.replicate ops.size false) a w.drew) : (Code.region id ops true).wpIn (Fence.wide.inRound l) n P Q a w :=
  wpIn_region_any hm (wpAnyIn_round hnd hQ _ _ _ _ h)
end
theorem wpListIn_append_run {F : Fence} {n : Nat} {P : Program} {w : World} {ops : Array Oper} {rest : List Oper} {o : Oper} {a : Act} {Q : Exit → Act → World → Prop}
    (hg : o.guard = none) (s x : Operand) (t : TypeId) (hop : o.op = Op.call { callee := Callee.builtin Builtin.append, args := #[s, x], argTypes := #[t, t] })
    (vs vx v' : Value) (w' : World) (hs : a.eval s = vs) (hx : a.eval x = vx) (hr : (Builtin.append_ #[t, t] o.type #[vs, vx]).run P w = .ok v' w') (hK : wpListIn F n P ops Q rest (a.put o.dst v') w') :
    wpListIn F n P ops Q (o :: rest) a w := by
  refine wpListIn_plain hg fun K hK' => ?_
  unfold Oper.wpIn
  refine ⟨?_, ?_⟩
  · simp [Oper.about, hop, resolve, Target.leads, Sem.run_pure]
  · rw [Oper.semAt_plain F _ _ (by rw [hop]; intro c hc'; cases hc')]
    simp [execOp, hop, resolve, invoke, builtin, hs, hx, hr, Result.andThen]
    exact hK' _ _ hK
theorem letsOut_ownG {α : Type} {B : Nat} {Kp : World → World → Prop} {I : List α → World → Prop} {Ix : Code → List α → World → Prop} {xs : List α} {W : World} : ¬ LetsOut (ownPostG B Kp I Ix xs W) := fun ⟨_, _, h⟩ => h
/-- what turns only blocks of cells and new ones keeps whatever is no cells -/
theorem keepsFrom_turn {F : Nat → Prop} {B : Nat} {W W' : World} (h : Turn F W W') (hF : ∀ (k : Nat) (o : Obj), W.heap[k]? = some o → o.isCells = false → ¬ F k) : KeepsFrom B W W' :=
  ⟨h.size, fun k o _ hk ho => (h.block k (hF k o hk ho)).trans hk⟩
theorem Blk.isCells {w : World} {g : Nat} {t : TypeId} {cs : Array Value} (h : Blk w g t cs) {o : Obj} (ho : w.heap[g]? = some o) : o.isCells = true := by
  rw [show w.heap[g]? = _ from h] at ho
  cases ho
  rfl
end Go.Proofs.YtkbbeioednhefaaGreatDoor.mem

namespace Go.Proofs.YtkbbeioednhefaaGreatDoor.rcd
open Go.RowKit Go.Shelf Go.Proofs.YtkbbeioednhefaaGreatDoor.mem Go.Proofs.YtkbbeioednhefaaGreatDoor.sha Go.Proofs.YtkbbeioednhefaaGreatDoor.opn
attribute [local go_sem] Oper.semAt_some

/-- what is yielded: a record, and an error -/
abbrev RE := {x : Rc × Int // x.1.body.length ≤ 1048576}
def encR (x : RE) : Array Value := #[recv x.1.1, .int .i64 x.1.2]
/-- all records, and the error of the first that is none -/
def items (l : List UInt8) : List (Rc × Int) := (allT l).1.map (fun r => (r, 0)) ++ if (allT l).2.2 = 0 then [] else [(zrc, (allT l).2.2)]
theorem items_nil : items [] = [] := rfl
theorem items_bad {t : List UInt8} (h : t ≠ []) (he : (firstR t).2.2 ≠ 0) : items t = [(zrc, (firstR t).2.2)] := by
  unfold items
  rw [allT_none h he]
  simp only
  rw [if_neg he]
  rfl
theorem items_good {t : List UInt8} (h : t ≠ []) (he : (firstR t).2.2 = 0) : items t = ((firstR t).1, 0) :: items (t.drop (firstR t).2.1.toNat) := by
  unfold items
  rw [allT_next h he]
  rfl
/-- what the iterator reads between two rounds -/
def KpR (BS : Nat) (W W' : World) : Prop := W.heap.size ≤ W'.heap.size ∧ W'.heap[BS]? = W.heap[BS]? ∧ W'.heap[0]? = W.heap[0]?
theorem KpR.trans {B : Nat} {X Y Z : World} (h : KpR B X Y) (k : KpR B Y Z) : KpR B X Z := ⟨Nat.le_trans h.1 k.1, k.2.1.trans h.2.1, k.2.2.trans h.2.2⟩
theorem KpR.cell {B : Nat} {W W' : World} {i : Nat} (h : KpR B W W') : W'.cell? ⟨B, i, none⟩ = W.cell? ⟨B, i, none⟩ := World.cell?_of_block (w := W) (a := ⟨B, i, none⟩) h.2.1
theorem KpR.tab {B : Nat} {W W' : World} (h : KpR B W W') (hT : crc.Tab W) : crc.Tab W' :=
  ⟨Nat.le_trans hT.1 h.1, fun j hj => by rw [World.cell?_of_block (w := W) (w' := W') (a := ⟨0, j, none⟩) h.2.2]; exact hT.2 j hj⟩
theorem KpR.below {B : Nat} {W W' : World} (hb : Below W.heap.size W W') (h : B < W.heap.size) : KpR B W W' := ⟨hb.size, hb.block B h, hb.block 0 (by omega)⟩
set_option maxHeartbeats 4000000 in
set_option maxRecDepth 100000 in
theorem recs1_in (n l BS : Nat) (s : ByteArray) (hs : s.size ≤ 1000000) (J Jx : List RE → World → Prop)
    (hY : ∀ pre x W, J pre W → pre.length < s.size → YieldAt Fence.wide n Tryz.prog l (encR x) W fun e W' =>
      (e = .returned (.bool true) ∧ J (pre ++ [x]) W' ∧ KpR BS W W') ∨ (e = .returned (.bool false) ∧ Jx (pre ++ [x]) W'))
    (hJb : ∀ s W W', J s W → Below W.heap.size W W' → J s W')
    (W : World) (hBS : W.cell? ⟨BS, 0, none⟩ = some (.string s)) (hBl : BS < W.heap.size) (hT : crc.Tab W) (h0 : J [] W) :
    CallsIn Fence.wide (n + 1) Tryz.prog 101 #[.func (.yield l) #[] #[], .pointer (some ⟨BS, 0, none⟩)] W fun e W' => (∃ v, e = .returned v) ∧
      ((∃ ys : List RE, ys.map (·.1) = items s.data.toList ∧ J ys W') ∨ (∃ pre : List RE, pre.map (·.1) <+: items s.data.toList ∧ Jx pre W')) := by
  have hl : s.data.toList.length = s.size := Array.length_toList
  obtain ⟨L, hle⟩ : ∃ l, l = s.data.toList := ⟨_, rfl⟩
  have HN := Lib.hid fun i u (hu : crc.Tab u) => lnext_any s i u hu hs
  rw [← hle] at hl HN ⊢
  have s0 : (0 : Int) ≤ (s.size : Int) := Int.natCast_nonneg _
  clear hle
  refine callsIn_of_wp Tryz.func101 rfl trivial ?_ rfl
  simp only [Tryz.ntmps101, List.size_toArray, List.length_cons, List.length_nil, Nat.reduceAdd, Nat.reduceSub, Array.replicate_succ, Array.replicate_zero, List.push_toArray, List.append_toArray, List.nil_append, List.cons_append]
  gi_wp2
  gi_loopw [3] (fun i wr => ∃ (k : Nat) (pre : List RE), i = .int .i64 (k : Int) ∧ k ≤ s.size ∧ pre.length ≤ k ∧ items L = pre.map (·.1) ++ items (L.drop k) ∧ J pre wr ∧ KpR BS W wr) (fun i _ => s.size - (intOf i).toNat)
  case atStart => exact ⟨0, [], rfl, Nat.zero_le _, Nat.le_refl _, rfl, h0, Nat.le_refl _, rfl, rfl⟩
  case round =>
    obtain ⟨k, pre, rfl, hk, hpl, hit, hJs, hKp⟩ := hrel
    have c1 := hKp.cell.trans hBS
    have hT2 := hKp.tab hT
    have k0 : (0 : Int) ≤ (k : Int) := Int.natCast_nonneg _
    have hBl2 : BS < wr.heap.size := Nat.lt_of_lt_of_le hBl hKp.1
    by_cases hlt : k < s.size
    · have hltz : (k : Int) < (s.size : Int) := by omega
      have hne : L.drop k ≠ [] := fun h => by have := congrArg List.length h; rw [List.length_drop, List.length_nil] at this; omega
      have HNN := HN.out (k : Int) wr hT2
      have hfb := first_bad (l := L.drop k)
      have hfs := first_size (t := L.drop k)
      have hfl := first_len (l := L.drop k)
      have hig := items_good hne
      have hib := items_bad hne
      have hno := next_ok (l := L) (i := (k : Int)) (n := (firstR (L.drop k)).2.1) (r := (firstR (L.drop k)).1) (by omega) (by omega)
      have hnb := next_bad (l := L) (i := (k : Int)) (e := (firstR (L.drop k)).2.2) (by omega) (by omega)
      rw [Int.toNat_natCast] at hno hnb
      obtain ⟨⟨rk, rb⟩, rn, re, hf⟩ : ∃ r n e, firstR (L.drop k) = (r, n, e) := ⟨_, _, _, rfl⟩
      rw [hf] at hfb hfs hfl hig hib hno hnb
      simp only at hfb hfs hfl hig hib hno hnb
      by_cases he : re = 0
      · subst he
        obtain ⟨hs9, hsl⟩ := hfs rfl
        obtain ⟨hn9, hrb⟩ := hfl rfl
        rw [List.length_drop] at hsl
        obtain ⟨m, rfl⟩ : ∃ m : Nat, rn = (m : Int) := ⟨rn.toNat, by omega⟩
        have hit2 := hig rfl
        rw [Int.toNat_natCast, List.drop_drop] at hit2
        rw [hno rfl] at HNN
        simp only [nextV, recv] at HNN
        have HNQ := Lib.hid HNN
        clear HNN
        have HIT := Lib.hid hit
        have HIT2 := Lib.hid hit2
        have m9 : 9 ≤ m := by omega
        have ms : k + m ≤ s.size := by omega
        clear hfb hfl hig hib hno hnb hf hne hit hit2 hs9 hsl hn9 hfs
        gi_upto_region 3 with (refine ⟨trivial, ?_⟩; gi_at_call 102; (refine (callsIn_wide.2 HNQ.out).mono ?_); rintro e w2 ⟨rfl, hb2⟩)
        have hb3 : Below wr.heap.size wr (w2.alloc (.cells #[.int .i64 rk, .string (oct.tx rb)] 66)) := hb2.trans (((Below.refl _ w2).alloc (Nat.le_refl _) _).mono hb2.size)
        obtain ⟨fn, tmps, assign, body, hy, hR⟩ := hY pre ⟨(⟨rk, rb⟩, 0), hrb⟩ _ (hJb _ _ _ hJs hb3) (by omega)
        dsimp only [encR, recv] at hy
        have hK3 := KpR.below (B := BS) hb3 hBl2
        have HK3 := Lib.hid (KpR.trans hKp hK3)
        have HR := Lib.hid hR
        clear hR hY hJs hKp hK3 HNQ hb3
        gi_wp2
        refine HR.out.mono ?_
        rintro e' W' (⟨rfl, hJ3, hk3⟩ | ⟨rfl, hJx3⟩)
        · have HJ3 := Lib.hid hJ3
          have HK4 := Lib.hid (KpR.trans HK3.out hk3)
          clear hJ3 hk3
          gi_wp2
          go_roundw
          case rel => exact ⟨k + m, _, by push_cast; rfl, ms, by rw [List.length_append, List.length_singleton]; omega, by rw [HIT.out, HIT2.out, List.map_append, List.append_assoc]; rfl, HJ3.out, HK4.out⟩
          case measure => (simp [intOf]; try omega)
        · gi_wp2
          refine bodyPost_ret (results_none rfl _ _ _) rfl ?_
          exact ⟨⟨_, rfl⟩, .inr ⟨_, by rw [HIT.out, HIT2.out, List.map_append]; exact ⟨items (L.drop (k + m)), by rw [List.append_assoc]; rfl⟩, hJx3⟩⟩
      · have hit2 := hib he
        have hz := hfb he
        injection hz with hz _
        rw [hnb (by rw [← hf]; rw [hf, hfb he]) he] at HNN
        simp only [nextV, recv, zrc] at HNN
        have HNQ := Lib.hid HNN
        have HIT := Lib.hid hit
        have HIT2 := Lib.hid hit2
        have hd : (re != 0) = true := bne_iff_ne.2 he
        clear hfb hfl hig hib hno hnb hf hne hit hit2 hfs hz HNN he
        gi_upto_region 3 with (refine ⟨trivial, ?_⟩; gi_at_call 102; (refine (callsIn_wide.2 HNQ.out).mono ?_); rintro e w2 ⟨rfl, hb2⟩)
        have hb3 : Below wr.heap.size wr (w2.alloc (.cells #[.int .i64 0, .string (oct.tx [])] 66)) := hb2.trans (((Below.refl _ w2).alloc (Nat.le_refl _) _).mono hb2.size)
        obtain ⟨fn, tmps, assign, body, hy, hR⟩ := hY pre ⟨(zrc, re), Nat.zero_le _⟩ _ (hJb _ _ _ hJs hb3) (by omega)
        dsimp only [encR, recv, zrc] at hy
        have hK3 := KpR.below (B := BS) hb3 hBl2
        have HK3 := Lib.hid (KpR.trans hKp hK3)
        have HR := Lib.hid hR
        clear hR hY hJs hKp hK3 HNQ hb3
        gi_wp2
        refine HR.out.mono ?_
        rintro e' W' (⟨rfl, hJ3, hk3⟩ | ⟨rfl, hJx3⟩)
        · gi_wp2
          refine bodyPost_ret (results_none rfl _ _ _) rfl ?_
          exact ⟨⟨_, rfl⟩, .inl ⟨_, by rw [HIT.out, HIT2.out, List.map_append]; rfl, hJ3⟩⟩
        · gi_wp2
          refine bodyPost_ret (results_none rfl _ _ _) rfl ?_
          exact ⟨⟨_, rfl⟩, .inr ⟨_, by rw [HIT.out, HIT2.out, List.map_append]; exact ⟨[], by rw [List.append_nil]; rfl⟩, hJx3⟩⟩
    · obtain rfl : k = s.size := by omega
      have hnil : L.drop s.size = [] := List.drop_of_length_le (by omega)
      have HIT := Lib.hid hit
      have HNIL := Lib.hid hnil
      clear hit hnil
      gi_wp2
      go_end0
      exact ⟨⟨_, rfl⟩, .inl ⟨pre, by rw [HIT.out, HNIL.out, items_nil, List.append_nil], hJs⟩⟩
end Go.Proofs.YtkbbeioednhefaaGreatDoor.rcd
