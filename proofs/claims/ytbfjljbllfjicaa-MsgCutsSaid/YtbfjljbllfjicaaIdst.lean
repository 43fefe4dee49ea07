/-
  petrelref06.Same.
  A whole id stored into a list of ids.
-/
import Derived.Test.YtbfjljbllfjicaaRdsa
import Derived.Deep.RegionHeld3
import Derived.Deep.CutRange
import Derived.Deep.CutBlock
import Derived.Test.YtbfjljbllfjicaaIda
namespace Go.Proofs.Ytbfjljbllfjicaa.ids
open Go.RowKit Go.Proofs.Ytbfjljbllfjicaa.mem Go.Proofs.Ytbfjljbllfjicaa.sha

theorem list_eq_of (L M : List Id) (hl : L.length = M.length) (h : ∀ j, j < L.length → L.getD j [] = M.getD j []) : L = M := by
  apply List.ext_getElem hl
  intro i h1 h2
  have := h i h1
  rw [List.getD_eq_getElem?_getD, List.getD_eq_getElem?_getD, List.getElem?_eq_getElem h1, List.getElem?_eq_getElem h2] at this
  exact this

set_option maxHeartbeats 1000000 in
set_option maxRecDepth 100000 in
theorem rsame_any (L M : List Id) (ad ad2 : Option Addr) (n cap n2 cap2 : Nat) (w : World) (hL : RdV w (.slice ad n cap) L) (hM : RdV w (.slice ad2 n2 cap2) M) :
    Calls Try.prog 31 #[.slice ad n cap, .slice ad2 n2 cap2] w fun e w' => e = .returned (.bool (L == M)) ∧ ∃ m, w' = w.drewN m := by
  obtain ⟨hL1, hmax, _, _, hvv, _⟩ := id hL
  have hn : n = L.length := by cases hvv; rfl
  obtain ⟨hM1, hmax2, _, _, hvv2, _⟩ := id hM
  have hn2 : n2 = M.length := by cases hvv2; rfl
  subst hn; subst hn2
  clear hvv hvv2
  have HL := Lib.hid hL
  have HM := Lib.hid hM
  clear hL hM
  by_cases hne : L.length = M.length
  case neg =>
    have hb : (L == M) = false := beq_eq_false_iff_ne.2 (fun e => hne (by rw [e]))
    have hi : ((L.length : Int) != (M.length : Int)) = true := bne_iff_ne.2 (by omega)
    rw [hb]
    clear hne hb
    go_enter Try.func31, Try.ntmps31
    go_wp2_with fail
    go_ret
    exact ⟨rfl, 0, rfl⟩
  have HE := Lib.hid hne
  have hi : (M.length : Int) = (L.length : Int) := by omega
  clear hne
  go_enter Try.func31, Try.ntmps31
  go_wp2_with fail
  go_loopw [5] (fun i wr => ∃ k m : Nat, k ≤ L.length ∧ i = .int .i64 k ∧ (∀ j, j < k → L.getD j [] = M.getD j []) ∧ wr = w.drewN m) (fun i _ => L.length - (intOf i).toNat)
  case atStart => exact ⟨0, 0, Nat.zero_le _, rfl, fun j hj => by omega, rfl⟩
  case round =>
    obtain ⟨k, m, hk, rfl, hno, hwr⟩ := hrel
    have HN := Lib.hid hno
    have HW := Lib.hid hwr
    have k0 : (0 : Int) ≤ (k : Int) := Int.natCast_nonneg _
    clear hno
    by_cases hlt : k < L.length
    · have kI : (k : Int) < (L.length : Int) := by omega
      obtain ⟨b, off, rfl, -, hb, hld⟩ := (show RdV wr _ L by rw [hwr]; exact HL.out.drewN m).load hlt
      obtain ⟨b2, off2, rfl, -, hb2, hld2⟩ := (show RdV wr _ M by rw [hwr]; exact HM.out.drewN m).load (show k < M.length by have := HE.out; omega)
      have hy := hL1.get hlt
      have hz := hM1.get (show k < M.length by have := HE.out; omega)
      have heq := fun u : World => neq_ids u (L.getD k []) (M.getD k []) hy hz
      unfold idv at heq
      obtain ⟨y, hyy⟩ : ∃ y, y = L.getD k [] := ⟨_, rfl⟩
      obtain ⟨z, hzz⟩ : ∃ y, y = M.getD k [] := ⟨_, rfl⟩
      rw [← hyy] at hld heq hy
      rw [← hzz] at hld2 heq hz
      have HY := Lib.hid hyy.symm
      have HZ := Lib.hid hzz.symm
      clear hwr hyy hzz
      by_cases he : y = z
      · have heq2 : (y != z) = false := by rw [he, bne, beq_self_eq_true]; rfl
        have HQ := Lib.hid he
        rw [heq2] at heq
        clear he heq2
        go_wp2_with fail
        refine wp_region_quiet_lit (by kernel_rfl) (by kernel_rfl) ?_
        quiet_step (fail)
        quiet_step (fail)
        quiet_step (fail)
        refine quiet_load rfl rfl rfl hld ?_
        (try simp only [Act.put, List.setIfInBounds_toArray, List.set_cons_zero, List.set_cons_succ])
        quiet_step (fail)
        quiet_step (fail)
        quiet_step (fail)
        refine quiet_load rfl rfl rfl hld2 ?_
        (try simp only [Act.put, List.setIfInBounds_toArray, List.set_cons_zero, List.set_cons_succ])
        quiet_step (fail)
        refine wpQuiet_nil ?_
        rintro _ ⟨nq, rfl⟩
        go_wp2_with fail
        go_roundw
        case rel =>
          refine ⟨k + 1, _, hlt, by push_cast; rfl, fun j hj => ?_, by rw [HW.out, World.drewN_drewN]⟩
          rcases Nat.lt_or_ge j k with h | h
          · exact HN.out j h
          · obtain rfl : j = k := by omega
            rw [HY.out, HZ.out]; exact HQ.out
        case measure => simp [intOf]; omega
      · have heq2 : (y != z) = true := bne_iff_ne.2 he
        have hr : (L == M) = false := beq_eq_false_iff_ne.2 (fun e => he (by rw [← HY.out, ← HZ.out, e]))
        have HRR := Lib.hid hr
        rw [heq2] at heq
        clear he heq2 hr
        go_wp2_with fail
        refine wp_region_quiet_lit (by kernel_rfl) (by kernel_rfl) ?_
        quiet_step (fail)
        quiet_step (fail)
        quiet_step (fail)
        refine quiet_load rfl rfl rfl hld ?_
        (try simp only [Act.put, List.setIfInBounds_toArray, List.set_cons_zero, List.set_cons_succ])
        quiet_step (fail)
        quiet_step (fail)
        quiet_step (fail)
        refine quiet_load rfl rfl rfl hld2 ?_
        (try simp only [Act.put, List.setIfInBounds_toArray, List.set_cons_zero, List.set_cons_succ])
        quiet_step (fail)
        refine wpQuiet_nil ?_
        rintro _ ⟨nq, rfl⟩
        go_wp2_with fail
        go_ret
        exact ⟨by rw [HRR.out]; rfl, _, by rw [HW.out, World.drewN_drewN]⟩
    · obtain rfl : k = L.length := by omega
      have hr : (L == M) = true := by rw [list_eq_of L M HE.out HN.out]; exact beq_self_eq_true M
      have HRR := Lib.hid hr
      clear hr hwr
      go_wp2_with fail
      go_ret
      exact ⟨by rw [HRR.out]; rfl, _, HW.out⟩

theorem rsame_eq {w : World} {v u : Value} {L : List Id} (h : RdV w v L) (k : RdV w u L) : Calls Try.prog 31 #[v, u] w fun e w' => e = .returned (.bool true) ∧ Below w.heap.size w w' := by
  obtain ⟨ad, cap, rfl⟩ := h.form
  obtain ⟨ad2, cap2, rfl⟩ := k.form
  refine (rsame_any L L ad ad2 L.length cap L.length cap2 w h k).mono ?_
  rintro e w' ⟨rfl, m, rfl⟩
  rw [beq_self_eq_true]
  exact ⟨rfl, below_drewN (Below.refl _ _) m⟩
theorem RdV.to {w : World} {v : Value} {L M : List Id} (h : RdV w v L) (e : L = M) : RdV w v M := e ▸ h
end Go.Proofs.Ytbfjljbllfjicaa.ids

namespace Go.Proofs.Ytbfjljbllfjicaa.ids
open Go.RowKit Go.Proofs.Ytbfjljbllfjicaa.mem Go.Proofs.Ytbfjljbllfjicaa.sha

def splice (cur : Array Value) (off : Nat) (ys : List Value) : Array Value := (cur.toList.take off ++ ys ++ cur.toList.drop (off + ys.length)).toArray
theorem splice_get (cur : Array Value) (off : Nat) (ys : List Value) (h : off + ys.length ≤ cur.size) (k : Nat) : (splice cur off ys)[k]? = if k < off then cur[k]? else if k < off + ys.length then ys[k - off]? else cur[k]? := by
  have hl : cur.toList.length = cur.size := Array.length_toList
  unfold splice
  rw [List.getElem?_toArray, List.append_assoc]
  have h1 : (cur.toList.take off).length = off := by rw [List.length_take]; omega
  by_cases a : k < off
  · rw [if_pos a, List.getElem?_append_left (by omega), List.getElem?_take, if_pos a, Array.getElem?_toList]
  · rw [if_neg a, List.getElem?_append_right (by omega), h1]
    by_cases b : k < off + ys.length
    · rw [if_pos b, List.getElem?_append_left (by omega)]
    · rw [if_neg b, List.getElem?_append_right (by omega), List.getElem?_drop, show off + ys.length + (k - off - ys.length) = k by omega, Array.getElem?_toList]
theorem splice_size (cur : Array Value) (off : Nat) (ys : List Value) (h : off + ys.length ≤ cur.size) : (splice cur off ys).size = cur.size := by
  have hl : cur.toList.length = cur.size := Array.length_toList
  unfold splice
  rw [List.size_toArray, List.length_append, List.length_append, List.length_take, List.length_drop]
  omega
theorem one_bvl (y : List UInt8) : ∀ v ∈ bv y, v.oneCell' = true := by
  intro v hv
  simp only [bv, List.mem_map] at hv
  obtain ⟨x, _, rfl⟩ := hv
  rfl
theorem run_store_mid {w : World} {g off : Nat} {cur : Array Value} {t : TypeId} (hg : w.heap[g]? = some (.cells cur t (0, 0))) (y : List UInt8) (hy : y.length = 32) (hfit : off + 32 ≤ cur.size) :
    (Instr.storeAt 58 (.pointer (some ⟨g, off, none⟩)) (.agg (bv y).toArray)).run Try.prog w = .ok () (w.setRow g (splice cur off (bv y))) := by
  have hlen : (bv y).length = 32 := by rw [bv_length, hy]
  have hst := run_storeCells_at Try.prog g off t (bv y) 0 cur w hg (by omega) (one_bvl y)
  obtain ⟨i, hi, _, hs, _⟩ := info_parts info_id
  have e : (bv y).toArray.size = 32 := by rw [List.size_toArray, hlen]
  simp only [Instr.storeAt, Instr.sureAddr, storeVar, sizeOf, typeInfo, Value.cells, Sem.run_bind, Sem.run_pure, Result.andThen_ok]
  simp [hi, hs, e, hst, splice]
theorem fl_set_get {L : List (List UInt8)} (hL : okIds L) {i : Nat} (hi : i < L.length) {y : List UInt8} (hy : y.length = 32) (k : Nat) : (fl (L.set i y))[k]? = if k < i * 32 then (fl L)[k]? else if k < i * 32 + 32 then (bv y)[k - i * 32]? else (fl L)[k]? := by
  have e : L.set i y = L.take i ++ y :: L.drop (i + 1) := List.set_eq_take_append_cons_drop.trans (by rw [if_pos hi])
  have hf : fl (L.set i y) = (fl L).take (i * 32) ++ (bv y ++ (fl L).drop ((i + 1) * 32)) := by
    rw [e, fl_append, fl, fl_take i hL, fl_drop (i + 1) hL]
  have hlen := fl_len hL
  have h1 : ((fl L).take (i * 32)).length = i * 32 := by rw [List.length_take, hlen]; omega
  have h2 : (bv y).length = 32 := by rw [bv_length, hy]
  rw [hf]
  by_cases a : k < i * 32
  · rw [if_pos a, List.getElem?_append_left (by omega), List.getElem?_take, if_pos a]
  · rw [if_neg a, List.getElem?_append_right (by omega), h1]
    by_cases b : k < i * 32 + 32
    · rw [if_pos b, List.getElem?_append_left (by omega)]
    · rw [if_neg b, List.getElem?_append_right (by omega), List.getElem?_drop, h2, show (i + 1) * 32 + (k - i * 32 - 32) = k by omega]
theorem okIds.set {L : List (List UInt8)} (h : okIds L) (i : Nat) {y : List UInt8} (hy : y.length = 32) : okIds (L.set i y) := fun z hz => by
  rcases List.mem_or_eq_of_mem_set hz with h1 | h1
  · exact h z h1
  · rw [h1]; exact hy

theorem OwnI.store {w : World} {F : Nat → Prop} {v : Value} {L : List (List UInt8)} (h : OwnI w F v L) {i : Nat} (hi : i < L.length) {y : List UInt8} (hy : y.length = 32) :
    ∃ b c w', v = .slice (some ⟨b, 0, none⟩) L.length c ∧ F b ∧ (Instr.storeAt 58 (.pointer (some ⟨b, i * 32, none⟩)) (.agg (bv y).toArray)).run Try.prog w = .ok () w' ∧ OwnI w' F v (L.set i y) ∧ Turn (· = b) w w' := by
  obtain ⟨hok, ⟨hxl, hrow⟩, hF⟩ := h
  rcases hrow with ⟨rfl, hn⟩ | ⟨g, cap, cur, rfl, hb, hg, hle, hcm, hcs, htake⟩
  · omega
  have hlen := fl_len hok
  have hbl : (bv y).length = 32 := by rw [bv_length, hy]
  have hfit : i * 32 + 32 ≤ cur.size := by rw [hcs]; omega
  refine ⟨g, cap, _, rfl, hF g rfl, run_store_mid hg y hy hfit, ⟨hok.set i hy, ⟨by rw [fl_len (hok.set i hy)], .inr ⟨g, cap, _, by rw [List.length_set], Nat.zero_le _, setRow_heap w g cur _ _ _ hg, by rw [List.length_set]; exact hle, hcm, by rw [splice_size _ _ _ (by omega)]; exact hcs, ?_⟩⟩, fun k hk => hF k hk⟩, turn_row w g _⟩
  apply List.ext_getElem?
  intro k
  rw [List.getElem?_take, List.length_set, fl_set_get hok hi hy]
  have hcell : ∀ k, k < L.length * 32 → cur[k]? = (fl L)[k]? := fun k hk => by
    rw [← htake, List.getElem?_take, if_pos hk, Array.getElem?_toList]
  by_cases hk : k < L.length * 32
  · rw [if_pos hk, Array.getElem?_toList, splice_get _ _ _ (by omega), hbl]
    by_cases a : k < i * 32
    · rw [if_pos a, if_pos a]; exact hcell k hk
    · rw [if_neg a, if_neg a]
      by_cases d : k < i * 32 + 32
      · rw [if_pos d, if_pos d]
      · rw [if_neg d, if_neg d]; exact hcell k hk
  · rw [if_neg hk, if_neg (by omega), if_neg (by omega), List.getElem?_eq_none (by omega)]
/-- in a plain region -/
theorem step_store_at {ops : Array Oper} {rest : List Oper} {o : Oper} {a : Act} {w w' : World} {Q : Exit → Act → World → Prop} {x y : Operand} {p v : Value} (hg : o.guard = none) (ho : o.op = .store 58 x y) (hx : a.eval x = p) (hy : a.eval y = v)
    (hr : (Instr.storeAt 58 p v).run Try.prog w = .ok () w') (h : wpList Try.prog ops Q rest (a.put o.dst undef) w') : wpList Try.prog ops Q (o :: rest) a w := by
  refine wpList_plain hg fun K hK => ?_
  unfold Oper.wp execOp
  simp only [ho, hx, hy, Sem.run_bind, hr, Result.andThen_ok, Sem.run_pure]
  exact hK _ _ h
end Go.Proofs.Ytbfjljbllfjicaa.ids
