/-
 A whole id stored into a list of ids.
-/
import Derived.Test.YtpeneeddfgmjpaaGreatDoorIda
namespace Go.Proofs.YtpeneeddfgmjpaaGreatDoor.ids
open Go.RowKit Go.Proofs.YtpeneeddfgmjpaaGreatDoor.mem Go.Proofs.YtpeneeddfgmjpaaGreatDoor.sha

def splice (cur : Array Value) (off : Nat) (ys : List Value) : Array Value := (cur.toList.take off ++ ys ++ cur.toList.drop (off + ys.length)).toArray
theorem splice_get (cur : Array Value) (off : Nat) (ys : List Value) (h : off + ys.length ≤ cur.size) (k : Nat) : (splice cur off ys)[k]? = if k < off then cur[k]? else if k < off + ys.length then ys[k - off]? else cur[k]? := by
 have hl : cur.toList.length = cur.size := Array.length_toList
 unfold splice
 rw [List.getElem?_toArray, List.append_assoc]
 have h1 : (cur.toList.take off).length = off := by rw [List.length_take]; omega
 by_cases a : k < off
 ·
  rw [if_pos a, List.getElem?_append_left (by omega), List.getElem?_take, if_pos a, Array.getElem?_toList]
 ·
  rw [if_neg a, List.getElem?_append_right (by omega), h1]
  by_cases b : k < off + ys.length
  ·
   rw [if_pos b, List.getElem?_append_left (by omega)]
  ·
   rw [if_neg b, List.getElem?_append_right (by omega), List.getElem?_drop, show off + ys.length + (k - off - ys.length) = k by omega, Array.getElem?_toList]
theorem splice_size (cur : Array Value) (off : Nat) (ys : List Value) (h : off + ys.length ≤ cur.size) : (splice cur off ys).size = cur.size := by
 have hl : cur.toList.length = cur.size := Array.length_toList
 unfold splice
 rw [List.size_toArray, List.length_append, List.length_append, List.length_take, List.length_drop]
 omega
theorem one_bvl (y : List UInt8) : ∀ v ∈ bv y, v.oneCell' = true := by
 intro v hv
 simp only [bv, List.mem_map] at hv
 obtain ⟨x, _, rfl⟩ := hv
 rfl
theorem run_store_mid {w : World} {g off : Nat} {cur : Array Value} {t : TypeId} (hg : w.heap[g]? = some (.cells cur t (0, 0))) (y : List UInt8) (hy : y.length = 32) (hfit : off + 32 ≤ cur.size) :
  (Instr.storeAt 24 (.pointer (some ⟨g, off, none⟩)) (.agg (bv y).toArray)).run Tryz.prog w = .ok () (w.setRow g (splice cur off (bv y))) := by
 have hlen : (bv y).length = 32 := by rw [bv_length, hy]
 have hst := run_storeCells_at Tryz.prog g off t (bv y) 0 cur w hg (by omega) (one_bvl y)
 obtain ⟨i, hi, _, hs, _⟩ := info_parts info_id
 have e : (bv y).toArray.size = 32 := by rw [List.size_toArray, hlen]
 simp only [Instr.storeAt, Instr.sureAddr, storeVar, sizeOf, typeInfo, Value.cells, Sem.run_bind, Sem.run_pure, Result.andThen_ok]
 simp [hi, hs, e, hst, splice]
theorem fl_set_get {L : List (List UInt8)} (hL : okIds L) {i : Nat} (hi : i < L.length) {y : List UInt8} (hy : y.length = 32) (k : Nat) : (fl (L.set i y))[k]? = if k < i * 32 then (fl L)[k]? else if k < i * 32 + 32 then (bv y)[k - i * 32]? else (fl L)[k]? := by
 have e : L.set i y = L.take i ++ y :: L.drop (i + 1) := List.set_eq_take_append_cons_drop.trans (by rw [if_pos hi])
 have hf : fl (L.set i y) = (fl L).take (i * 32) ++ (bv y ++ (fl L).drop ((i + 1) * 32)) := by
  rw [e, fl_append, fl, fl_take i hL, fl_drop (i + 1) hL]
 have hlen := fl_len hL
 have h1 : ((fl L).take (i * 32)).length = i * 32 := by rw [List.length_take, hlen]; omega
 have h2 : (bv y).length = 32 := by rw [bv_length, hy]
 rw [hf]
 by_cases a : k < i * 32
 ·
  rw [if_pos a, List.getElem?_append_left (by omega), List.getElem?_take, if_pos a]
 ·
  rw [if_neg a, List.getElem?_append_right (by omega), h1]
  by_cases b : k < i * 32 + 32
  ·
   rw [if_pos b, List.getElem?_append_left (by omega)]
  ·
   rw [if_neg b, List.getElem?_append_right (by omega), List.getElem?_drop, h2, show (i + 1) * 32 + (k - i * 32 - 32) = k by omega]
theorem okIds.set {L : List (List UInt8)} (h : okIds L) (i : Nat) {y : List UInt8} (hy : y.length = 32) : okIds (L.set i y) := fun z hz => by
 rcases List.mem_or_eq_of_mem_set hz with h1 | h1
 ·
  exact h z h1
 ·
  rw [h1]; exact hy

theorem OwnI.store {w : World} {F : Nat → Prop} {v : Value} {L : List (List UInt8)} (h : OwnI w F v L) {i : Nat} (hi : i < L.length) {y : List UInt8} (hy : y.length = 32) :
  ∃ b c w', v = .slice (some ⟨b, 0, none⟩) L.length c ∧ F b ∧ (Instr.storeAt 24 (.pointer (some ⟨b, i * 32, none⟩)) (.agg (bv y).toArray)).run Tryz.prog w = .ok () w' ∧ OwnI w' F v (L.set i y) ∧ Turn (· = b) w w' := by
 obtain ⟨hok, ⟨hxl, hrow⟩, hF⟩ := h
 rcases hrow with ⟨rfl, hn⟩ | ⟨g, cap, cur, rfl, hb, hg, hle, hcm, hcs, htake⟩
 ·
  omega
 have hlen := fl_len hok
 have hbl : (bv y).length = 32 := by rw [bv_length, hy]
 have hfit : i * 32 + 32 ≤ cur.size := by rw [hcs]; omega
 refine ⟨g, cap, _, rfl, hF g rfl, run_store_mid hg y hy hfit, ⟨hok.set i hy, ⟨by rw [fl_len (hok.set i hy)], .inr ⟨g, cap, _, by rw [List.length_set], Nat.zero_le _, setRow_heap w g cur _ _ _ hg, by rw [List.length_set]; exact hle, hcm, by rw [splice_size _ _ _ (by omega)]; exact hcs, ?_⟩⟩, fun k hk => hF k hk⟩, turn_row w g _⟩
 apply List.ext_getElem?
 intro k
 rw [List.getElem?_take, List.length_set, fl_set_get hok hi hy]
 have hcell : ∀ k, k < L.length * 32 → cur[k]? = (fl L)[k]? := fun k hk => by
  rw [← htake, List.getElem?_take, if_pos hk, Array.getElem?_toList]
 by_cases hk : k < L.length * 32
 ·
  rw [if_pos hk, Array.getElem?_toList, splice_get _ _ _ (by omega), hbl]
  by_cases a : k < i * 32
  ·
   rw [if_pos a, if_pos a]; exact hcell k hk
  ·
   rw [if_neg a, if_neg a]
   by_cases d : k < i * 32 + 32
   ·
    rw [if_pos d, if_pos d]
   ·
    rw [if_neg d, if_neg d]; exact hcell k hk
 ·
  rw [if_neg hk, if_neg (by omega), if_neg (by omega), List.getElem?_eq_none (by omega)]
/-- in a plain region -/
theorem step_store_at {ops : Array Oper} {rest : List Oper} {o : Oper} {a : Act} {w w' : World} {Q : Exit → Act → World → Prop} {x y : Operand} {p v : Value} (hg : o.guard = none) (ho : o.op = .store 24 x y) (hx : a.eval x = p) (hy : a.eval y = v)
  (hr : (Instr.storeAt 24 p v).run Tryz.prog w = .ok () w') (h : wpList Tryz.prog ops Q rest (a.put o.dst undef) w') : wpList Tryz.prog ops Q (o :: rest) a w := by
 refine wpList_plain hg fun K hK => ?_
 unfold Oper.wp execOp
 simp only [ho, hx, hy, Sem.run_bind, hr, Result.andThen_ok, Sem.run_pure]
 exact hK _ _ h
end Go.Proofs.YtpeneeddfgmjpaaGreatDoor.ids
