/-
  petrelref06.Set, Is.
  A whole id stored into a list of ids.
  Lists of ids in regions that draw their order: '[]Id{x}', append.
  Cells stored at once into a row.
-/
import Derived.Test.YtmaolmogccknbaaDoorIdsw
import Derived.Test.YtmaolmogccknbaaDoorIda
import Derived.Test.YtmaolmogccknbaaDoorIdcm
import Derived.Test.YtmaolmogccknbaaDoorStepl
namespace Go.Proofs.YtmaolmogccknbaaDoor.ids
open Go.RowKit Go.Proofs.YtmaolmogccknbaaDoor.mem Go.Proofs.YtmaolmogccknbaaDoor.sha

theorem Got.nil (w : World) (F : Nat → Prop) : Got w F (.slice none 0 0) [] :=
  ⟨⟨okIds.nil, Nat.zero_le _, none, 0, rfl, Nat.le_refl _, Nat.zero_le _, fun _ => rfl, (fun a h => by cases h), .inl rfl⟩, fun b off n c e => by cases e⟩
theorem Got.mono {w : World} {F G : Nat → Prop} {v : Value} {L : List Id} (h : Got w F v L) (hFG : ∀ k, F k → G k) : Got w G v L := ⟨h.1, fun b off n c e => hFG b (h.2 b off n c e)⟩
theorem Got.next {w w' : World} {F : Nat → Prop} {v : Value} {L : List Id} (h : Got w F v L) (hb : Below w.heap.size w w') : Got w' F v L := ⟨h.1.next hb, h.2⟩
theorem take_fold (L : List Id) (k : Nat) (h : k < L.length) (A : List Id) : (L.take (k + 1)).foldl withL A = withL ((L.take k).foldl withL A) (L.getD k []) := by
  rw [List.take_succ_eq_append_getElem h, List.foldl_append, List.getD_eq_getElem?_getD, List.getElem?_eq_getElem h]
  rfl

set_option maxHeartbeats 1000000 in
set_option maxRecDepth 100000 in
theorem rset_any (L : List Id) (ad : Option Addr) (n cap : Nat) (w : World) (hL : RdV w (.slice ad n cap) L) (hmax : L.length < 500000) :
    Calls Tryd.prog 81 #[.slice ad n cap] w fun e w' => ∃ v, e = .returned v ∧ Got w' (w.heap.size ≤ ·) v (setL L) ∧ Below w.heap.size w w' := by
  have hn := hL.len
  subst hn
  have HR := Lib.hid hL
  have HOK := Lib.hid hL.ok
  clear hL
  go_enter Tryd.func81, Tryd.ntmps81
  go_wp2_with fail
  go_loopw [3, 4] (fun vo i wr => ∃ k : Nat, k ≤ L.length ∧ i = .int .i64 k ∧ Got wr (w.heap.size ≤ ·) vo ((L.take k).foldl withL []) ∧ Below w.heap.size w wr) (fun _ i _ => L.length - (intOf i).toNat)
  case atStart => exact ⟨0, Nat.zero_le _, rfl, Got.nil _ _, Below.refl _ _⟩
  case round =>
    obtain ⟨k, hk, rfl, hG, hB⟩ := hrel
    have k0 : (0 : Int) ≤ (k : Int) := Int.natCast_nonneg _
    have HG := Lib.hid hG
    have HB := Lib.hid hB
    by_cases hlt : k < L.length
    · have kI : (k : Int) < (L.length : Int) := by omega
      obtain ⟨b, off, rfl, -, -, -⟩ := HR.out.load hlt
      have hld := (HR.out.next hB).load_y hlt rfl
      have hx := HOK.out.get hlt
      have HT := Lib.hid (take_fold L k hlt [])
      obtain ⟨y, hy⟩ : ∃ y, y = L.getD k [] := ⟨_, rfl⟩
      rw [← hy] at hld hx HT
      obtain ⟨ad2, cap2, rfl⟩ := hG.1.form
      have hlen := foldl_with_len (L.take k) []
      obtain ⟨A, hA⟩ : ∃ A, A = (L.take k).foldl withL [] := ⟨_, rfl⟩
      rw [← hA] at HG HT hlen ⊢
      have hAm : A.length < 1000000 := by rw [List.length_nil, List.length_take] at hlen; omega
      have HC := Lib.hid (rwith_any A y ad2 A.length cap2 _ HG.out.1 hx hAm)
      clear hy hA hlen hG hB
      go_wp2_with (first
        | ((with_reducible refine step_load (t := 23) (x := .tmp 14) (p := ?lps1) (v := ?lvs1) ?lgs1 ?los1 ?lxs1 ?lrs1 ?lhs1); (case lgs1 => rfl); (case los1 => rfl); (case lxs1 => rfl); (case lrs1 => exact hld))
        | (go_at_call 107; with_reducible refine HC.out.mono ?_; rintro e w2 ⟨v2, rfl, hG2, hB2⟩))
      go_roundw
      case rel =>
        refine ⟨k + 1, hlt, by push_cast; rfl, ?_, HB.out.trans (hB2.mono HB.out.size)⟩
        rw [HT.out]
        exact hG2.mono fun j hj => by
          rcases hj with hj | ⟨off, e⟩
          · exact Nat.le_trans HB.out.size hj
          · exact HG.out.2 j off A.length cap2 (by rw [e])
      case measure => simp [intOf]; omega
    · obtain rfl : k = L.length := by omega
      clear hG hB
      go_wp2_with fail
      go_ret
      have := HG.out
      rw [List.take_length] at this
      exact ⟨_, rfl, this, HB.out⟩

set_option maxHeartbeats 1000000 in
theorem ris_any (L : List Id) (ad : Option Addr) (n cap : Nat) (w : World) (hL : RdV w (.slice ad n cap) L) (hmax : L.length < 500000) :
    Calls Tryd.prog 50 #[.slice ad n cap] w fun e w' => e = .returned (.bool (L == setL L)) ∧ Below w.heap.size w w' := by
  have HR := Lib.hid hL
  have HS := Lib.hid (rset_any L ad n cap w hL hmax)
  clear hL
  go_enter Tryd.func50, Tryd.ntmps50
  go_wp2_with (go_at_call 81; with_reducible refine HS.out.mono ?_; rintro e w2 ⟨v2, rfl, hG2, hB2⟩)
  obtain ⟨ad2, cap2, rfl⟩ := hG2.1.form
  refine (rsame_any L (setL L) ad ad2 n cap _ cap2 w2 (HR.out.next hB2) hG2.1).mono ?_
  rintro e w3 ⟨rfl, m, rfl⟩
  go_wp2_with fail
  go_ret
  exact ⟨rfl, below_drewN hB2 m⟩
end Go.Proofs.YtmaolmogccknbaaDoor.ids

namespace Go.Proofs.YtmaolmogccknbaaDoor.ids
open Go.RowKit Go.Proofs.YtmaolmogccknbaaDoor.mem Go.Proofs.YtmaolmogccknbaaDoor.sha

def splice (cur : Array Value) (off : Nat) (ys : List Value) : Array Value := (cur.toList.take off ++ ys ++ cur.toList.drop (off + ys.length)).toArray
theorem splice_get (cur : Array Value) (off : Nat) (ys : List Value) (h : off + ys.length ≤ cur.size) (k : Nat) : (splice cur off ys)[k]? = if k < off then cur[k]? else if k < off + ys.length then ys[k - off]? else cur[k]? := by
  have hl : cur.toList.length = cur.size := Array.length_toList
  unfold splice
  rw [List.getElem?_toArray, List.append_assoc]
  have h1 : (cur.toList.take off).length = off := by rw [List.length_take]; omega
  by_cases a : k < off
  · rw [if_pos a, List.getElem?_append_left (by omega), List.getElem?_take, if_pos a, Array.getElem?_toList]
  · rw [if_neg a, List.getElem?_append_right (by omega), h1]
    by_cases b : k < off + ys.length
    · rw [if_pos b, List.getElem?_append_left (by omega)]
    · rw [if_neg b, List.getElem?_append_right (by omega), List.getElem?_drop, show off + ys.length + (k - off - ys.length) = k by omega, Array.getElem?_toList]
theorem splice_size (cur : Array Value) (off : Nat) (ys : List Value) (h : off + ys.length ≤ cur.size) : (splice cur off ys).size = cur.size := by
  have hl : cur.toList.length = cur.size := Array.length_toList
  unfold splice
  rw [List.size_toArray, List.length_append, List.length_append, List.length_take, List.length_drop]
  omega
theorem one_bvl (y : List UInt8) : ∀ v ∈ bv y, v.oneCell' = true := by
  intro v hv
  simp only [bv, List.mem_map] at hv
  obtain ⟨x, _, rfl⟩ := hv
  rfl
theorem run_store_mid {w : World} {g off : Nat} {cur : Array Value} {t : TypeId} (hg : w.heap[g]? = some (.cells cur t (0, 0))) (y : List UInt8) (hy : y.length = 32) (hfit : off + 32 ≤ cur.size) :
    (Instr.storeAt 23 (.pointer (some ⟨g, off, none⟩)) (.agg (bv y).toArray)).run Tryd.prog w = .ok () (w.setRow g (splice cur off (bv y))) := by
  have hlen : (bv y).length = 32 := by rw [bv_length, hy]
  have hst := run_storeCells_at Tryd.prog g off t (bv y) 0 cur w hg (by omega) (one_bvl y)
  obtain ⟨i, hi, _, hs, _⟩ := info_parts info_id
  have e : (bv y).toArray.size = 32 := by rw [List.size_toArray, hlen]
  simp only [Instr.storeAt, Instr.sureAddr, storeVar, sizeOf, typeInfo, Value.cells, Sem.run_bind, Sem.run_pure, Result.andThen_ok]
  simp [hi, hs, e, hst, splice]
theorem fl_set_get {L : List (List UInt8)} (hL : okIds L) {i : Nat} (hi : i < L.length) {y : List UInt8} (hy : y.length = 32) (k : Nat) : (fl (L.set i y))[k]? = if k < i * 32 then (fl L)[k]? else if k < i * 32 + 32 then (bv y)[k - i * 32]? else (fl L)[k]? := by
  have e : L.set i y = L.take i ++ y :: L.drop (i + 1) := List.set_eq_take_append_cons_drop.trans (by rw [if_pos hi])
  have hf : fl (L.set i y) = (fl L).take (i * 32) ++ (bv y ++ (fl L).drop ((i + 1) * 32)) := by
    rw [e, fl_append, fl, fl_take i hL, fl_drop (i + 1) hL]
  have hlen := fl_len hL
  have h1 : ((fl L).take (i * 32)).length = i * 32 := by rw [List.length_take, hlen]; omega
  have h2 : (bv y).length = 32 := by rw [bv_length, hy]
  rw [hf]
  by_cases a : k < i * 32
  · rw [if_pos a, List.getElem?_append_left (by omega), List.getElem?_take, if_pos a]
  · rw [if_neg a, List.getElem?_append_right (by omega), h1]
    by_cases b : k < i * 32 + 32
    · rw [if_pos b, List.getElem?_append_left (by omega)]
    · rw [if_neg b, List.getElem?_append_right (by omega), List.getElem?_drop, h2, show (i + 1) * 32 + (k - i * 32 - 32) = k by omega]
theorem okIds.set {L : List (List UInt8)} (h : okIds L) (i : Nat) {y : List UInt8} (hy : y.length = 32) : okIds (L.set i y) := fun z hz => by
  rcases List.mem_or_eq_of_mem_set hz with h1 | h1
  · exact h z h1
  · rw [h1]; exact hy

theorem OwnI.store {w : World} {F : Nat → Prop} {v : Value} {L : List (List UInt8)} (h : OwnI w F v L) {i : Nat} (hi : i < L.length) {y : List UInt8} (hy : y.length = 32) :
    ∃ b c w', v = .slice (some ⟨b, 0, none⟩) L.length c ∧ F b ∧ (Instr.storeAt 23 (.pointer (some ⟨b, i * 32, none⟩)) (.agg (bv y).toArray)).run Tryd.prog w = .ok () w' ∧ OwnI w' F v (L.set i y) ∧ Turn (· = b) w w' := by
  obtain ⟨hok, ⟨hxl, hrow⟩, hF⟩ := h
  rcases hrow with ⟨rfl, hn⟩ | ⟨g, cap, cur, rfl, hb, hg, hle, hcm, hcs, htake⟩
  · omega
  have hlen := fl_len hok
  have hbl : (bv y).length = 32 := by rw [bv_length, hy]
  have hfit : i * 32 + 32 ≤ cur.size := by rw [hcs]; omega
  refine ⟨g, cap, _, rfl, hF g rfl, run_store_mid hg y hy hfit, ⟨hok.set i hy, ⟨by rw [fl_len (hok.set i hy)], .inr ⟨g, cap, _, by rw [List.length_set], Nat.zero_le _, setRow_heap w g cur _ _ _ hg, by rw [List.length_set]; exact hle, hcm, by rw [splice_size _ _ _ (by omega)]; exact hcs, ?_⟩⟩, fun k hk => hF k hk⟩, turn_row w g _⟩
  apply List.ext_getElem?
  intro k
  rw [List.getElem?_take, List.length_set, fl_set_get hok hi hy]
  have hcell : ∀ k, k < L.length * 32 → cur[k]? = (fl L)[k]? := fun k hk => by
    rw [← htake, List.getElem?_take, if_pos hk, Array.getElem?_toList]
  by_cases hk : k < L.length * 32
  · rw [if_pos hk, Array.getElem?_toList, splice_get _ _ _ (by omega), hbl]
    by_cases a : k < i * 32
    · rw [if_pos a, if_pos a]; exact hcell k hk
    · rw [if_neg a, if_neg a]
      by_cases d : k < i * 32 + 32
      · rw [if_pos d, if_pos d]
      · rw [if_neg d, if_neg d]; exact hcell k hk
  · rw [if_neg hk, if_neg (by omega), if_neg (by omega), List.getElem?_eq_none (by omega)]
/-- in a plain region -/
theorem step_store_at {ops : Array Oper} {rest : List Oper} {o : Oper} {a : Act} {w w' : World} {Q : Exit → Act → World → Prop} {x y : Operand} {p v : Value} (hg : o.guard = none) (ho : o.op = .store 23 x y) (hx : a.eval x = p) (hy : a.eval y = v)
    (hr : (Instr.storeAt 23 p v).run Tryd.prog w = .ok () w') (h : wpList Tryd.prog ops Q rest (a.put o.dst undef) w') : wpList Tryd.prog ops Q (o :: rest) a w := by
  refine wpList_plain hg fun K hK => ?_
  unfold Oper.wp execOp
  simp only [ho, hx, hy, Sem.run_bind, hr, Result.andThen_ok, Sem.run_pure]
  exact hK _ _ h
end Go.Proofs.YtmaolmogccknbaaDoor.ids

namespace Go.Proofs.YtmaolmogccknbaaDoor.ids
open Go.RowKit Go.Proofs.YtmaolmogccknbaaDoor.mem Go.Proofs.YtmaolmogccknbaaDoor.sha

theorem want_build1 {ops : Array Oper} {o : Oper} {a : Act} {w : World} {K : Act → World → Prop} {Q : Exit → Act → World → Prop} {E : Prop} {x : Operand} {y : List UInt8} (hg : o.guard = none)
    (ho : o.op = .buildSlice 24 1 #[(0, x)]) (hx : a.eval x = .agg (bv y).toArray) (hy : y.length = 32)
    (hK : K (a.put o.dst (.slice (some ⟨w.heap.size, 0, none⟩) 1 1)) (w.alloc (.cells (bv y).toArray 23))) : if Region.wanted o (yielded ops a.tmps) = true then Oper.wp Tryd.prog o a w K Q else E := by
  have hw : Region.wanted o (yielded ops a.tmps) = true := by simp [Region.wanted, hg]
  rw [if_pos hw]
  unfold Oper.wp execOp
  have hr := run_build1 w y hy
  simp only [ho, List.map_toArray, List.map_cons, List.map_nil, hx, Sem.run_bind, hr, Result.andThen_ok, Sem.run_pure]
  exact hK
/-- '[]Id{x}' as a list that reads -/
theorem RdV.one (w : World) (x : List UInt8) (hx : x.length = 32) : RdV (w.alloc (.cells (bv x).toArray 23)) (.slice (some ⟨w.heap.size, 0, none⟩) 1 1) [x] := by
  have := RdV.laid w [x] (fun y hy => by rw [List.mem_singleton.1 hy]; exact hx) (by simp)
  rw [fl_one] at this
  exact this
/-- one more -/
theorem run_append_one {w : World} {F : Nat → Prop} {v : Value} {L : List (List UInt8)} {x : List UInt8} (hown : OwnI w F v L) (hx : x.length = 32) (hL : L.length ≤ 1000000) (hn : New F w) (ty : TypeId) :
    ∃ v' w', (Builtin.append_ #[24, 24] ty #[v, .slice (some ⟨w.heap.size, 0, none⟩) 1 1]).run Tryd.prog (w.alloc (.cells (bv x).toArray 23)) = .ok v' w' ∧ OwnI w' F v' (L ++ [x]) ∧ Turn (fun k => v.ownBlock = some k ∨ w.heap.size ≤ k) w w' := by
  have ha : Turn (w.heap.size ≤ ·) w (w.alloc (.cells (bv x).toArray 23)) := (Turn.refl _ w).alloc (fun _ h => h) _
  have hs : (w.alloc (.cells (bv x).toArray 23)).heap.size = w.heap.size + 1 := by simp
  obtain ⟨v', w', hr, ho, ht⟩ := run_append_rd (hown.below ((Below.refl _ _).alloc (Nat.le_refl _) _)) (RdV.one w x hx) (by rw [List.length_singleton]; omega) (fun k hk => hn k (by rw [hs] at hk; omega)) ty
  exact ⟨v', w', hr, ho, (ha.mono fun k hk => .inr hk).trans (ht.mono fun k hk => hk.imp id fun h => by rw [hs] at h; omega)⟩
end Go.Proofs.YtmaolmogccknbaaDoor.ids

namespace Go.Proofs.YtmaolmogccknbaaDoor.ids
open Go.RowKit Go.Proofs.YtmaolmogccknbaaDoor.mem Go.Proofs.YtmaolmogccknbaaDoor.sha

theorem run_store_cells {w : World} {g off : Nat} {cur : Array Value} {t : TypeId} (hg : w.heap[g]? = some (.cells cur t (0, 0))) (ty : TypeId) (cs : List Value) (hi : (Tryd.prog.info? ty).map (·.size) = some cs.length) (h1 : ∀ u ∈ cs, u.oneCell' = true) (hfit : off + cs.length ≤ cur.size) :
    (Instr.storeAt ty (.pointer (some ⟨g, off, none⟩)) (.agg cs.toArray)).run Tryd.prog w = .ok () (w.setRow g (ids.splice cur off cs)) := by
  have hst := run_storeCells_at Tryd.prog g off t cs 0 cur w hg (by omega) h1
  cases hq : Tryd.prog.info? ty with
  | none => simp [hq] at hi
  | some i =>
    have hs : i.size = cs.length := by simpa [hq] using hi
    simp only [Instr.storeAt, Instr.sureAddr, storeVar, sizeOf, typeInfo, Value.cells, Sem.run_bind, Sem.run_pure, Result.andThen_ok]
    simp [hq, hs, hst, ids.splice]
theorem splice_all (cur : Array Value) (cs : List Value) (h : cs.length = cur.size) : ids.splice cur 0 cs = cs.toArray := by
  have hl : cur.toList.length = cur.size := Array.length_toList
  unfold ids.splice
  rw [List.take_zero, List.nil_append, Nat.zero_add, List.drop_of_length_le (by omega), List.append_nil]
theorem below_row' {B : Nat} {w0 w : World} {g : Nat} (hb : Below B w0 w) (hg : B ≤ g) (cs : Array Value) : Below B w0 (w.setRow g cs) := hb.trans ((turn_row w g cs).below fun j hj => by rw [hj]; exact hg)
end Go.Proofs.YtmaolmogccknbaaDoor.ids
